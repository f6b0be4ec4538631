/- What this text proves: the walk of the statement SeekLooks over this program: it answers true for any times and any time. -/
import Derived.Test.YtjackljpikkidaaEkRef
import Derived.Test.YtjackljpikkidaaEkAwake
namespace Go.Proofs.Ytjackljpikkidaa
open Go.RowKit

theorem run_uptoI {P : Program} {t e : TypeId} (ht : P.underlying t = some (.slice e)) (hsz : (P.info? e).map (·.size) = some 1) (p : Option Addr) (n c h : Nat) (y : Int) (hy : y = (h : Int)) (hh : h ≤ c) (w : World) :
    (Instr.slice t (.slice p n c) none (some (.int .i64 y)) none).run P w = .ok (.slice p h c) w := run_upto ht hsz p n c h y hy hh w

theorem s_intE : (Try.prog.info? 3).map (·.size) = some 1 := by kernel_rfl

set_option maxRecDepth 100000 in
set_option maxHeartbeats 2000000 in
theorem ekLooksWalk (v : Value) (T : List Int) (t : Int) (w : World) (hi : IZ w v T) :
    Calls Try.prog 3 #[v, .int .i64 t] w fun x w' => x = .returned (.bool true) ∧ Below w.heap.size w w' := by
  obtain ⟨p, c, rfl⟩ := hi.shape
  obtain ⟨_, hc1, hc2⟩ := hi.caps
  have hm := hi.len_le
  unfold maxLen at hm hc2
  obtain ⟨k, hk⟩ : ∃ k, k = min T.length 300 := ⟨_, rfl⟩
  have hk1 : k ≤ T.length := by omega
  have hk2 : k ≤ 300 := by omega
  have emin : (if (300 : Int) < (T.length : Int) then (300 : Int) else (T.length : Int)) = (k : Int) := by split <;> omega
  have hf := hi.front k hk1
  obtain ⟨T', hT'⟩ : ∃ T', T' = T.take k := ⟨_, rfl⟩
  have hl' : T'.length ≤ 1000000000 := by rw [hT', List.length_take]; omega
  rw [← hT'] at hf
  have k1 : ∀ w, (Instr.slice 22 (.slice p T.length c) none (some (.int .i64 (k : Int))) none).run Try.prog w = .ok (.slice p k c) w := fun w => run_upto (P := Try.prog) Try.underlying22 s_intE p T.length c k k rfl (by omega) w
  have h1 := fun w (h : IZ w (.slice p k c) T') => probes_any _ T' t w h hl'
  have h2 := fun w (h : IZ w (.slice p k c) T') => rprobes_any _ T' t w h hl'
  have h3 := fun w (h : IZ w (.slice p k c) T') => find_any _ T' t w h hl'
  have h4 := fun w (h : IZ w (.slice p k c) T') => rfind_any _ T' t w h hl'
  generalize (lookF T' t).1 = R at *
  generalize foundZ T' t = z at *
  clear hT' hl' hi hk
  go_enter Try.func3, Try.ntmps3
  go_wp2_with fail
  refine (h1 _ hf).mono ?_
  rintro x w1 ⟨u1, rfl, i1, b1⟩
  clear h1
  obtain ⟨p1, c1, rfl⟩ := i1.shape
  have f1 := hf.later b1
  go_wp2_with fail
  refine (h2 _ f1).mono ?_
  rintro x w2 ⟨u2, rfl, i2, b2⟩
  clear h2
  obtain ⟨p2, c2, rfl⟩ := i2.shape
  have hE := slequal_same _ _ R w2 (i1.later b2) i2
  have f2 := f1.later b2
  have bA := b1.trans (b2.mono b1.size)
  clear i1 i2 f1 hf
  go_wp2_with fail
  refine hE.mono ?_
  rintro x w3 ⟨rfl, b3⟩
  have f3 := f2.later b3
  have bB := bA.trans (b3.mono bA.size)
  clear hE f2
  go_wp2_with fail
  refine (h3 _ f3).mono ?_
  rintro x w4 ⟨rfl, b4⟩
  have f4 := f3.later b4
  have bC := bB.trans (b4.mono bB.size)
  clear h3 f3
  go_wp2_with fail
  refine (h4 _ f4).mono ?_
  rintro x w5 ⟨rfl, b5⟩
  have bD := bC.trans (b5.mono bC.size)
  clear h4 f4
  go_wp2_with fail
  refine (ekAwake_any _).mono ?_
  rintro x w6 ⟨rfl, b6⟩
  have bE := bD.trans (b6.mono bD.size)
  go_wp2
  go_ret
  exact ⟨rfl, bE⟩

end Go.Proofs.Ytjackljpikkidaa
