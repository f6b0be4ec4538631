/- What this text proves: the walk of the statements' few (annalslaw11) over this program: the first forty digests. -/
import Derived.Test.YtichffdkihifpaaDoorKRange
namespace Go.Proofs.YtichffdkihifpaaDoor
open Go.RowKit

theorem PA.kfront {w : World} {p : Option Addr} {n c : Nat} {ls : List (List UInt8)} (h : PA w (.slice p n c) ls) (k : Nat) (hk : k ≤ n) : PA w (.slice p k c) (ls.take k) := by
  have hs := h.seg 0 k (Nat.zero_le _) hk
  have e1 : cutP p c 0 = p := by unfold cutP; cases p <;> simp [Addr.add]
  have e2 : Go.Proofs.YtichffdkihifpaaDoor.seg ls 0 k = ls.take k := by simp [Go.Proofs.YtichffdkihifpaaDoor.seg]
  rw [e1, e2, Nat.sub_zero, Nat.sub_zero] at hs
  exact hs

theorem run_kupto {P : Program} {t e : TypeId} (ht : P.underlying t = some (.slice e)) (hsz : (P.info? e).map (·.size) = some 1) (p : Option Addr) (n c h : Nat) (y : Int) (hy : y = (h : Int)) (hh : h ≤ c) (w : World) :
    (Instr.slice t (.slice p n c) none (some (.int .i64 y)) none).run P w = .ok (.slice p h c) w := by
  subst hy
  obtain ⟨i, hi, hs⟩ := Option.map_eq_some_iff.1 hsz
  have he : P.elem t = e := by simp [Program.elem, ht]
  rw [run_slice_h w t p n c (by rw [he]; exact ht) .i64 (h : Int) (by omega) (by omega), he]
  cases p <;> simp [Go.sizeOf, typeInfo, hi, hs, sliced, Result.andThen, Addr.add]

set_option maxRecDepth 100000 in
set_option maxHeartbeats 400000 in
theorem kfew_any (v : Value) (ls : List (List UInt8)) (w : World) (h : PA w v ls) :
    Calls Tryd.prog 8 #[v] w fun e w' => ∃ p c, e = .returned (.slice p (ls.take 40).length c) ∧ PA w (.slice p (ls.take 40).length c) (ls.take 40) ∧ w' = w := by
  obtain ⟨p, c, rfl⟩ := h.shape
  have hl := h.len.2
  unfold maxLen at hl
  by_cases h10 : ls.length ≤ 40
  · have k1 := fun w => run_kupto (P := Tryd.prog) Tryd.underlying22 s_bytes p ls.length c ls.length (ls.length : Int) rfl hl.1 w
    have e : ls.take 40 = ls := List.take_of_length_le h10
    rw [e]
    have H : Hid (PA w (.slice p ls.length c) ls) := h
    clear h e
    have hm : min (ls.length : Int) 40 = (ls.length : Int) := by omega
    go_enter Tryd.func8, Tryd.ntmps8
    go_wp2
    go_ret
    exact ⟨_, _, rfl, H.out, rfl⟩
  · have k1 := fun w => run_kupto (P := Tryd.prog) Tryd.underlying22 s_bytes p ls.length c 40 40 rfl (by omega) w
    have hp : PA w (.slice p 40 c) (ls.take 40) := h.kfront 40 (by omega)
    rw [show (ls.take 40).length = 40 by simp; omega]
    have H : Hid (PA w (.slice p 40 c) (ls.take 40)) := hp
    clear h hp
    have hm : min (ls.length : Int) 40 = 40 := by omega
    go_enter Tryd.func8, Tryd.ntmps8
    go_wp2
    go_ret
    exact ⟨_, _, rfl, H.out, rfl⟩

end Go.Proofs.YtichffdkihifpaaDoor
