/- What this text proves: the walk of the document's Uint (annalsref04.Reader) over this program: the next number, or the error. -/
import Derived.Test.YtldmbfemoepfkaaXBase
namespace Go.Proofs.Ytldmbfemoepfkaa
open Go.RowKit

/-- What the document's Uint answers. -/
def XSaid (g : Nat) (w : World) (l : List UInt8) (most : Int) (x : Ending) (w' : World) : Prop := x = .returned (.int .i64 ((uintF l most).2.1 : Int)) ∧ XR w' g (uintF l most).2.2 (uintF l most).1 ∧ Only g w w'

theorem XR.xd {w : World} {g : Nat} {l : List UInt8} {e : Int} (h : XR w g l e) : w.cell? ⟨g, 1, none⟩ = some (.int .i64 e) := by
  obtain ⟨p, c, h1, _⟩ := h
  exact h1.cells.2

theorem take_one (g : Nat) (x : UInt8) (r : List UInt8) (w : World) (h : XR w g (x :: r) 0) (hsz : (x :: r).length ≤ 140737488355328) :
    Calls Try.prog 37 #[.pointer (some ⟨g, 0, none⟩), .int .i64 1] w fun y w' => ∃ b o c, y = .returned (.slice (some ⟨b, o, none⟩) 1 c) ∧ b ≠ g ∧ w'.cell? ⟨b, o, none⟩ = some (.int .u8 (x.toNat : Int)) ∧ XR w' g r 0 ∧ Only g w w' := by
  refine (xtake_ok g (x :: r) 1 w h (by simp) hsz).mono fun y w' ⟨p, c, hy, ⟨hh, hn⟩, hx, ho⟩ => ?_
  obtain ⟨b, o, rfl, hc⟩ := hh.addr (by omega)
  exact ⟨b, o, c, hy, (hn _ _ _ rfl).1, by have := hc 0 x rfl; simpa [bc] using this, by simpa using hx, ho⟩

set_option maxHeartbeats 1000000 in
theorem xuint_nil (g : Nat) (most : Int) (w : World) (h : XR w g [] 0) : Calls Try.prog 17 #[.pointer (some ⟨g, 0, none⟩), .int .i64 most] w (XSaid g w [] most) := by
  have k := xtake_short g [] 1 w h (by simp)
  clear h
  go_enter Try.func17, Try.ntmps17
  go_wp2_with (first | (go_at_call 37; refine k.mono ?_; rintro e w1 ⟨rfl, hx1, ho1⟩))
  go_ret
  exact ⟨rfl, hx1, ho1⟩

set_option maxHeartbeats 1000000 in
theorem xuint_stays (g : Nat) (e most : Int) (w : World) (h : XR w g [] e) (he : e ≠ 0) : Calls Try.prog 17 #[.pointer (some ⟨g, 0, none⟩), .int .i64 most] w fun x w' => x = .returned (.int .i64 0) ∧ w' = w := by
  have k := xtake_err g e 1 w h he
  clear h
  go_enter Try.func17, Try.ntmps17
  go_wp2_with (first | (go_at_call 37; refine k.mono ?_; rintro e w1 ⟨rfl, hw⟩; have hw2 := hw.symm; clear hw; subst hw2))
  go_ret
  exact ⟨rfl, rfl⟩

set_option maxHeartbeats 2000000 in
theorem xuint_big (g : Nat) (x : UInt8) (r : List UInt8) (most : Int) (w : World) (h : XR w g (x :: r) 0) (hsz : (x :: r).length ≤ 140737488355328) (h8 : 8 < x.toNat) : Calls Try.prog 17 #[.pointer (some ⟨g, 0, none⟩), .int .i64 most] w (XSaid g w (x :: r) most) := by
  have k := take_one g x r w h hsz
  have HU : Hid (uintF (x :: r) most = (5, 0, [])) := by show uintF (x :: r) most = _; simp only [uintF]; rw [if_pos h8]
  have hx := x.toNat_lt
  have h82 : (8 : Int) < (x.toNat : Int) := by omega
  have hrem : (x.toNat : Int).tmod 9 = ((x.toNat % 9 : Nat) : Int) := by rw [Int.tmod_eq_emod_of_nonneg (by omega)]; omega
  have hrem2 : (x.toNat : Int) % 9 = ((x.toNat % 9 : Nat) : Int) := by omega
  generalize x.toNat % 9 = z at *
  clear h
  go_enter Try.func17, Try.ntmps17
  go_wp2_with fail
  refine k.mono ?_
  rintro e w1 ⟨b, o, d, rfl, hbg, hc1, hx1, ho1⟩
  have kf := xfail_first g r 5 w1 hx1
  clear k
  go_wp2_with fail
  refine kf.mono ?_
  rintro e w2 ⟨rfl, hx2, ho2⟩
  have hc2 : w2.cell? ⟨b, o, none⟩ = some (.int .u8 (x.toNat : Int)) := by rw [World.cell?_of_block (w := w1) (ho2.block b hbg (cell_lt hc1))]; exact hc1
  have ho02 := ho1.trans ho2
  have kt := xtake_err g 5 z w2 hx2 (by decide)
  have ks := xfail_stays g [] 5 4 w2 hx2 (by decide)
  have ce := hx2.xd
  clear kf hc1 hx1 ho1 ho2
  go_wp2_with (first | (go_at_call 37; refine kt.mono ?_; rintro e w3 ⟨rfl, hw⟩; have hw2 := hw.symm; clear hw; subst hw2))
  go_loopw [7, 30] (fun n i wr => i = .int .i64 0 ∧ n = .int .u64 0 ∧ w2 = wr) (fun _ _ _ => 0)
  case atStart => exact ⟨rfl, rfl, rfl⟩
  case round =>
    obtain ⟨rfl, rfl, rfl⟩ := hrel
    by_cases hm : most < 0
    · go_wp2_with (first | (go_at_call 38; refine ks.mono ?_; rintro e w3 ⟨rfl, hw⟩; have hw2 := hw.symm; clear hw; subst hw2))
      go_ret
      refine ⟨?_, ?_, ho02⟩
      · rw [HU.out]; rfl
      · rw [HU.out]; exact hx2
    · have hd : decide (most < 0) = false := by simpa using hm
      go_wp2
      go_ret
      refine ⟨?_, ?_, ho02⟩
      · rw [HU.out]; rfl
      · rw [HU.out]; exact hx2

set_option maxHeartbeats 2000000 in
theorem xuint_short (g : Nat) (x : UInt8) (r : List UInt8) (most : Int) (w : World) (h : XR w g (x :: r) 0) (hsz : (x :: r).length ≤ 140737488355328) (h8 : x.toNat ≤ 8) (hs : r.length < x.toNat) : Calls Try.prog 17 #[.pointer (some ⟨g, 0, none⟩), .int .i64 most] w (XSaid g w (x :: r) most) := by
  have k := take_one g x r w h hsz
  have HU : Hid (uintF (x :: r) most = (3, 0, [])) := by show uintF (x :: r) most = _; simp only [uintF]; rw [if_neg (by omega), if_pos hs]
  have hx := x.toNat_lt
  have h82 : (x.toNat : Int) ≤ 8 := by omega
  have hrem : (x.toNat : Int).tmod 9 = (x.toNat : Int) := by rw [Int.tmod_eq_emod_of_nonneg (by omega)]; omega
  have hrem2 : (x.toNat : Int) % 9 = (x.toNat : Int) := by omega
  clear h
  go_enter Try.func17, Try.ntmps17
  go_wp2_with fail
  refine k.mono ?_
  rintro e w1 ⟨b, o, d, rfl, hbg, hc1, hx1, ho1⟩
  have kt1 := xtake_short g r x.toNat w1 hx1 hs
  clear k
  go_wp2_with fail
  refine kt1.mono ?_
  rintro e w2 ⟨rfl, hx2, ho2⟩
  have ho02 := ho1.trans ho2
  have ks := xfail_stays g [] 3 4 w2 hx2 (by decide)
  have ce := hx2.xd
  clear kt1 hc1 hx1 ho1 ho2
  go_wp2
  go_loopw [7, 30] (fun n i wr => i = .int .i64 0 ∧ n = .int .u64 0 ∧ w2 = wr) (fun _ _ _ => 0)
  case atStart => exact ⟨rfl, rfl, rfl⟩
  case round =>
    obtain ⟨rfl, rfl, rfl⟩ := hrel
    by_cases hm : most < 0
    · go_wp2_with (first | (go_at_call 38; refine ks.mono ?_; rintro e w3 ⟨rfl, hw⟩; have hw2 := hw.symm; clear hw; subst hw2))
      go_ret
      refine ⟨?_, ?_, ho02⟩
      · rw [HU.out]; rfl
      · rw [HU.out]; exact hx2
    · have hd : decide (most < 0) = false := by simpa using hm
      go_wp2
      go_ret
      refine ⟨?_, ?_, ho02⟩
      · rw [HU.out]; rfl
      · rw [HU.out]; exact hx2

set_option maxHeartbeats 2000000 in
theorem xuint_zero (g : Nat) (r : List UInt8) (most : Int) (w : World) (h : XR w g (0 :: r) 0) (hsz : ((0 : UInt8) :: r).length ≤ 140737488355328) : Calls Try.prog 17 #[.pointer (some ⟨g, 0, none⟩), .int .i64 most] w (XSaid g w (0 :: r) most) := by
  have k := take_one g 0 r w h hsz
  simp only [UInt8.toNat_zero] at k
  have hU : uintF (0 :: r) most = if most < 0 then (4, 0, []) else (0, 0, r) := by simp [uintF, valL]
  have hszr : r.length ≤ 140737488355328 := by simp at hsz; omega
  clear h
  go_enter Try.func17, Try.ntmps17
  go_wp2_with fail
  refine k.mono ?_
  rintro e w1 ⟨b, o, d, rfl, hbg, hc1, hx1, ho1⟩
  have kt1 := xtake_ok g r 0 w1 hx1 (by omega) hszr
  clear k
  go_wp2_with fail
  refine kt1.mono ?_
  rintro e w2 ⟨p2, d2, rfl, _, hx2, ho2⟩
  simp only [List.drop_zero] at hx2
  have ho02 := ho1.trans ho2
  have ks := xfail_first g r 4 w2 hx2
  have ce := hx2.xd
  clear kt1 hc1 hx1 ho1 ho2
  go_wp2
  go_loopw [7, 30] (fun n i wr => i = .int .i64 0 ∧ n = .int .u64 0 ∧ w2 = wr) (fun _ _ _ => 0)
  case atStart => exact ⟨rfl, rfl, rfl⟩
  case round =>
    obtain ⟨rfl, rfl, rfl⟩ := hrel
    by_cases hm : most < 0
    · rw [if_pos hm] at hU
      have HU : Hid (uintF (0 :: r) most = (4, 0, [])) := hU
      clear hU
      go_wp2_with (first | (go_at_call 38; refine ks.mono ?_; rintro e w3 ⟨rfl, hx3, ho3⟩; have ce3 := hx3.xd))
      go_ret
      refine ⟨?_, ?_, ho02.trans ho3⟩
      · rw [HU.out]; rfl
      · rw [HU.out]; exact hx3
    · rw [if_neg hm] at hU
      have HU : Hid (uintF (0 :: r) most = (0, 0, r)) := hU
      have hd : decide (most < 0) = false := by simpa using hm
      clear hU
      go_wp2
      go_ret
      refine ⟨?_, ?_, ho02⟩
      · rw [HU.out]; rfl
      · rw [HU.out]; exact hx2

end Go.Proofs.Ytldmbfemoepfkaa
