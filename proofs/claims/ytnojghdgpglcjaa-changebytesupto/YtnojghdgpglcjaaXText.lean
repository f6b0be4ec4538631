/- What this text proves: the walks of the document's Bytes and Flag (annalsref04.Reader) over this program. -/
import Derived.Test.YtnojghdgpglcjaaXPos
namespace Go.Proofs.Ytnojghdgpglcjaa
open Go.RowKit

/-- What the document's Bytes answers. -/
def XBytesSaid (g : Nat) (w : World) (l : List UInt8) (most : Int) (x : Ending) (w' : World) : Prop := ∃ p c, x = .returned (.slice p (bytesF l most).2.1.length c) ∧ HBN w' g (.slice p (bytesF l most).2.1.length c) (bytesF l most).2.1 ∧ XR w' g (bytesF l most).2.2 (bytesF l most).1 ∧ Only g w w'

set_option maxHeartbeats 1000000 in
theorem xbytes_any (g : Nat) (l : List UInt8) (most : Int) (w : World) (h : XR w g l 0) (hsz : l.length ≤ 140737488355328) : Calls Try.prog 22 #[.pointer (some ⟨g, 0, none⟩), .int .i64 most] w (XBytesSaid g w l most) := by
  have ku := xuint_any g l most w h hsz
  have hle := uintF_le l most
  have hfe : (uintF l most).1 ≠ 0 → (uintF l most).2 = (0, []) := uintF_fell l most
  have hB : bytesF l most = if (uintF l most).1 ≠ 0 then ((uintF l most).1, [], []) else if (uintF l most).2.2.length < (uintF l most).2.1 then (3, [], []) else (0, (uintF l most).2.2.take (uintF l most).2.1, (uintF l most).2.2.drop (uintF l most).2.1) := rfl
  unfold XSaid at ku
  unfold XBytesSaid
  generalize bytesF l most = B at *
  generalize uintF l most = u at *
  obtain ⟨E, N, R⟩ := u
  simp only at ku hle hfe hB
  clear h
  by_cases hE : E = 0
  · subst hE
    rw [if_neg (by simp)] at hB
    by_cases hN : R.length < N
    · rw [if_pos hN] at hB
      have HB3 : Hid (B = (3, [], [])) := hB
      clear hB hfe
      go_enter Try.func22, Try.ntmps22
      go_wp2_with fail
      refine ku.mono ?_
      rintro e w1 ⟨rfl, hx1, ho1⟩
      have kt := xtake_short g R N w1 hx1 hN
      clear ku
      go_wp2_with fail
      refine kt.mono ?_
      rintro e w2 ⟨rfl, hx2, ho2⟩
      go_wp2
      go_ret
      rw [HB3.out]
      exact ⟨none, 0, rfl, HBN.nil _ _, hx2, ho1.trans ho2⟩
    · rw [if_neg hN] at hB
      have HB3 : Hid (B = (0, R.take N, R.drop N)) := hB
      have HTL : Hid ((R.take N).length = N) := by show _ = _; rw [List.length_take]; omega
      clear hB hfe
      go_enter Try.func22, Try.ntmps22
      go_wp2_with fail
      refine ku.mono ?_
      rintro e w1 ⟨rfl, hx1, ho1⟩
      have kt := xtake_ok g R N w1 hx1 (by omega) (by omega)
      clear ku
      go_wp2_with fail
      refine kt.mono ?_
      rintro e w2 ⟨p2, c2, rfl, ht2, hx2, ho2⟩
      go_wp2
      go_ret
      rw [HB3.out]
      refine ⟨p2, c2, ?_, ?_, hx2, ho1.trans ho2⟩
      · simp only [HTL.out]; rfl
      · simp only [HTL.out]; exact ht2
  · rw [if_pos hE] at hB
    have HB3 : Hid (B = (E, [], [])) := hB
    have hf := hfe hE
    simp only [Prod.mk.injEq] at hf
    obtain ⟨rfl, rfl⟩ := hf
    clear hB hfe
    go_enter Try.func22, Try.ntmps22
    go_wp2_with fail
    refine ku.mono ?_
    rintro e w1 ⟨rfl, hx1, ho1⟩
    have kt := xtake_err g E 0 w1 hx1 hE
    clear ku
    go_wp2_with fail
    refine kt.mono ?_
    rintro e w2 ⟨rfl, hw⟩
    have hw2 := hw.symm
    clear hw
    subst hw2
    go_wp2
    go_ret
    rw [HB3.out]
    exact ⟨none, 0, rfl, HBN.nil _ _, hx1, ho1⟩

set_option maxHeartbeats 1000000 in
theorem xbytes_stays (g : Nat) (e most : Int) (w : World) (h : XR w g [] e) (he : e ≠ 0) : Calls Try.prog 22 #[.pointer (some ⟨g, 0, none⟩), .int .i64 most] w fun x w' => x = .returned (.slice none 0 0) ∧ w' = w := by
  have ku := xuint_stays g e most w h he
  have kt := xtake_err g e 0 w h he
  clear h
  go_enter Try.func22, Try.ntmps22
  go_wp2_with (first | (go_at_call 21; refine ku.mono ?_; rintro e w1 ⟨rfl, hw⟩; have hw2 := hw.symm; clear hw; subst hw2) | (go_at_call 30; refine kt.mono ?_; rintro e w1 ⟨rfl, hw⟩; have hw2 := hw.symm; clear hw; subst hw2))
  go_ret
  exact ⟨rfl, rfl⟩

/-- What the document's Flag answers. -/
def XFlagSaid (g : Nat) (w : World) (l : List UInt8) (x : Ending) (w' : World) : Prop := x = .returned (.bool (flagF l).2.1) ∧ XR w' g (flagF l).2.2 (flagF l).1 ∧ Only g w w'

end Go.Proofs.Ytnojghdgpglcjaa
