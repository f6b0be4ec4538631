/- What this text proves: the walks of the document's Bytes and Flag (annalsref04.Reader) over this program. -/
import Derived.Test.YtldmbfemoepfkaaXPos
namespace Go.Proofs.Ytldmbfemoepfkaa
open Go.RowKit

/-- What the document's Bytes answers. -/
def XBytesSaid (g : Nat) (w : World) (l : List UInt8) (most : Int) (x : Ending) (w' : World) : Prop := ∃ p c, x = .returned (.slice p (bytesF l most).2.1.length c) ∧ HBN w' g (.slice p (bytesF l most).2.1.length c) (bytesF l most).2.1 ∧ XR w' g (bytesF l most).2.2 (bytesF l most).1 ∧ Only g w w'

set_option maxHeartbeats 1000000 in
theorem xbytes_any (g : Nat) (l : List UInt8) (most : Int) (w : World) (h : XR w g l 0) (hsz : l.length ≤ 140737488355328) : Calls Try.prog 39 #[.pointer (some ⟨g, 0, none⟩), .int .i64 most] w (XBytesSaid g w l most) := by
  have ku := xuint_any g l most w h hsz
  have hle := uintF_le l most
  have hfe : (uintF l most).1 ≠ 0 → (uintF l most).2 = (0, []) := uintF_fell l most
  have hB : bytesF l most = if (uintF l most).1 ≠ 0 then ((uintF l most).1, [], []) else if (uintF l most).2.2.length < (uintF l most).2.1 then (3, [], []) else (0, (uintF l most).2.2.take (uintF l most).2.1, (uintF l most).2.2.drop (uintF l most).2.1) := rfl
  unfold XSaid at ku
  unfold XBytesSaid
  generalize bytesF l most = B at *
  generalize uintF l most = u at *
  obtain ⟨E, N, R⟩ := u
  simp only at ku hle hfe hB
  clear h
  by_cases hE : E = 0
  · subst hE
    rw [if_neg (by simp)] at hB
    by_cases hN : R.length < N
    · rw [if_pos hN] at hB
      have HB3 : Hid (B = (3, [], [])) := hB
      clear hB hfe
      go_enter Try.func39, Try.ntmps39
      go_wp2_with fail
      refine ku.mono ?_
      rintro e w1 ⟨rfl, hx1, ho1⟩
      have kt := xtake_short g R N w1 hx1 hN
      clear ku
      go_wp2_with fail
      refine kt.mono ?_
      rintro e w2 ⟨rfl, hx2, ho2⟩
      go_wp2
      go_ret
      rw [HB3.out]
      exact ⟨none, 0, rfl, HBN.nil _ _, hx2, ho1.trans ho2⟩
    · rw [if_neg hN] at hB
      have HB3 : Hid (B = (0, R.take N, R.drop N)) := hB
      have HTL : Hid ((R.take N).length = N) := by show _ = _; rw [List.length_take]; omega
      clear hB hfe
      go_enter Try.func39, Try.ntmps39
      go_wp2_with fail
      refine ku.mono ?_
      rintro e w1 ⟨rfl, hx1, ho1⟩
      have kt := xtake_ok g R N w1 hx1 (by omega) (by omega)
      clear ku
      go_wp2_with fail
      refine kt.mono ?_
      rintro e w2 ⟨p2, c2, rfl, ht2, hx2, ho2⟩
      go_wp2
      go_ret
      rw [HB3.out]
      refine ⟨p2, c2, ?_, ?_, hx2, ho1.trans ho2⟩
      · simp only [HTL.out]; rfl
      · simp only [HTL.out]; exact ht2
  · rw [if_pos hE] at hB
    have HB3 : Hid (B = (E, [], [])) := hB
    have hf := hfe hE
    simp only [Prod.mk.injEq] at hf
    obtain ⟨rfl, rfl⟩ := hf
    clear hB hfe
    go_enter Try.func39, Try.ntmps39
    go_wp2_with fail
    refine ku.mono ?_
    rintro e w1 ⟨rfl, hx1, ho1⟩
    have kt := xtake_err g E 0 w1 hx1 hE
    clear ku
    go_wp2_with fail
    refine kt.mono ?_
    rintro e w2 ⟨rfl, hw⟩
    have hw2 := hw.symm
    clear hw
    subst hw2
    go_wp2
    go_ret
    rw [HB3.out]
    exact ⟨none, 0, rfl, HBN.nil _ _, hx1, ho1⟩

set_option maxHeartbeats 1000000 in
theorem xbytes_stays (g : Nat) (e most : Int) (w : World) (h : XR w g [] e) (he : e ≠ 0) : Calls Try.prog 39 #[.pointer (some ⟨g, 0, none⟩), .int .i64 most] w fun x w' => x = .returned (.slice none 0 0) ∧ w' = w := by
  have ku := xuint_stays g e most w h he
  have kt := xtake_err g e 0 w h he
  clear h
  go_enter Try.func39, Try.ntmps39
  go_wp2_with (first | (go_at_call 17; refine ku.mono ?_; rintro e w1 ⟨rfl, hw⟩; have hw2 := hw.symm; clear hw; subst hw2) | (go_at_call 37; refine kt.mono ?_; rintro e w1 ⟨rfl, hw⟩; have hw2 := hw.symm; clear hw; subst hw2))
  go_ret
  exact ⟨rfl, rfl⟩

/-- What the document's Flag answers. -/
def XFlagSaid (g : Nat) (w : World) (l : List UInt8) (x : Ending) (w' : World) : Prop := x = .returned (.bool (flagF l).2.1) ∧ XR w' g (flagF l).2.2 (flagF l).1 ∧ Only g w w'

set_option maxHeartbeats 1000000 in
theorem xflag_stays (g : Nat) (e : Int) (w : World) (h : XR w g [] e) (he : e ≠ 0) : Calls Try.prog 19 #[.pointer (some ⟨g, 0, none⟩)] w fun x w' => x = .returned (.bool false) ∧ w' = w := by
  have kt := xtake_err g e 1 w h he
  clear h
  go_enter Try.func19, Try.ntmps19
  go_wp2_with (first | (go_at_call 37; refine kt.mono ?_; rintro e w1 ⟨rfl, hw⟩; have hw2 := hw.symm; clear hw; subst hw2))
  go_ret
  exact ⟨rfl, rfl⟩

set_option maxHeartbeats 1000000 in
theorem xflag_any (g : Nat) (l : List UInt8) (w : World) (h : XR w g l 0) (hsz : l.length ≤ 140737488355328) : Calls Try.prog 19 #[.pointer (some ⟨g, 0, none⟩)] w (XFlagSaid g w l) := by
  cases l with
  | nil =>
    have kt := xtake_short g [] 1 w h (by simp)
    clear h
    go_enter Try.func19, Try.ntmps19
    go_wp2_with (first | (go_at_call 37; refine kt.mono ?_; rintro e w1 ⟨rfl, hx1, ho1⟩))
    go_ret
    exact ⟨rfl, hx1, ho1⟩
  | cons x r =>
    have k := take_one g x r w h hsz
    have hx := x.toNat_lt
    clear h
    by_cases h1 : 1 < x.toNat
    · have h12 : (1 : Int) < (x.toNat : Int) := by omega
      have HF : Hid (flagF (x :: r) = (5, false, [])) := by show flagF (x :: r) = _; simp only [flagF]; rw [if_pos h1]
      have hne : ¬ (x.toNat : Int) = 1 := by omega
      have hnb : ((x.toNat : Int) == 1) = false := by simpa using hne
      go_enter Try.func19, Try.ntmps19
      go_wp2_with fail
      refine k.mono ?_
      rintro e w1 ⟨b, o, d, rfl, hbg, hc1, hx1, ho1⟩
      have kf := xfail_first g r 5 w1 hx1
      clear k
      go_wp2_with fail
      refine kf.mono ?_
      rintro e w2 ⟨rfl, hx2, ho2⟩
      have hc2 : w2.cell? ⟨b, o, none⟩ = some (.int .u8 (x.toNat : Int)) := by rw [World.cell?_of_block (w := w1) (ho2.block b hbg (cell_lt hc1))]; exact hc1
      clear kf hc1 hx1
      go_wp2
      go_ret
      refine ⟨?_, ?_, ho1.trans ho2⟩
      · rw [HF.out]; rfl
      · rw [HF.out]; exact hx2
    · have h12 : (x.toNat : Int) ≤ 1 := by omega
      have HF : Hid (flagF (x :: r) = (0, x == 1, r)) := by show flagF (x :: r) = _; simp only [flagF]; rw [if_neg h1]
      have HX : Hid (((x.toNat : Int) == 1) = (x == 1)) := by
        show ((x.toNat : Int) == 1) = (x == 1)
        rcases Nat.eq_zero_or_pos x.toNat with h0 | h0
        · obtain rfl : x = 0 := UInt8.toNat_inj.1 (by simpa using h0)
          rfl
        · obtain rfl : x = 1 := UInt8.toNat_inj.1 (by simp; omega)
          rfl
      go_enter Try.func19, Try.ntmps19
      go_wp2_with fail
      refine k.mono ?_
      rintro e w1 ⟨b, o, d, rfl, hbg, hc1, hx1, ho1⟩
      clear k
      go_wp2
      go_ret
      refine ⟨?_, ?_, ho1⟩
      · rw [HF.out]
        refine congrArg (fun z => Ending.returned (Value.bool z)) ?_
        exact HX.out
      · rw [HF.out]; exact hx1

end Go.Proofs.Ytldmbfemoepfkaa
