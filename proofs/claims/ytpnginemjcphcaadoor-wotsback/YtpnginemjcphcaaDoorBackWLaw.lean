/- What this text proves: the walk of the statement WotsBack over this program: what was signed leads to the key. -/
import Derived.Test.YtpnginemjcphcaaDoorBackWPlain
import Derived.Test.YtpnginemjcphcaaDoorCopyPart
namespace Go.Proofs.YtpnginemjcphcaaDoor
open Go.RowKit

set_option maxHeartbeats 4000000 in
theorem backWWalk (size index : Int) (v u : Value) (seed b : List UInt8) (w : World) (h : HB w v seed) (hb : HB w u b) (hT : Tabs w) :
    Calls Tryd.prog 4 #[.int .i64 size, v, .int .i64 index, u] w fun e w' => e = .returned (.bool true) ∧ Below w.heap.size w w' := by
  obtain ⟨p, c, rfl⟩ := h.shape
  obtain ⟨q, d, rfl⟩ := hb.shape
  obtain ⟨U, hU, hU2⟩ := u64_nat size
  obtain ⟨V, hV, hV2⟩ := u64_nat index
  have hsl := h.len
  unfold maxLen at hsl
  obtain ⟨T, hTT⟩ : ∃ T, T = min seed.length 64 := ⟨_, rfl⟩
  have hf := h.front T (by omega)
  have HfL : Hid ((seed.take T).length = T) := by
    show (seed.take T).length = T
    simp
    omega
  have hT64 : T ≤ 64 := by omega
  have hTc : T ≤ c := by omega
  obtain ⟨i0, hi, hz0, hz1, hz2⟩ := info_parts i_u8
  have hcase : (seed.length = T ∧ seed.length ≤ 64) ∨ (64 = T ∧ 64 < seed.length) := by omega
  clear hTT
  generalize seed.take T = t at *
  go_enter Tryd.func4, Tryd.ntmps4
  have hn1 : 1 ≤ 1 + U % 32 := by omega
  have hn2 : 1 + U % 32 ≤ 32 := by omega
  have hv0 : 0 ≤ (V : Int) % 256 := by omega
  have hv1 : (V : Int) % 256 < 256 := by omega
  rcases hcase with ⟨hn, hq⟩ | ⟨hn, hq⟩
  case' inl => have hq2 : (seed.length : Int) ≤ 64 := by omega
  case' inr => have hq2 : 64 < (seed.length : Int) := by omega
  all_goals
    go_wp2_with (first | (at_make; refine wpList_make_full _ rfl _ _ 22 rfl w.heap.size 5 i0 (.int .u8 0) 1 Tryd.underlying22 hi hz0 hz1 .i64 .i64 _ _ (1 + U % 32) rfl rfl ?_ ?_ ?_ ?_ ?_ ?_))
    all_goals (try (first | omega | (unfold maxLen; omega) | (rw [hz2]; omega)))
    intro w1 hown1 hgrow1
    generalize hN : 1 + U % 32 = n at *
    have hU3 : 1 + (U : Int) % 32 = (n : Int) := by omega
    rw [hU3]
    clear hN hU3 hU hU2 hV hV2 hn hq hq2
    generalize (V : Int) % 256 = I at *
    rw [made_bcs] at hown1
    have hb1 : Below w.heap.size w w1 := (Below.refl _ w).grown hgrow1 (Nat.le_refl _) (by intro k hk; cases hk)
    have hu1 := hb.later hb1
    clear hgrow1 h
    go_wp2_with (refine wpList_copy_into rfl (.tmp 32) (.tmp 33) 22 22 rfl 5 Tryd.underlying22 s_u8 w.heap.size n q _ _ rfl rfl w.heap.size _ hown1 b hu1 ?_)
    intro w2 k hown2 hgrow2
    have hb2 : Below w.heap.size w w2 := hb1.grown hgrow2 hb1.size (by intro k hk; cases hk; exact Nat.le_refl _)
    have hD2 := HB.of_owns hown2
    have HDl : Hid ((b.take n ++ List.replicate (n - b.length) 0).length = n) := by
      show (b.take n ++ List.replicate (n - b.length) (0 : UInt8)).length = n
      simp
      omega
    clear hown1 hown2 hgrow2 hu1 hb hb1
    generalize b.take n ++ List.replicate (n - b.length) (0 : UInt8) = D at *
    have hT2 := hT.later hb2
    have hf2 := hf.later hb2
    have cS := sign_ok n I (.slice p T c) (.slice (some ⟨w.heap.size, 0, none⟩) n n) t D w2 hf2 hD2 HDl.out (by rw [HfL.out]; exact hT64) hn1 hn2 hv0 hv1 hT2
    have cK := fun w' h' hT' => key_ok n I (.slice p T c) t w' h' (by rw [HfL.out]; exact hT64) hn1 hn2 hv0 hv1 hT'
    have cR := fun v w' h' hD' hT' => rec_ok n I v (.slice (some ⟨w.heap.size, 0, none⟩) n n) (signW n t I D) D w' h' hD' HDl.out (sign_whole n hn2 t (by rw [HfL.out]; exact hT64) I D) hn1 hn2 hv0 hv1 hT'
    rw [back_plain] at cR
    have HKl : Hid ((keyW n t I).length = n) := keyW_length n hn2 t I
    rw [HKl.out] at cR cK
    generalize keyW n t I = K at *
    generalize signW n t I D = S at *
    go_wp2_with fail
    refine cS.mono ?_
    rintro e w3 ⟨x3, rfl, h3, hb3⟩
    obtain ⟨p3, c3, rfl⟩ := h3.shape
    have hb03 := hb2.trans (hb3.mono hb2.size)
    go_wp2_with fail
    refine (cK _ (hf.later hb03) (hT.later hb03)).mono ?_
    rintro e w4 ⟨p4, c4, rfl, h4, hb4⟩
    have hb04 := hb03.trans (hb4.mono hb03.size)
    have hb24 := hb3.trans (hb4.mono hb3.size)
    go_wp2_with fail
    refine (cR _ _ (h3.later hb4) (hD2.later hb24) (hT.later hb04)).mono ?_
    rintro e w5 ⟨p5, c5, rfl, h5, hb5⟩
    have hb05 := hb04.trans (hb5.mono hb04.size)
    have h45 := h4.later hb5
    clear cS cK cR h3 h4 hD2 hf2 hb3 hb4 hb24 hb5
    go_wp2_with fail
    refine (equal_t _ _ K K _ h5 h45 rfl).mono ?_
    rintro e w6 ⟨rfl, hw6⟩
    subst hw6
    go_wp2
    go_ret
    exact ⟨rfl, hb05⟩

end Go.Proofs.YtpnginemjcphcaaDoor
