/- What this text proves: the walk of the statement WotsSigns over this program: the key of any number, any digest signed, any chains' key, or the errors. -/
import Derived.Test.YtpnginemjcphcaaDoorRRecT
import Derived.Test.YtpnginemjcphcaaDoorSame
import Derived.Test.YtpnginemjcphcaaDoorWAwake
namespace Go.Proofs.YtpnginemjcphcaaDoor
open Go.RowKit

theorem both_key (size index : Int) (v : Value) (seed : List UInt8) : ∃ (K : List UInt8) (er : Int),
    (∀ w, HB w v seed → Tabs w → Calls Tryd.prog 6 #[.int .i64 size, v, .int .i64 index] w fun e w' => ∃ p c, e = .returned (.tuple #[.slice p K.length c, .int .i64 er]) ∧ HB w' (.slice p K.length c) K ∧ Below w.heap.size w w') ∧
    (∀ w, HB w v seed → Calls Tryd.prog 7 #[.int .i64 size, v, .int .i64 index] w fun e w' => ∃ p c, e = .returned (.tuple #[.slice p K.length c, .int .i64 er]) ∧ HB w' (.slice p K.length c) K ∧ Below w.heap.size w w') := by
  cases hc : rcanB size index seed.length with
  | true =>
    obtain ⟨q1, q2, q3, q4, q5⟩ := rcanB_true hc
    obtain ⟨n, rfl⟩ : ∃ n : Nat, size = (n : Int) := ⟨size.toNat, by omega⟩
    exact ⟨keyW n seed index, 0, fun w h hT => key_ok n index v seed w h q5 (by omega) (by omega) q3 q4 hT, fun w h => rkey_ok n index v seed w h hc⟩
  | false =>
    have hb : canB size index = false ∨ 64 < seed.length := by
      simp only [rcanB, Bool.and_eq_false_iff, decide_eq_false_iff_not] at hc
      rcases hc with h | h
      · exact .inl h
      · exact .inr (by omega)
    exact ⟨[], 1, fun w h _ => (key_err size index v seed w h hb).mono fun e w' ⟨he, hbe⟩ => ⟨none, 0, he, HB.nil _, hbe⟩, fun w h => (rkey_err size index v seed w h hc).mono fun e w' ⟨he, hw⟩ => ⟨none, 0, he, HB.nil _, by subst hw; exact Below.refl _ _⟩⟩

theorem both_sign (size index : Int) (v u : Value) (seed D : List UInt8) : ∃ (K : List (List UInt8)) (er : Int),
    (∀ w, HB w v seed → HB w u D → Tabs w → Calls Tryd.prog 8 #[.int .i64 size, v, .int .i64 index, u] w fun e w' => ∃ x, e = .returned (.tuple #[x, .int .i64 er]) ∧ PA w' x K ∧ Below w.heap.size w w') ∧
    (∀ w, HB w v seed → HB w u D → Calls Tryd.prog 9 #[.int .i64 size, v, .int .i64 index, u] w fun e w' => ∃ x, e = .returned (.tuple #[x, .int .i64 er]) ∧ PA w' x K ∧ Below w.heap.size w w') := by
  by_cases hg : rcanB size index seed.length = true ∧ (D.length : Int) = size
  · obtain ⟨hc, hs⟩ := hg
    obtain ⟨q1, q2, q3, q4, q5⟩ := rcanB_true hc
    obtain ⟨n, rfl⟩ : ∃ n : Nat, size = (n : Int) := ⟨size.toNat, by omega⟩
    exact ⟨signW n seed index D, 0, fun w h hD hT => sign_ok n index v u seed D w h hD (by omega) q5 (by omega) (by omega) q3 q4 hT, fun w h hD => rsign_ok n index v u seed D w h hD (by omega) hc⟩
  · have hb : rcanB size index seed.length = false ∨ (D.length : Int) ≠ size := by
      cases hc : rcanB size index seed.length with
      | false => exact .inl rfl
      | true => exact .inr fun e => hg ⟨hc, e⟩
    have hb2 : canB size index = false ∨ 64 < seed.length ∨ (D.length : Int) ≠ size := by
      rcases hb with h | h
      · simp only [rcanB, Bool.and_eq_false_iff, decide_eq_false_iff_not] at h
        rcases h with h | h
        · exact .inl h
        · exact .inr (.inl (by omega))
      · exact .inr (.inr h)
    exact ⟨[], 1, fun w h hD _ => (sign_err size index v u seed D w h hD hb2).mono fun e w' ⟨he, hw⟩ => ⟨_, he, PA.nil _, by subst hw; exact Below.refl _ _⟩, fun w h hD => (rsign_err size index v u seed D w h hD hb).mono fun e w' ⟨he, hw⟩ => ⟨_, he, PA.nil _, by subst hw; exact Below.refl _ _⟩⟩

theorem both_rec (size index : Int) (v u : Value) (ls : List (List UInt8)) (D : List UInt8) : ∃ (K : List UInt8) (er : Int),
    (∀ w, PA w v ls → HB w u D → Tabs w → Calls Tryd.prog 10 #[.int .i64 size, v, .int .i64 index, u] w fun e w' => ∃ p c, e = .returned (.tuple #[.slice p K.length c, .int .i64 er]) ∧ HB w' (.slice p K.length c) K ∧ Below w.heap.size w w') ∧
    (∀ w, PA w v ls → HB w u D → Calls Tryd.prog 11 #[.int .i64 size, v, .int .i64 index, u] w fun e w' => ∃ p c, e = .returned (.tuple #[.slice p K.length c, .int .i64 er]) ∧ HB w' (.slice p K.length c) K ∧ Below w.heap.size w w') := by
  by_cases hg : canB size index = true ∧ (D.length : Int) = size
  · obtain ⟨hc, hs⟩ := hg
    have hcan : 1 ≤ size ∧ size ≤ 32 ∧ 0 ≤ index ∧ index < 256 := by simpa [canB] using hc
    obtain ⟨n, rfl⟩ : ∃ n : Nat, size = (n : Int) := ⟨size.toNat, by omega⟩
    have hs2 : D.length = n := by omega
    cases hw : wholeB n ls with
    | true =>
      refine ⟨recW n ls index D, 0, fun w h hD hT => rec_ok n index v u ls D w h hD hs2 hw (by omega) (by omega) (by omega) (by omega) hT, fun w h hD => (rrec_in n index v u ls D w h hD hs2 hc (wholeB_true hw).1).mono fun e w' ⟨⟨h1, _⟩, hb⟩ => ?_⟩
      obtain ⟨p, c, h2, h3⟩ := h1 hw
      exact ⟨p, c, h2, h3, hb⟩
    | false =>
      refine ⟨[], 1, fun w h hD _ => (rec_err n index v u ls D w h hD (.inr (.inr (by simpa using hw)))).mono fun e w' ⟨he, hb⟩ => ⟨none, 0, he, HB.nil _, hb⟩, fun w h hD => ?_⟩
      by_cases hL : ls.length = 4 * n + 5
      · exact (rrec_in n index v u ls D w h hD hs2 hc hL).mono fun e w' ⟨⟨_, h2⟩, hb⟩ => ⟨none, 0, h2 hw, HB.nil _, hb⟩
      · exact (rrec_err n index v u ls D w h hD (.inr (.inr (by omega)))).mono fun e w' ⟨he, hw⟩ => ⟨none, 0, he, HB.nil _, by subst hw; exact Below.refl _ _⟩
  · have hb : canB size index = false ∨ (D.length : Int) ≠ size := by
      cases hc : canB size index with
      | false => exact .inl rfl
      | true => exact .inr fun e => hg ⟨hc, e⟩
    exact ⟨[], 1, fun w h hD _ => (rec_err size index v u ls D w h hD (by rcases hb with h | h; exact .inl h; exact .inr (.inl h))).mono fun e w' ⟨he, hb⟩ => ⟨none, 0, he, HB.nil _, hb⟩, fun w h hD => (rrec_err size index v u ls D w h hD (by rcases hb with h | h; exact .inl h; exact .inr (.inl h))).mono fun e w' ⟨he, hw⟩ => ⟨none, 0, he, HB.nil _, by subst hw; exact Below.refl _ _⟩⟩

set_option maxHeartbeats 4000000 in
theorem signsWalk (size index : Int) (v u x : Value) (seed D : List UInt8) (ls : List (List UInt8)) (w : World) (h : HB w v seed) (hD : HB w u D) (hx : PA w x ls) (hT : Tabs w) :
    Calls Tryd.prog 3 #[.int .i64 size, v, .int .i64 index, u, x] w fun e w' => e = .returned (.bool true) ∧ Below w.heap.size w w' := by
  obtain ⟨p, c, rfl⟩ := h.shape
  obtain ⟨q, d, rfl⟩ := hD.shape
  obtain ⟨r, f, rfl⟩ := hx.shape
  obtain ⟨K, e1, k1, k2⟩ := both_key size index (.slice p seed.length c) seed
  obtain ⟨S, e2, s1, s2⟩ := both_sign size index (.slice p seed.length c) (.slice q D.length d) seed D
  obtain ⟨R, e3, r1, r2⟩ := both_rec size index (.slice r ls.length f) (.slice q D.length d) ls D
  go_enter Tryd.func3, Tryd.ntmps3
  go_wp2_with fail
  refine (k1 _ h hT).mono ?_
  rintro e w1 ⟨p1, c1, rfl, h1, hb1⟩
  go_wp2_with fail
  refine (k2 _ (h.later hb1)).mono ?_
  rintro e w2 ⟨p2, c2, rfl, h2, hb2⟩
  have hb02 := hb1.trans (hb2.mono hb1.size)
  go_wp2_with fail
  refine (s1 _ (h.later hb02) (hD.later hb02) (hT.later hb02)).mono ?_
  rintro e w3 ⟨x3, rfl, h3, hb3⟩
  obtain ⟨p3, c3, rfl⟩ := h3.shape
  have hb03 := hb02.trans (hb3.mono hb02.size)
  go_wp2_with fail
  refine (s2 _ (h.later hb03) (hD.later hb03)).mono ?_
  rintro e w4 ⟨x4, rfl, h4, hb4⟩
  obtain ⟨p4, c4, rfl⟩ := h4.shape
  have hb04 := hb03.trans (hb4.mono hb03.size)
  go_wp2_with fail
  refine (r1 _ (hx.later hb04) (hD.later hb04) (hT.later hb04)).mono ?_
  rintro e w5 ⟨p5, c5, rfl, h5, hb5⟩
  have hb05 := hb04.trans (hb5.mono hb04.size)
  go_wp2_with fail
  refine (r2 _ (hx.later hb05) (hD.later hb05)).mono ?_
  rintro e w6 ⟨p6, c6, rfl, h6, hb6⟩
  have hb06 := hb05.trans (hb6.mono hb05.size)
  have g5 := h5.later hb6
  have hb46 := hb5.trans (hb6.mono hb5.size)
  have g4 := h4.later hb46
  have hb36 := hb4.trans (hb46.mono hb4.size)
  have g3 := h3.later hb36
  have hb26 := hb3.trans (hb36.mono hb3.size)
  have g2 := h2.later hb26
  have hb16 := hb2.trans (hb26.mono hb2.size)
  have g1 := h1.later hb16
  clear k1 k2 s1 s2 r1 r2 h1 h2 h3 h4 h5 hb1 hb2 hb3 hb4 hb5 hb6 hb02 hb03 hb04 hb05 hb46 hb36 hb26 hb16 h hD hx
  go_wp2_with fail
  refine (equal_t _ _ K K _ g1 g2 rfl).mono ?_
  rintro e w7 ⟨rfl, hw7⟩
  subst hw7
  go_wp2_with fail
  refine (same_t _ _ S S _ g3 g4 rfl).mono ?_
  rintro e w8 ⟨rfl, hw8⟩
  subst hw8
  go_wp2_with fail
  refine (equal_t _ _ R R _ g5 h6 rfl).mono ?_
  rintro e w9 ⟨rfl, hw9⟩
  subst hw9
  go_wp2_with fail
  refine (wotsAwake_any _).mono ?_
  rintro e w10 ⟨rfl, hb10⟩
  go_wp2
  go_ret
  exact ⟨rfl, hb06.trans (hb10.mono hb06.size)⟩

end Go.Proofs.YtpnginemjcphcaaDoor
