/- What this text proves: the walk of the statement WotsChecks over this program: of two unlike digests of one size some digit of the first is less, and some digit is greater. -/
import Derived.Test.YtpnginemjcphcaaDigits
namespace Go.Proofs.Ytpnginemjcphcaa
open Go.RowKit

theorem digF_255 : digF [255] = [3, 3, 3, 3, 0, 0, 0, 0, 0] := by decide +kernel

set_option maxHeartbeats 1000000 in
theorem wotsAwake_any (w : World) : Calls Try.prog 20 #[] w fun e w' => e = .returned (.bool true) ∧ Below w.heap.size w w' := by
  go_enter Try.func20, Try.ntmps20
  go_wp2_with fail
  have h1 : HB (w.alloc (.cells #[.int .u8 255] 5 (0, 0))) (.slice (some ⟨w.heap.size, 0, none⟩) 1 1) [255] := HB.litF w 5 [255] _ _ _ rfl rfl (by decide)
  refine (digits_any _ [255] _ h1).mono ?_
  rintro e w1 ⟨v1, rfl, o1, hb1⟩
  rw [digF_255] at o1
  have i1 := IA.of_owns o1
  have hb01 : Below w.heap.size w w1 := ((Below.refl _ w).alloc (Nat.le_refl _) _).trans (hb1.mono (by simp))
  obtain ⟨p1, c1, rfl⟩ := i1.shape
  clear o1 hb1 h1
  go_wp2_with fail
  refine (slequal_same _ _ [3, 3, 3, 3, 0, 0, 0, 0, 0] _ (i1.later ((Below.refl _ w1).alloc (Nat.le_refl _) _)) (IA.litF w1 3 _ _ _ _ rfl rfl (by decide))).mono ?_
  rintro e w2 ⟨rfl, hb2⟩
  have hb02 : Below w.heap.size w w2 := (hb01.alloc hb01.size _).trans (hb2.mono (by have := hb01.size; simp; omega))
  go_wp2
  go_ret
  exact ⟨rfl, hb02⟩

set_option maxHeartbeats 4000000 in
theorem checksWalk (v u : Value) (l m : List UInt8) (w : World) (h : HB w v l) (h' : HB w u m) :
    Calls Try.prog 4 #[v, u] w fun e w' => e = .returned (.bool true) ∧ Below w.heap.size w w' := by
  obtain ⟨p, c, rfl⟩ := h.shape
  obtain ⟨p', c', rfl⟩ := h'.shape
  have hlen := h.len
  have hlen' := h'.len
  unfold maxLen at hlen hlen'
  obtain ⟨n, hn⟩ : ∃ n, n = min (min l.length m.length) 32 := ⟨_, rfl⟩
  have hf := h.front n (by omega)
  have hf' := h'.front n (by omega)
  have hl1 : (l.take n).length = n := by simp; omega
  have hl2 : (m.take n).length = n := by simp; omega
  have hn32 : n ≤ 32 := by omega
  have hnc : n ≤ c := by omega
  have hnc' : n ≤ c' := by omega
  have HL1 : Hid ((l.take n).length = n) := hl1
  have HL2 : Hid ((m.take n).length = n) := hl2
  clear hl1 hl2
  generalize l.take n = a at *
  generalize m.take n = b at *
  have hcase : (l.length = n ∧ l.length ≤ m.length ∧ l.length ≤ 32) ∨ (m.length = n ∧ m.length < l.length ∧ m.length ≤ 32) ∨ (32 = n ∧ 32 < l.length ∧ 32 < m.length) := by omega
  clear hn
  go_enter Try.func4, Try.ntmps4
  rcases hcase with ⟨hn, hq1, hq2⟩ | hcase
  case' inl =>
    have hq3 : (l.length : Int) ≤ (m.length : Int) := by omega
    have hq4 : (l.length : Int) ≤ 32 := by omega
    go_wp2
    go_region
    clear h h' hq3 hq4 hn
  case' inr => rcases hcase with ⟨hn, hq1, hq2⟩ | ⟨hn, hq1, hq2⟩
  case' inr.inl =>
    have hq3 : (m.length : Int) < (l.length : Int) := by omega
    have hq4 : (m.length : Int) ≤ 32 := by omega
    go_wp2
    go_region
    clear h h' hq3 hq4 hn
  case' inr.inr =>
    have hq3 : 32 < (l.length : Int) := by omega
    have hq4 : 32 < (m.length : Int) := by omega
    have hq5 : 32 ≤ (c : Int) := by omega
    have hq6 : 32 ≤ (c' : Int) := by omega
    go_wp2
    go_region
    have hq7 : (32 : Int) = (n : Int) := by omega
    try rw [hn]
    try rw [hq7]
    clear h h' hq3 hq4 hq5 hq6 hq7 hn
  all_goals
    generalize l.length = L at *
    generalize m.length = M at *
    clear hlen hlen' hq1 hq2
    go_wp2_with fail
    refine (digits_any _ a _ (hf.later ((Below.refl _ w).drew))).mono ?_
    rintro e w1 ⟨v1, rfl, o1, hb1⟩
    have hb01 : Below w.heap.size w w1 := ((Below.refl _ w).drew).trans (hb1.mono (Nat.le_refl _))
    go_wp2_with fail
    refine (digits_any _ b _ (hf'.later hb01)).mono ?_
    rintro e w2 ⟨v2, rfl, o2, hb2⟩
    have i1 := (IA.of_owns o1).later hb2
    have i2 := IA.of_owns o2
    have hb02 : Below w.heap.size w w2 := hb01.trans (hb2.mono hb01.size)
    have HA1 : Hid ((digF a).length = 4 * n + 5) := by
      show (digF a).length = 4 * n + 5
      rw [digF_length, HL1.out]
      omega
    have HA2 : Hid ((digF b).length = 4 * n + 5) := by
      show (digF b).length = 4 * n + 5
      rw [digF_length, HL2.out]
      omega
    have HR1 : Hid (ltK (digF a) (digF b) (4 * n + 5) = (!decide (a = b))) := by
      have e := less_some a b (by rw [HL1.out, HL2.out])
      rw [HL1.out, List.take_of_length_le (by rw [HL1.out]; omega), List.take_of_length_le (by rw [HL2.out]; omega)] at e
      rw [show min n 32 = n by omega] at e
      exact e
    have HR2 : Hid (ltK (digF b) (digF a) (4 * n + 5) = (!decide (a = b))) := by
      have e := less_some b a (by rw [HL1.out, HL2.out])
      rw [HL2.out, List.take_of_length_le (by rw [HL2.out]; omega), List.take_of_length_le (by rw [HL1.out]; omega)] at e
      rw [show min n 32 = n by omega, show decide (b = a) = decide (a = b) by simp only [eq_comm]] at e
      exact e
    obtain ⟨p1, c1, rfl⟩ := i1.shape
    obtain ⟨p2, c2, rfl⟩ := i2.shape
    rw [HA1.out] at i1 ⊢
    rw [HA2.out] at i2 ⊢
    clear o1 o2 hb1 hb2 hb01
    generalize digF a = x at *
    generalize digF b = y at *
    go_wp2
    go_loopw [8, 9, 42] (fun q r i wr => ∃ k : Nat, k ≤ 4 * n + 5 ∧ i = .int .i64 k ∧ q = .bool (ltK x y k) ∧ r = .bool (ltK y x k) ∧ Below w2.heap.size w2 wr) (fun _ _ i _ => 4 * n + 5 - (intOf i).toNat)
    case atStart => exact ⟨0, Nat.zero_le _, rfl, rfl, rfl, Below.refl _ _⟩
    case round =>
      obtain ⟨k, hk, rfl, rfl, rfl, hbe⟩ := hrel
      by_cases hlt : k < 4 * n + 5
      · obtain ⟨b1, o1, rfl, f1⟩ := (i1.later hbe).addr (by omega)
        obtain ⟨b2, o2, rfl, f2⟩ := (i2.later hbe).addr (by omega)
        have g1 : x[k]? = some (x.getD k 0) := by rw [List.getD_eq_getElem?_getD, List.getElem?_eq_getElem (by rw [HA1.out]; omega)]; rfl
        have g2 : y[k]? = some (y.getD k 0) := by rw [List.getD_eq_getElem?_getD, List.getElem?_eq_getElem (by rw [HA2.out]; omega)]; rfl
        have e1 := f1 k _ g1
        have e2 := f2 k _ g2
        have HK1 : Hid (ltK x y (k + 1) = (ltK x y k || decide (x.getD k 0 < y.getD k 0))) := rfl
        have HK2 : Hid (ltK y x (k + 1) = (ltK y x k || decide (y.getD k 0 < x.getD k 0))) := rfl
        generalize x.getD k 0 = dx at *
        generalize y.getD k 0 = dy at *
        generalize ltK x y k = B1 at *
        generalize ltK y x k = B2 at *
        clear f1 f2 g1 g2
        have hlt2 : (k : Int) < 4 * (n : Int) + 5 := by omega
        have hbd := hbe.drew
        have hq : ((dx : Int) < (dy : Int) ∧ decide (dx < dy) = true ∧ decide (dy < dx) = false) ∨ ((dx : Int) = (dy : Int) ∧ decide (dx < dy) = false ∧ decide (dy < dx) = false) ∨ ((dy : Int) < (dx : Int) ∧ decide (dx < dy) = false ∧ decide (dy < dx) = true) := by
          rcases Nat.lt_trichotomy dx dy with hc | hc | hc
          · left; refine ⟨?_, ?_, ?_⟩ <;> (try simp) <;> omega
          · right; left; refine ⟨?_, ?_, ?_⟩ <;> (try simp) <;> omega
          · right; right; refine ⟨?_, ?_, ?_⟩ <;> (try simp) <;> omega
        rcases hq with ⟨q1, q2, q3⟩ | ⟨q1, q2, q3⟩ | ⟨q1, q2, q3⟩
        all_goals
          rw [q2] at HK1
          rw [q3] at HK2
          cases B1 <;> cases B2
--<A
        all_goals
          go_wp2
          go_region
          go_wp2
          go_roundw
          case rel => first | exact ⟨k + 1, by omega, by go_num, by rw [HK1.out]; rfl, by rw [HK2.out]; rfl, hbd⟩ | ((repeat apply Exists.intro); exact ⟨⟨k + 1, by omega, by go_num, by rw [HK1.out]; rfl, by rw [HK2.out]; rfl, hbd⟩, rfl⟩)
          case measure => simp [intOf]; omega
--A>
      · obtain rfl : k = 4 * n + 5 := by omega
        have hbw : Below w.heap.size w wr := hb02.trans (hbe.mono hb02.size)
        have hE := equal_any _ _ a b wr (hf.later hbw) (hf'.later hbw)
        have hD : (a == b) = decide (a = b) := by by_cases hab : a = b <;> simp [hab]
        rw [hD] at hE
        rw [HR1.out, HR2.out]
        clear hD HR1 HR2 hlt hk
        generalize decide (a = b) = D at *
        cases D
        all_goals
          go_wp2_with fail
          refine hE.mono ?_
          rintro e w5 ⟨rfl, hw5⟩
          have hw6 := hw5.symm
          clear hw5
          subst hw6
          go_wp2_with fail
          refine (wotsAwake_any _).mono ?_
          rintro e w7 ⟨rfl, hb7⟩
          go_wp2
          go_ret
          exact ⟨rfl, hbw.trans (hb7.mono hbw.size)⟩

end Go.Proofs.Ytpnginemjcphcaa
