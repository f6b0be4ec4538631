/- What this text proves: the walks of tiers.Gap and of the document's Gap over this program, and that both tell the same. -/
import Derived.Test.YtkpmenlhaeoedaaTrKept
namespace Go.Proofs.Ytkpmenlhaeoedaa
open Go.RowKit

/-- The greater one. -/
def mxI (a b : Int) : Int := if a < b then b else a

/-- The gap, and the one ahead, behind i of the retained ones. -/
def gsF (L : List Nat) : Nat → Int × Int
  | 0 => (0, 0)
  | i + 1 => (if 0 < i then mxI (gsF L i).1 ((L.getD i 0 : Int) - 1 - (gsF L i).2) else (gsF L i).1, (L.getD i 0 : Int))

theorem gsF_bound (L : List Nat) (B : Nat) (hB : ∀ x ∈ L, x ≤ B) : ∀ i, i ≤ L.length → 0 ≤ (gsF L i).1 ∧ (gsF L i).1 ≤ B ∧ 0 ≤ (gsF L i).2 ∧ (gsF L i).2 ≤ B := by
  intro i
  induction i with
  | zero => intro _; exact ⟨Int.le_refl _, by simp [gsF], Int.le_refl _, by simp [gsF]⟩
  | succ i ih =>
    intro hi
    obtain ⟨h1, h2, h3, h4⟩ := ih (by omega)
    have hx : L.getD i 0 ≤ B := by
      have hlt : i < L.length := by omega
      have e : L.getD i 0 = L[i] := by simp [List.getD, List.getElem?_eq_getElem hlt]
      rw [e]
      exact hB _ (List.getElem_mem hlt)
    have hx0 : (0 : Int) ≤ (L.getD i 0 : Int) := by omega
    have hx1 : (L.getD i 0 : Int) ≤ (B : Int) := by omega
    simp only [gsF, mxI]
    generalize (L.getD i 0 : Int) = x at *
    refine ⟨?_, ?_, hx0, hx1⟩
    · split
      · split <;> omega
      · exact h1
    · split
      · split <;> omega
      · exact h2

theorem gsF_app (L : List Nat) (x : Nat) : ∀ i, i ≤ L.length → gsF (L ++ [x]) i = gsF L i := by
  intro i
  induction i with
  | zero => intro _; rfl
  | succ i ih =>
    intro hi
    have e : (L ++ [x]).getD i 0 = L.getD i 0 := by
      simp only [List.getD]
      rw [List.getElem?_append_left (by omega)]
    simp only [gsF, ih (by omega), e]

/-- The document's gap, behind the epochs below k. -/
def grF (l : Int) : Nat → Int
  | 0 => 0
  | k + 1 => mxI (grF l k) ((k : Int) - nrI l (k : Int))

/-- The gap of the retained ones. -/
def gapI (l : Int) : Int := (gsF (keptI l) (keptI l).length).1

/-- The document's gap. -/
def rgapI (l : Int) : Int := if 1048576 < l then 0 else grF l (l + 1).toNat

theorem gap_step (m : Nat) : ∀ k, k ≤ m → 0 < (ktI m (k + 1)).length ∧ (gsF (ktI m (k + 1)) (ktI m (k + 1)).length).2 = (nrN m k : Int) ∧ grF m (k + 1) = mxI (gsF (ktI m (k + 1)) (ktI m (k + 1)).length).1 ((k : Int) - nrN m k) ∧ 0 ≤ (gsF (ktI m (k + 1)) (ktI m (k + 1)).length).1 := by
  intro k
  induction k with
  | zero =>
    intro _
    have h0 : kpB (m : Int) ((0 : Nat) : Int) = true := by rw [kpB_nat]; exact kpN_zero m
    have e : ktI m (0 + 1) = [0] := by rw [ktI_yes h0]; rfl
    rw [e]
    have en := nrI_nat (m := m) (n := 0) (Nat.zero_le _)
    refine ⟨by decide, rfl, ?_, by decide⟩
    simp only [grF, en]
    rfl
  | succ k ih =>
    intro hk
    obtain ⟨hl, h2, h3, h4⟩ := ih (by omega)
    have en := nrI_nat (m := m) (n := k + 1) hk
    have eg : grF m (k + 1 + 1) = mxI (grF m (k + 1)) (((k + 1 : Nat) : Int) - nrI m ((k + 1 : Nat) : Int)) := rfl
    cases hb : kpN m (k + 1) with
    | true =>
      have hb2 : kpB (m : Int) ((k + 1 : Nat) : Int) = true := by rw [kpB_nat]; exact hb
      rw [ktI_yes hb2]
      generalize ktI (m : Int) (k + 1) = L at *
      have ey : nrN m (k + 1) = k + 1 := nrN_yes hb
      have e1 : (L ++ [k + 1]).length = L.length + 1 := by simp
      have e2 : (L ++ [k + 1]).getD L.length 0 = k + 1 := by simp [List.getD]
      rw [e1, ey]
      simp only [gsF, gsF_app L (k + 1) L.length (Nat.le_refl _), e2, hl, if_true]
      refine ⟨by omega, trivial, ?_, ?_⟩
      · rw [eg, en, ey, h3, h2]
        simp only [mxI]
        have := nrN_le m k
        repeat' split
        all_goals omega
      · simp only [mxI]
        split <;> omega
    | false =>
      have hb2 : kpB (m : Int) ((k + 1 : Nat) : Int) = false := by rw [kpB_nat]; exact hb
      rw [ktI_no hb2]
      generalize ktI (m : Int) (k + 1) = L at *
      have ey : nrN m (k + 1) = nrN m k := (nrN_no hb).2
      rw [ey]
      refine ⟨hl, h2, ?_, h4⟩
      rw [eg, en, ey, h3]
      simp only [mxI]
      repeat' split
      all_goals omega

theorem gap_same (l : Int) : gapI l = rgapI l := by
  unfold gapI rgapI keptI
  by_cases h1 : 1048576 < l
  · rw [if_pos h1, if_pos h1]
    rfl
  · rw [if_neg h1, if_neg h1]
    by_cases h0 : 0 ≤ l
    · obtain ⟨m, rfl⟩ : ∃ m : Nat, l = (m : Int) := ⟨l.toNat, by omega⟩
      have e : ((m : Int) + 1).toNat = m + 1 := by omega
      rw [e]
      obtain ⟨_, _, h3, h4⟩ := gap_step m m (Nat.le_refl _)
      have hm : kpN m m = true := kpN_yes (Nat.le_refl _) (.inr (.inr (.inr (by omega))))
      rw [h3, nrN_yes hm]
      simp only [mxI]
      split <;> omega
    · have e : (l + 1).toNat = 0 := by omega
      rw [e]
      rfl

theorem grF_bound (l : Int) : ∀ k : Nat, (k : Int) ≤ l + 1 → 0 ≤ grF l k ∧ grF l k ≤ k := by
  intro k
  induction k with
  | zero => intro _; exact ⟨Int.le_refl _, Int.le_refl _⟩
  | succ k ih =>
    intro hk
    obtain ⟨h1, h2⟩ := ih (by omega)
    have e : nrI l (k : Int) = (nrN l.toNat k : Int) := by
      unfold nrI
      rw [if_pos (by omega)]
      simp
    have hle := nrN_le l.toNat k
    simp only [grF, mxI, e]
    constructor
    · split <;> omega
    · split <;> omega

theorem keptI_le (l : Int) : ∀ x ∈ keptI l, x ≤ 1048576 := by
  intro x hx
  unfold keptI at hx
  split at hx
  · cases hx
  · unfold ktI at hx
    have := List.mem_range.1 (List.mem_filter.1 hx).1
    omega

set_option maxRecDepth 100000 in
set_option maxHeartbeats 2000000 in
theorem gap_any (l : Int) (hl0 : -9223372036854775808 ≤ l) (w : World) :
    Calls Try.prog 14 #[.int .i64 l] w fun x w' => x = .returned (.int .i64 (gapI l)) ∧ Below w.heap.size w w' := by
  have hK := kept_any l hl0 w
  have hle := keptI_le l
  unfold gapI
  generalize keptI l = L at *
  have hB := gsF_bound L 1048576 hle
  have HB : Hid (∀ i, i ≤ L.length → 0 ≤ (gsF L i).1 ∧ (gsF L i).1 ≤ (1048576 : Nat) ∧ 0 ≤ (gsF L i).2 ∧ (gsF L i).2 ≤ (1048576 : Nat)) := hB
  have HLE : Hid (∀ x ∈ L, x ≤ 1048576) := hle
  clear hB hle
  go_enter Try.func14, Try.ntmps14
  go_wp2_with fail
  refine hK.mono ?_
  rintro x w1 ⟨v, rfl, hI, b1⟩
  clear hK
  obtain ⟨p, c, rfl⟩ := hI.shape
  have hm := hI.len_le
  unfold maxLen at hm
  go_wp2
  go_loopw [3, 4, 10] (fun g q i wr => ∃ k : Nat, k ≤ L.length ∧ i = .int .i64 (k : Int) ∧ g = .int .i64 (gsF L k).1 ∧ q = .int .i64 (gsF L k).2 ∧ Below w1.heap.size w1 wr) (fun _ _ i _ => L.length - (intOf i).toNat)
  case atStart => exact ⟨0, Nat.zero_le _, rfl, rfl, rfl, Below.refl _ _⟩
  case round =>
    obtain ⟨k, hk, rfl, rfl, rfl, hbe⟩ := hrel
    by_cases hlt : k < L.length
    · obtain ⟨b, o, rfl, f1⟩ := (hI.later hbe).addr (by omega)
      have c1 := f1 k L[k] (List.getElem?_eq_getElem hlt)
      have hx := HLE.out _ (List.getElem_mem hlt)
      obtain ⟨g1, g2, g3, g4⟩ := HB.out k hk
      have eD : L.getD k 0 = L[k] := by simp [List.getD, List.getElem?_eq_getElem hlt]
      have HS : Hid (gsF L (k + 1) = (if 0 < k then mxI (gsF L k).1 ((L[k] : Int) - 1 - (gsF L k).2) else (gsF L k).1, (L[k] : Int))) := by
        show _ = _
        simp only [gsF, eD]
      generalize (gsF L k).1 = ga at *
      generalize (gsF L k).2 = qa at *
      generalize L[k] = x at *
      clear f1 eD
      have hlt2 : (k : Int) < (L.length : Int) := by omega
      by_cases k0 : 0 < k
      · have k1 : (0 : Int) < (k : Int) := by omega
        have HS2 : Hid (gsF L (k + 1) = (mxI ga ((x : Int) - 1 - qa), (x : Int))) := by
          have := HS.out
          rw [if_pos k0] at this
          exact this
        clear HS
        by_cases hmx : ga < (x : Int) - 1 - qa
        · have e1 : (gsF L (k + 1)).1 = (x : Int) - 1 - qa := by rw [HS2.out]; exact if_pos hmx
          have e2 : (gsF L (k + 1)).2 = (x : Int) := by rw [HS2.out]
          have E1 : Hid ((gsF L (k + 1)).1 = (x : Int) - 1 - qa) := e1
          have E2 : Hid ((gsF L (k + 1)).2 = (x : Int)) := e2
          clear e1 e2 HS2
          go_wp2
          go_roundw
          case rel => first | exact ⟨k + 1, by omega, by go_num, by rw [E1.out], by rw [E2.out], hbe⟩ | ((repeat apply Exists.intro); exact ⟨⟨k + 1, by omega, by go_num, by rw [E1.out], by rw [E2.out], hbe⟩, rfl⟩)
          case measure => simp [intOf]; omega
        · have e1 : (gsF L (k + 1)).1 = ga := by rw [HS2.out]; exact if_neg hmx
          have e2 : (gsF L (k + 1)).2 = (x : Int) := by rw [HS2.out]
          have E1 : Hid ((gsF L (k + 1)).1 = ga) := e1
          have E2 : Hid ((gsF L (k + 1)).2 = (x : Int)) := e2
          clear e1 e2 HS2
          go_wp2
          go_roundw
          case rel => first | exact ⟨k + 1, by omega, by go_num, by rw [E1.out], by rw [E2.out], hbe⟩ | ((repeat apply Exists.intro); exact ⟨⟨k + 1, by omega, by go_num, by rw [E1.out], by rw [E2.out], hbe⟩, rfl⟩)
          case measure => simp [intOf]; omega
      · obtain rfl : k = 0 := by omega
        have E1 : Hid ((gsF L (0 + 1)).1 = ga) := by
          show _ = _
          rw [HS.out, if_neg k0]
        have E2 : Hid ((gsF L (0 + 1)).2 = (x : Int)) := by
          show _ = _
          rw [HS.out]
        clear HS
        rw [Nat.add_zero] at c1
        go_wp2
        go_roundw
        case rel => first | exact ⟨0 + 1, by omega, by go_num, by rw [E1.out], by rw [E2.out], hbe⟩ | ((repeat apply Exists.intro); exact ⟨⟨0 + 1, by omega, by go_num, by rw [E1.out], by rw [E2.out], hbe⟩, rfl⟩)
        case measure => simp [intOf]; omega
    · obtain rfl : k = L.length := by omega
      clear HB HLE
      go_wp2
      go_ret
      exact ⟨rfl, b1.trans (hbe.mono b1.size)⟩

set_option maxRecDepth 100000 in
set_option maxHeartbeats 2000000 in
theorem rgap_any (l : Int) (hl0 : -9223372036854775808 ≤ l) (w : World) :
    Calls Try.prog 15 #[.int .i64 l] w fun x w' => x = .returned (.int .i64 (rgapI l)) ∧ Below w.heap.size w w' := by
  by_cases h1 : 1048576 < l
  · have hE : rgapI l = 0 := if_pos h1
    rw [hE]
    go_enter Try.func15, Try.ntmps15
    go_wp2
    go_ret
    exact ⟨rfl, Below.refl _ _⟩
  · have hE : rgapI l = grF l (l + 1).toNat := if_neg h1
    rw [hE]
    clear hE
    obtain ⟨N, hN⟩ : ∃ N, (l + 1).toNat = N := ⟨_, rfl⟩
    rw [hN]
    have hN2 : N ≤ 1048577 := by omega
    have HN : Hid (∀ k : Nat, k < N ↔ (k : Int) < l + 1) := by
      show ∀ k : Nat, k < N ↔ (k : Int) < l + 1
      intro k; omega
    have HG : Hid (∀ k : Nat, k < N → 0 ≤ grF l k ∧ grF l k ≤ k) := fun k hk => grF_bound l k (by omega)
    have HR : Hid (∀ k : Nat, k < N → 0 ≤ nrI l (k : Int) ∧ nrI l (k : Int) ≤ k) := by
      intro k hk
      have e : nrI l (k : Int) = (nrN l.toNat k : Int) := by
        unfold nrI
        rw [if_pos (by omega)]
        simp
      have := nrN_le l.toNat k
      rw [e]
      omega
    clear hN
    have hc : ∀ (k : Nat) (w : World), Calls Try.prog 9 #[.int .i64 l, .int .i64 (k : Int)] w fun x w' => x = .returned (.int .i64 (nrI l (k : Int))) ∧ Below w.heap.size w w' := fun k w => rnearest_any l k (by omega) w
    go_enter Try.func15, Try.ntmps15
    go_wp2
    go_loopw [3, 4] (fun g i wr => ∃ k : Nat, k ≤ N ∧ i = .int .i64 (k : Int) ∧ g = .int .i64 (grF l k) ∧ Below w.heap.size w wr) (fun _ i _ => N - (intOf i).toNat)
    case atStart => exact ⟨0, Nat.zero_le _, rfl, rfl, Below.refl _ _⟩
    case round =>
      obtain ⟨k, hk, rfl, rfl, hbe⟩ := hrel
      have hsz := hbe.size
      by_cases hlt : k < N
      · have hlt2 : (k : Int) < l + 1 := (HN.out k).1 hlt
        have hC := hc k wr
        obtain ⟨g1, g2⟩ := HG.out k hlt
        obtain ⟨n1, n2⟩ := HR.out k hlt
        have HS : Hid (grF l (k + 1) = mxI (grF l k) ((k : Int) - nrI l (k : Int))) := rfl
        generalize grF l k = ga at *
        generalize nrI l (k : Int) = na at *
        clear hc
        go_wp2_with fail
        refine hC.mono ?_
        rintro x w2 ⟨rfl, b2⟩
        have hbe2 := hbe.trans (b2.mono hsz)
        clear hC hbe b2
        by_cases hmx : ga < (k : Int) - na
        · have E1 : Hid (grF l (k + 1) = (k : Int) - na) := by
            show _ = _
            rw [HS.out]; exact if_pos hmx
          clear HS
          go_wp2
          go_roundw
          case rel => first | exact ⟨k + 1, by omega, by go_num, by rw [E1.out], hbe2⟩ | ((repeat apply Exists.intro); exact ⟨⟨k + 1, by omega, by go_num, by rw [E1.out], hbe2⟩, rfl⟩)
          case measure => simp [intOf]; omega
        · have E1 : Hid (grF l (k + 1) = ga) := by
            show _ = _
            rw [HS.out]; exact if_neg hmx
          clear HS
          go_wp2
          go_roundw
          case rel => first | exact ⟨k + 1, by omega, by go_num, by rw [E1.out], hbe2⟩ | ((repeat apply Exists.intro); exact ⟨⟨k + 1, by omega, by go_num, by rw [E1.out], hbe2⟩, rfl⟩)
          case measure => simp [intOf]; omega
      · obtain rfl : k = N := by omega
        have hge : ¬ ((k : Int) < l + 1) := fun h => hlt ((HN.out k).2 h)
        have hge2 : ¬ ((k : Int) ≤ l) := by omega
        clear hc HN hlt HG HR
        go_wp2
        go_ret
        exact ⟨rfl, hbe⟩

end Go.Proofs.Ytkpmenlhaeoedaa
