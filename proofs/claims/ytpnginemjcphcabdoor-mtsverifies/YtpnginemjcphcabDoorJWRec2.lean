/- What this text proves: the walks of wots.whole and wots.Recover over this program: the key that any chains come to, or the error. -/
import Derived.Test.YtpnginemjcphcabDoorJWRec
namespace Go.Proofs.YtpnginemjcphcabDoor
open Go.RowKit

/-- Whether a signature has all its chains, of n bytes each. -/
def wholeB (n : Nat) (ls : List (List UInt8)) : Bool := decide (ls.length = 4 * n + 5) && ls.all fun l => decide (l.length = n)

set_option maxRecDepth 100000 in
set_option maxHeartbeats 1000000 in
theorem whole_any (n : Nat) (v : Value) (ls : List (List UInt8)) (w : World) (h : PA w v ls) (hn : n ≤ 32) :
    Calls Tryd.prog 64 #[.int .i64 (n : Int), v] w fun e w' => e = .returned (.bool (wholeB n ls)) ∧ w' = w := by
  obtain ⟨p, c, rfl⟩ := h.shape
  have hm := h.len.2
  unfold maxLen at hm
  have hCC := fun w' => chaincount_any n w' (by omega)
  by_cases hlen : ls.length = 4 * n + 5
  · have HW : Hid (wholeB n ls = ls.all fun l => decide (l.length = n)) := by
      show wholeB n ls = _
      simp [wholeB, hlen]
    generalize wholeB n ls = B at *
    have HL : Hid (ls.length = 4 * n + 5) := hlen
    rw [hlen] at h ⊢
    clear hlen
    go_enter Tryd.func64, Tryd.ntmps64
    go_wp2_with fail
    refine (hCC _).mono ?_
    rintro e w1 ⟨rfl, hw1⟩
    have hw2 := hw1.symm
    clear hw1
    subst hw2
    go_wp2
    go_loop [14] (fun i => ∃ k : Nat, k ≤ 4 * n + 5 ∧ i = .int .i64 k ∧ ∀ l ∈ ls.take k, l.length = n) (fun i => 4 * n + 5 - (intOf i).toNat)
    case atStart => exact ⟨0, Nat.zero_le _, rfl, by simp⟩
    case round =>
      obtain ⟨k, hk, rfl, hall⟩ := hrel
      have HA : Hid (∀ l ∈ ls.take k, l.length = n) := hall
      clear hall
      by_cases hlt : k < 4 * n + 5
      · obtain ⟨b, o, rfl⟩ := h.addr (by omega)
        obtain ⟨q, d, l, g, hc, hb⟩ := h.get k hlt
        have hlt2 : (k : Int) < 4 * (n : Int) + 5 := by omega
        have hlm := hb.len.2
        unfold maxLen at hlm
        by_cases hln : l.length = n
        · have HA2 : Hid (∀ l ∈ ls.take (k + 1), l.length = n) := by
            intro x hx
            rw [List.take_add_one, g.out] at hx
            rcases List.mem_append.1 hx with hx | hx
            · exact HA.out x hx
            · simp at hx; subst hx; exact hln
          rw [hln] at hc hb
          clear hln HA
          go_wp2
          go_round
          case rel => exact ⟨k + 1, by omega, by go_num, HA2.out⟩
          case measure => simp [intOf]; omega
        · have e1 : B = false := by
            rw [HW.out]
            simp only [List.all_eq_false]
            exact ⟨l, List.mem_of_getElem? g.out, by simpa using hln⟩
          subst e1
          have hln2 : ¬ (l.length : Int) = (n : Int) := by omega
          go_wp2
          go_ret
          exact ⟨rfl, rfl⟩
      · obtain rfl : k = 4 * n + 5 := by omega
        have e1 : B = true := by
          rw [HW.out]
          have := HA.out
          rw [List.take_of_length_le (by rw [HL.out]; omega)] at this
          simp only [List.all_eq_true, decide_eq_true_eq]
          exact this
        subst e1
        go_wp2
        go_ret
        exact ⟨rfl, rfl⟩
  · have hc : wholeB n ls = false := by simp [wholeB, hlen]
    rw [hc]
    have hlen2 : ¬ (ls.length : Int) = 4 * (n : Int) + 5 := by omega
    clear hc
    go_enter Tryd.func64, Tryd.ntmps64
    go_wp2_with fail
    refine (hCC _).mono ?_
    rintro e w1 ⟨rfl, hw1⟩
    have hw2 := hw1.symm
    clear hw1
    subst hw2
    go_wp2
    go_ret
    exact ⟨rfl, rfl⟩

theorem wholeB_true {n : Nat} {ls : List (List UInt8)} (h : wholeB n ls = true) : ls.length = 4 * n + 5 ∧ ∀ l ∈ ls, l.length = n := by
  simpa [wholeB] using h

/-- The key that a signature comes to. -/
def recW (n : Nat) (ls : List (List UInt8)) (index : Int) (D : List UInt8) : List UInt8 := hashF n 8 [numB index, endsF (endR n ls (digF D) index) (4 * n + 5)]

theorem endR_le (n : Nat) (hn : n ≤ 32) (ls : List (List UInt8)) (hl : ∀ l ∈ ls, l.length = n) (ds : List Nat) (index : Int) (i : Nat) : (endR n ls ds index i).length ≤ n := by
  refine chainN_le n hn _ _ _ _ _ ?_
  rw [List.getD_eq_getElem?_getD]
  cases hg : ls[i]? with
  | none => simp
  | some l => exact Nat.le_of_eq (hl l (List.mem_of_getElem? hg))

set_option maxRecDepth 100000 in
set_option maxHeartbeats 2000000 in
theorem rec_ok (n : Nat) (index : Int) (v u : Value) (ls : List (List UInt8)) (D : List UInt8) (w : World) (h : PA w v ls) (hD : HB w u D) (hs : D.length = n) (hwh : wholeB n ls = true) (hn : 1 ≤ n) (hn2 : n ≤ 32) (hi : 0 ≤ index) (hi2 : index < 256) (hT : Tabs w) :
    Calls Tryd.prog 36 #[.int .i64 (n : Int), v, .int .i64 index, u] w fun e w' => ∃ p c, e = .returned (.tuple #[.slice p (recW n ls index D).length c, .int .i64 0]) ∧ HB w' (.slice p (recW n ls index D).length c) (recW n ls index D) ∧ Below w.heap.size w w' := by
  obtain ⟨p, c, rfl⟩ := h.shape
  obtain ⟨q, d, rfl⟩ := hD.shape
  obtain ⟨hL, hAll⟩ := wholeB_true hwh
  have hc : canB n index = true := by simp [canB]; omega
  have hC := fun w' => can_any n index w'
  rw [hc] at hC
  have hWh := fun w' h' => whole_any n (.slice p (4 * n + 5) c) ls w' h' hn2
  rw [hwh] at hWh
  rw [hL] at h ⊢
  rw [hs] at hD ⊢
  have HK : Hid (recW n ls index D = hashF n 8 [numB index, endsF (endR n ls (digF D) index) (4 * n + 5)]) := rfl
  generalize recW n ls index D = K at *
  have HAll : Hid (∀ l ∈ ls, l.length = n) := hAll
  have HdL : Hid ((digF D).length = 4 * n + 5) := by
    show (digF D).length = _
    rw [digF_length, hs]
    omega
  have hDg := fun w' h' => digits_any (.slice q n d) D w' h'
  rw [HdL.out] at hDg
  have HDl := digF_le D
  clear hc hwh hL hAll hs
  generalize digF D = ds at *
  have b1 : Below w.heap.size w (w.alloc (.cells #[.int .i64 (n : Int)] 3)) := (Below.refl _ w).alloc (Nat.le_refl _) _
  have b2 : Below w.heap.size w ((w.alloc (.cells #[.int .i64 (n : Int)] 3)).alloc (.cells #[.slice p (4 * n + 5) c] 28)) := b1.alloc b1.size _
  have b3 := b2.alloc b2.size (.cells #[.int .i64 index] 3)
  have e1 : (((w.alloc (.cells #[.int .i64 (n : Int)] 3)).alloc (.cells #[.slice p (4 * n + 5) c] 28)).alloc (.cells #[.int .i64 index] 3)).cell? ⟨w.heap.size, 0, none⟩ = some (.int .i64 (n : Int)) := by
    exact cell_later (((Below.refl _ _).alloc (Nat.le_refl _) _).alloc (by simp) _) (cell_box_at w _ _ _ rfl)
  have e2 : (((w.alloc (.cells #[.int .i64 (n : Int)] 3)).alloc (.cells #[.slice p (4 * n + 5) c] 28)).alloc (.cells #[.int .i64 index] 3)).cell? ⟨w.heap.size + 1, 0, none⟩ = some (.slice p (4 * n + 5) c) := by
    exact cell_later ((Below.refl _ _).alloc (Nat.le_refl _) _) (cell_box_at _ _ _ _ (by simp))
  have e3 : (((w.alloc (.cells #[.int .i64 (n : Int)] 3)).alloc (.cells #[.slice p (4 * n + 5) c] 28)).alloc (.cells #[.int .i64 index] 3)).cell? ⟨w.heap.size + 1 + 1, 0, none⟩ = some (.int .i64 index) := by
    exact cell_box_at _ _ _ _ (by simp)
  go_enter Tryd.func36, Tryd.ntmps36
  go_wp2_with fail
  refine (hC _).mono ?_
  rintro e w1 ⟨rfl, hw1⟩
  subst hw1
  go_wp2_with fail
  refine (hWh _ (h.later b3)).mono ?_
  rintro e w1 ⟨rfl, hw1⟩
  subst hw1
  go_wp2_with fail
  generalize ((w.alloc (.cells #[.int .i64 (n : Int)] 3)).alloc (.cells #[.slice p (4 * n + 5) c] 28)).alloc (.cells #[.int .i64 index] 3) = wa at *
  refine (hDg _ (hD.later b3)).mono ?_
  rintro e w2 ⟨v2, rfl, o2, hb2⟩
  have i2 := IA.of_owns o2
  obtain ⟨p2, c2, hv2⟩ := i2.shape
  rw [HdL.out] at hv2
  subst hv2
  have hb02 := b3.trans (hb2.mono b3.size)
  clear o2
  have f1 := cell_later hb2 e1
  have f2 := cell_later hb2 e2
  have f3 := cell_later hb2 e3
  have hT2 := hT.later hb02
  have h2 := h.later hb02
  clear hT e1 e2 e3 hb2 h hD b3 b2 b1 hDg hWh hC
  have bA := (Below.refl _ w2).alloc (Nat.le_refl _) (.cells #[.slice p2 (4 * n + 5) c2] 95)
  have g1 := cell_later bA f1
  have g2 := cell_later bA f2
  have g3 := cell_later bA f3
  have g4 := cell_box w2 (.slice p2 (4 * n + 5) c2) 95
  have hTA := hT2.later bA
  have hA := h2.later bA
  have iA := i2.later bA
  have b0A := hb02.trans (bA.mono hb02.size)
  clear f1 f2 f3 hT2 h2 i2 hb02
  go_wp2_with fail
  generalize w2.alloc (.cells #[.slice p2 (4 * n + 5) c2] 95) = wb at *
  refine (closedR_any n index _ _ _ _ (endR n ls ds index) wb hn hn2 (fun i => endR_le n hn2 ls HAll.out ds index i) hTA (fun i w' hi' hb => recf_any n index i p p2 c c2 (4 * n + 5) _ _ _ _ ls ds w' (hA.later hb) (iA.later hb) hi' (by omega) (fun l hl => by rw [HAll.out l hl]; omega) HDl (hTA.later hb) (cell_later hb g1) (cell_later hb g2) (cell_later hb g3) (cell_later hb g4))).mono ?_
  rintro e w4 ⟨p4, c4, rfl, h4, hb4⟩
  rw [← HK.out] at h4 ⊢
  have hb04 : Below w.heap.size w w4 := b0A.trans (hb4.mono b0A.size)
  go_wp2
  go_ret2
  exact ⟨_, _, rfl, h4, hb04⟩

set_option maxRecDepth 100000 in
set_option maxHeartbeats 1000000 in
theorem rec_err (size index : Int) (v u : Value) (ls : List (List UInt8)) (D : List UInt8) (w : World) (h : PA w v ls) (hD : HB w u D) (hbad : canB size index = false ∨ (D.length : Int) ≠ size ∨ wholeB size.toNat ls = false) :
    Calls Tryd.prog 36 #[.int .i64 size, v, .int .i64 index, u] w fun e w' => e = .returned (.tuple #[.slice none 0 0, .int .i64 1]) ∧ Below w.heap.size w w' := by
  obtain ⟨p, c, rfl⟩ := h.shape
  obtain ⟨q, d, rfl⟩ := hD.shape
  have hdm := hD.len.2
  unfold maxLen at hdm
  have hC := fun w' => can_any size index w'
  have b1 : Below w.heap.size w (w.alloc (.cells #[.int .i64 size] 3)) := (Below.refl _ w).alloc (Nat.le_refl _) _
  have b2 : Below w.heap.size w ((w.alloc (.cells #[.int .i64 size] 3)).alloc (.cells #[.slice p ls.length c] 28)) := b1.alloc b1.size _
  have b3 := b2.alloc b2.size (.cells #[.int .i64 index] 3)
  cases hb : canB size index with
  | false =>
    rw [hb] at hC
    clear hbad
    go_enter Tryd.func36, Tryd.ntmps36
    go_wp2_with fail
    refine (hC _).mono ?_
    rintro e w1 ⟨rfl, hw1⟩
    subst hw1
    go_wp2
    go_ret2
    exact ⟨rfl, b3⟩
  | true =>
    rw [hb] at hC
    have hcan : 1 ≤ size ∧ size ≤ 32 ∧ 0 ≤ index ∧ index < 256 := by simpa [canB] using hb
    obtain ⟨n, rfl⟩ : ∃ n : Nat, size = (n : Int) := ⟨size.toNat, by omega⟩
    by_cases hdl : D.length = n
    · have hwh : wholeB n ls = false := by
        rcases hbad with h | h | h
        · rw [hb] at h; cases h
        · exact absurd (by rw [hdl]) h
        · simpa using h
      have hWh := fun w' h' => whole_any n (.slice p ls.length c) ls w' h' (by omega)
      rw [hwh] at hWh
      rw [hdl] at hD ⊢
      clear hbad hb hdl hwh
      go_enter Tryd.func36, Tryd.ntmps36
      go_wp2_with fail
      refine (hC _).mono ?_
      rintro e w1 ⟨rfl, hw1⟩
      subst hw1
      go_wp2_with fail
      refine (hWh _ (h.later b3)).mono ?_
      rintro e w1 ⟨rfl, hw1⟩
      subst hw1
      go_wp2
      go_ret2
      exact ⟨rfl, b3⟩
    · have hdl2 : ¬ (D.length : Int) = (n : Int) := by omega
      clear hbad hb
      go_enter Tryd.func36, Tryd.ntmps36
      go_wp2_with fail
      refine (hC _).mono ?_
      rintro e w1 ⟨rfl, hw1⟩
      subst hw1
      go_wp2
      go_ret2
      exact ⟨rfl, b3⟩

end Go.Proofs.YtpnginemjcphcabDoor
