/- What this text proves: the walks of wots.whole and wots.Recover over this program: the key that any chains come to, or the error. What this text proves: the walks of wots.whole and wots.Recover over this program: the key that any chains come to, or the error. -/
import Derived.Test.YtdjaemobfbbkoaaDoorJWKey
namespace Go.Proofs.YtdjaemobfbbkoaaDoor
open Go.RowKit

set_option maxRecDepth 100000 in
set_option maxHeartbeats 4000000 in
theorem closedR_any (n : Nat) (index : Int) (q1 q2 q3 q4 : Value) (E : Nat → List UInt8) (w : World) (hn : 1 ≤ n) (hn2 : n ≤ 32) (hE : ∀ i, (E i).length ≤ n) (hT : Tabs w)
    (hf : ∀ (i : Nat) w', i < 4 * n + 5 → Below w.heap.size w w' → Calls Tryd.prog 58 #[.int .i64 (i : Int), q1, q2, q3, q4] w' fun e w'' => ∃ p c, e = .returned (.slice p (E i).length c) ∧ HB w'' (.slice p (E i).length c) (E i) ∧ Below w'.heap.size w' w'') :
    Calls Tryd.prog 57 #[.int .i64 (n : Int), .int .i64 index, .func (.func 58) #[] #[q1, q2, q3, q4]] w fun e w' => ∃ p c, e = .returned (.slice p (hashF n 8 [numB index, endsF E (4 * n + 5)]).length c) ∧ HB w' (.slice p (hashF n 8 [numB index, endsF E (4 * n + 5)]).length c) (hashF n 8 [numB index, endsF E (4 * n + 5)]) ∧ Below w.heap.size w w' := by
  have hA := fun w' => number_to index w'
  obtain ⟨Y, hY⟩ : ∃ Y, Y = hashF n 8 [numB index, endsF E (4 * n + 5)] := ⟨_, rfl⟩
  have HY : Hid (Y = hashF n 8 [numB index, endsF E (4 * n + 5)]) := hY
  rw [← hY]
  clear hY
  have hCC := fun w' => chaincount_any n w' (by omega)
  obtain ⟨i0, hi, hz0, hz1, hz2⟩ := info_parts i_u8
  have hEL := fun k => endsF_len E n hE k
  have HEL : Hid (∀ k, (endsF E k).length ≤ k * n) := hEL
  have HEn : Hid (∀ i, (E i).length ≤ n) := hE
  have HE1 : Hid (∀ k, endsF E (k + 1) = endsF E k ++ E k) := fun _ => rfl
  have HE0 : Hid (endsF E 0 = []) := rfl
  have HF : Hid (∀ (i : Nat) w', i < 4 * n + 5 → Below w.heap.size w w' → Calls Tryd.prog 58 #[.int .i64 (i : Int), q1, q2, q3, q4] w' fun e w'' => ∃ p c, e = .returned (.slice p (E i).length c) ∧ HB w'' (.slice p (E i).length c) (E i) ∧ Below w'.heap.size w' w'') := hf
  clear hE hEL hf
  generalize numB index = A at *
  generalize endsF E = EE at *
  go_enter Tryd.func57, Tryd.ntmps57
  go_wp2_with fail
  refine (hCC _).mono ?_
  rintro e w1 ⟨rfl, hw1⟩
  have hw2 := hw1.symm
  clear hw1
  subst hw2
  have hmul : (4 * (n : Int) + 5) * (n : Int) = (((4 * n + 5) * n : Nat) : Int) := by push_cast; rfl
  have hmulb : (4 * n + 5) * n ≤ 5000 := by
    have := Nat.mul_le_mul (show 4 * n + 5 ≤ 133 by omega) hn2
    omega
  generalize (4 * n + 5) * n = P at *
  go_wp2_with (first | (at_make; refine wpList_make_own _ rfl _ _ 22 rfl w.heap.size 5 i0 (.int .u8 0) 1 Tryd.underlying22 hi hz0 hz1 .i64 .i64 _ P rfl rfl ?qa ?qb ?qc ?qd ?_))
  all_goals (try (first | omega | (rw [hz2]; omega) | (unfold maxLen; omega)))
  intro w1 hown1 hgrow1
  have hb1 : Below w.heap.size w w1 := (Below.refl _ w).grown hgrow1 (Nat.le_refl _) (by intro k hk; cases hk)
  have hown2 : w1.ownsRow w.heap.size 5 1 (.slice (some ⟨w.heap.size, 0, none⟩) 0 P) (EE 0).length (bcs (EE 0)) := by
    rw [HE0.out]
    simpa [bcs] using hown1
  clear hown1 hgrow1
  go_wp2_with fail
  refine (hCC _).mono ?_
  rintro e w2 ⟨rfl, hw1⟩
  have hw2 := hw1.symm
  clear hw1
  subst hw2
  go_wp2
  go_loopw [7, 16] (fun v i wr => ∃ k : Nat, k ≤ 4 * n + 5 ∧ i = .int .i64 k ∧ wr.ownsRow w.heap.size 5 1 v (EE k).length (bcs (EE k)) ∧ Below w.heap.size w wr) (fun _ i _ => 4 * n + 5 - (intOf i).toNat)
  case atStart => exact ⟨0, Nat.zero_le _, rfl, hown2, hb1⟩
  case round =>
    obtain ⟨k, hk, rfl, hown, hbe⟩ := hrel
    clear hown2 hb1
    by_cases hlt : k < 4 * n + 5
    · have hlt2 : (k : Int) < 4 * (n : Int) + 5 := by omega
      have hEk := HEL.out k
      have hEn := HEn.out k
      have hkn : k * n ≤ 5000 := by
        have := Nat.mul_le_mul (show k ≤ 133 by omega) hn2
        omega
      have hcall := HF.out k wr hlt hbe
      have HS : Hid (EE (k + 1) = EE k ++ E k) := HE1.out k
      generalize E k = Z at *
      generalize hX : EE k = X at *
      have HX : Hid (EE k = X) := hX
      clear hX
      have hsz := hbe.size
      go_wp2_with fail
      refine hcall.mono ?_
      rintro e w3 ⟨p3, c3, rfl, h3, hb3⟩
      have hown3 := owns_later hown hb3
      have hb03 := hbe.trans (hb3.mono hsz)
      have hsz3 := hb03.size
      clear hcall hown hb3
      go_wp2_with (first | (at_builtin; refine wpList_append_hb rfl (.tmp 19) (.tmp 22) 22 rfl w.heap.size 5 Tryd.underlying22 i_u8 _ _ _ rfl hown3 _ _ _ Z rfl h3 ?sa ?sb ?_))
      case sa => omega
      case sb => omega
      intro v4 w4 hown4 hgrow4
      have hb4 : Below w.heap.size w w4 := hb03.grown hgrow4 hsz3 (fun k hk => (hown3.lt k hk).1)
      have hown5 : w4.ownsRow w.heap.size 5 1 v4 (EE (k + 1)).length (bcs (EE (k + 1))) := by
        rw [HS.out, List.length_append, bcs_append]
        exact hown4
      clear hown4 hown3 hgrow4 hb03 h3
      go_wp2
      go_roundw
      case rel => first | exact ⟨k + 1, by omega, by go_num, hown5, hb4⟩ | ((repeat apply Exists.intro); exact ⟨⟨k + 1, by omega, by go_num, hown5, hb4⟩, rfl⟩)
      case measure => simp [intOf]; omega
    · obtain rfl : k = 4 * n + 5 := by omega
      have hEk := HEL.out (4 * n + 5)
      have h2 := HB.of_owns hown
      obtain ⟨p2, c2, rfl⟩ := h2.shape
      generalize EE (4 * n + 5) = Z at *
      clear hown
      have hTr := hT.later hbe
      go_wp2_with fail
      refine (hA _).mono ?_
      rintro e w3 ⟨p3, c3, rfl, h3, hb3⟩
      have hb03 := hbe.trans (hb3.mono hbe.size)
      have g2 := h2.later hb3
      have hT3 := hTr.later hb3
      clear h2 hb3 hbe hTr
      go_wp2_with fail
      have hbA : Below w.heap.size w (w3.alloc (.cells #[.slice p3 8 c3, .slice p2 Z.length c2] 22)) := hb03.alloc hb03.size _
      refine (hash_to n 8 _ [A, Z] _ (by simp) (by decide) (PA.lit w3 22 [_, _] _ 2 rfl rfl (by decide) (two_hb h3 g2)) (hT3.later ((Below.refl _ w3).alloc (Nat.le_refl _) _))).mono ?_
      rintro e w6 ⟨p6, c6, rfl, h6, hb6⟩
      rw [← HY.out] at h6 ⊢
      have hb06 : Below w.heap.size w w6 := hbA.trans (hb6.mono hbA.size)
      go_wp2
      go_ret
      exact ⟨_, _, rfl, h6, hb06⟩

/-- The end of chain i of a signature. -/
def endR (size : Int) (ls : List (List UInt8)) (ds : List Nat) (index : Int) (i : Nat) : List UInt8 := chainF size (ls.getD i []) index i ((ds.getD i 0 : Nat) : Int) 3

set_option maxRecDepth 100000 in
set_option maxHeartbeats 4000000 in
theorem recf_any (n : Nat) (index : Int) (i : Nat) (pc pd : Option Addr) (cc cd N b1 b2 b3 b4 : Nat) (ls : List (List UInt8)) (ds : List Nat) (w : World) (hc : PA w (.slice pc N cc) ls) (hd : IA w (.slice pd N cd) ds) (hi : i < N) (hN : N ≤ 1000) (hl : ∀ l ∈ ls, l.length ≤ 1000) (hds : ∀ d ∈ ds, d ≤ 3) (hT : Tabs w)
    (e1 : w.cell? ⟨b1, 0, none⟩ = some (.int .i64 (n : Int))) (e2 : w.cell? ⟨b2, 0, none⟩ = some (.slice pc N cc)) (e3 : w.cell? ⟨b3, 0, none⟩ = some (.int .i64 index)) (e4 : w.cell? ⟨b4, 0, none⟩ = some (.slice pd N cd)) :
    Calls Tryd.prog 58 #[.int .i64 (i : Int), .pointer (some ⟨b1, 0, none⟩), .pointer (some ⟨b2, 0, none⟩), .pointer (some ⟨b3, 0, none⟩), .pointer (some ⟨b4, 0, none⟩)] w fun e w' => ∃ p c, e = .returned (.slice p (endR n ls ds index i).length c) ∧ HB w' (.slice p (endR n ls ds index i).length c) (endR n ls ds index i) ∧ Below w.heap.size w w' := by
  have hNl := hc.len.1
  have hNd : N = ds.length := by
    obtain ⟨_, _, e, _⟩ := hd
    simp only [Value.slice.injEq] at e
    exact e.2.1
  obtain ⟨bc1, oc, rfl⟩ := hc.addr (by omega)
  obtain ⟨q, k, l, HL, ec, hl1⟩ := hc.get i hi
  obtain ⟨bd, od, rfl, fd⟩ := hd.addr (by omega)
  have hg : ds[i]? = some (ds.getD i 0) := by rw [List.getD_eq_getElem?_getD, List.getElem?_eq_getElem (by omega)]; rfl
  have ed := fd i _ hg
  have hd3 := hds _ (List.mem_of_getElem? hg)
  have hll := hl l (List.mem_of_getElem? HL.out)
  have HE : Hid (endR n ls ds index i = chainF n l index i ((ds.getD i 0 : Nat) : Int) 3) := by
    show endR n ls ds index i = _
    unfold endR
    rw [show ls.getD i [] = l by rw [List.getD_eq_getElem?_getD, HL.out]; rfl]
  generalize ds.getD i 0 = D at *
  have hC := fun w' h' hT' => chain_any n index i (D : Int) 3 (.slice q l.length k) l w' h' (by omega) hT' (by omega)
  generalize endR n ls ds index i = F at *
  generalize chainF n l index i (D : Int) 3 = G at *
  have hiN : (i : Int) < (N : Int) := by omega
  clear hNl hNd hg fd HL
  go_enter Tryd.func58, Tryd.ntmps58
  go_wp2
  go_region_held3 (fun w' => w'.cell? ⟨b1, 0, none⟩ = some (.int .i64 (n : Int)) ∧ w'.cell? ⟨b2, 0, none⟩ = some (.slice (some ⟨bc1, oc, none⟩) N cc) ∧ w'.cell? ⟨b3, 0, none⟩ = some (.int .i64 index) ∧ w'.cell? ⟨b4, 0, none⟩ = some (.slice (some ⟨bd, od, none⟩) N cd) ∧ w'.cell? ⟨bc1, oc + i, none⟩ = some (.slice q l.length k) ∧ w'.cell? ⟨bd, od + i, none⟩ = some (.int .i64 (D : Int))) (first | exact ⟨e1, e2, e3, e4, ec, ed⟩ | exact ⟨f1, f2, f3, f4, f5, f6⟩) (first
    | (go_at_call 47; refine (hC _ (hl1.later (by repeat (first | exact Below.refl _ _ | refine Below.drew ?_))) (hT.later (by repeat (first | exact Below.refl _ _ | refine Below.drew ?_)))).mono ?_; rintro e w1 ⟨p1, c1, rfl, h1, hb1⟩; have hb01 : Below w.heap.size w w1 := Below.trans (by repeat (first | exact Below.refl _ _ | refine Below.drew ?_)) hb1; have f1 := cell_later hb01 e1; have f2 := cell_later hb01 e2; have f3 := cell_later hb01 e3; have f4 := cell_later hb01 e4; have f5 := cell_later hb01 ec; have f6 := cell_later hb01 ed))
  all_goals
    go_wp2
    go_ret
    rw [HE.out]
    exact ⟨_, _, rfl, h1, hb01⟩

end Go.Proofs.YtdjaemobfbbkoaaDoor

namespace Go.Proofs.YtdjaemobfbbkoaaDoor
open Go.RowKit

/-- Whether a signature has all its chains, of n bytes each. -/
def wholeB (n : Nat) (ls : List (List UInt8)) : Bool := decide (ls.length = 4 * n + 5) && ls.all fun l => decide (l.length = n)

set_option maxRecDepth 100000 in
set_option maxHeartbeats 1000000 in
theorem whole_any (n : Nat) (v : Value) (ls : List (List UInt8)) (w : World) (h : PA w v ls) (hn : n ≤ 32) :
    Calls Tryd.prog 56 #[.int .i64 (n : Int), v] w fun e w' => e = .returned (.bool (wholeB n ls)) ∧ w' = w := by
  obtain ⟨p, c, rfl⟩ := h.shape
  have hm := h.len.2
  unfold maxLen at hm
  have hCC := fun w' => chaincount_any n w' (by omega)
  by_cases hlen : ls.length = 4 * n + 5
  · have HW : Hid (wholeB n ls = ls.all fun l => decide (l.length = n)) := by
      show wholeB n ls = _
      simp [wholeB, hlen]
    generalize wholeB n ls = B at *
    have HL : Hid (ls.length = 4 * n + 5) := hlen
    rw [hlen] at h ⊢
    clear hlen
    go_enter Tryd.func56, Tryd.ntmps56
    go_wp2_with fail
    refine (hCC _).mono ?_
    rintro e w1 ⟨rfl, hw1⟩
    have hw2 := hw1.symm
    clear hw1
    subst hw2
    go_wp2
    go_loop [14] (fun i => ∃ k : Nat, k ≤ 4 * n + 5 ∧ i = .int .i64 k ∧ ∀ l ∈ ls.take k, l.length = n) (fun i => 4 * n + 5 - (intOf i).toNat)
    case atStart => exact ⟨0, Nat.zero_le _, rfl, by simp⟩
    case round =>
      obtain ⟨k, hk, rfl, hall⟩ := hrel
      have HA : Hid (∀ l ∈ ls.take k, l.length = n) := hall
      clear hall
      by_cases hlt : k < 4 * n + 5
      · obtain ⟨b, o, rfl⟩ := h.addr (by omega)
        obtain ⟨q, d, l, g, hc, hb⟩ := h.get k hlt
        have hlt2 : (k : Int) < 4 * (n : Int) + 5 := by omega
        have hlm := hb.len.2
        unfold maxLen at hlm
        by_cases hln : l.length = n
        · have HA2 : Hid (∀ l ∈ ls.take (k + 1), l.length = n) := by
            intro x hx
            rw [List.take_add_one, g.out] at hx
            rcases List.mem_append.1 hx with hx | hx
            · exact HA.out x hx
            · simp at hx; subst hx; exact hln
          rw [hln] at hc hb
          clear hln HA
          go_wp2
          go_round
          case rel => exact ⟨k + 1, by omega, by go_num, HA2.out⟩
          case measure => simp [intOf]; omega
        · have e1 : B = false := by
            rw [HW.out]
            simp only [List.all_eq_false]
            exact ⟨l, List.mem_of_getElem? g.out, by simpa using hln⟩
          subst e1
          have hln2 : ¬ (l.length : Int) = (n : Int) := by omega
          go_wp2
          go_ret
          exact ⟨rfl, rfl⟩
      · obtain rfl : k = 4 * n + 5 := by omega
        have e1 : B = true := by
          rw [HW.out]
          have := HA.out
          rw [List.take_of_length_le (by rw [HL.out]; omega)] at this
          simp only [List.all_eq_true, decide_eq_true_eq]
          exact this
        subst e1
        go_wp2
        go_ret
        exact ⟨rfl, rfl⟩
  · have hc : wholeB n ls = false := by simp [wholeB, hlen]
    rw [hc]
    have hlen2 : ¬ (ls.length : Int) = 4 * (n : Int) + 5 := by omega
    clear hc
    go_enter Tryd.func56, Tryd.ntmps56
    go_wp2_with fail
    refine (hCC _).mono ?_
    rintro e w1 ⟨rfl, hw1⟩
    have hw2 := hw1.symm
    clear hw1
    subst hw2
    go_wp2
    go_ret
    exact ⟨rfl, rfl⟩

theorem wholeB_true {n : Nat} {ls : List (List UInt8)} (h : wholeB n ls = true) : ls.length = 4 * n + 5 ∧ ∀ l ∈ ls, l.length = n := by
  simpa [wholeB] using h

/-- The key that a signature comes to. -/
def recW (n : Nat) (ls : List (List UInt8)) (index : Int) (D : List UInt8) : List UInt8 := hashF n 8 [numB index, endsF (endR n ls (digF D) index) (4 * n + 5)]

theorem endR_le (n : Nat) (hn : n ≤ 32) (ls : List (List UInt8)) (hl : ∀ l ∈ ls, l.length = n) (ds : List Nat) (index : Int) (i : Nat) : (endR n ls ds index i).length ≤ n := by
  refine chainN_le n hn _ _ _ _ _ ?_
  rw [List.getD_eq_getElem?_getD]
  cases hg : ls[i]? with
  | none => simp
  | some l => exact Nat.le_of_eq (hl l (List.mem_of_getElem? hg))

set_option maxRecDepth 100000 in
set_option maxHeartbeats 2000000 in
theorem rec_ok (n : Nat) (index : Int) (v u : Value) (ls : List (List UInt8)) (D : List UInt8) (w : World) (h : PA w v ls) (hD : HB w u D) (hs : D.length = n) (hwh : wholeB n ls = true) (hn : 1 ≤ n) (hn2 : n ≤ 32) (hi : 0 ≤ index) (hi2 : index < 256) (hT : Tabs w) :
    Calls Tryd.prog 29 #[.int .i64 (n : Int), v, .int .i64 index, u] w fun e w' => ∃ p c, e = .returned (.tuple #[.slice p (recW n ls index D).length c, .int .i64 0]) ∧ HB w' (.slice p (recW n ls index D).length c) (recW n ls index D) ∧ Below w.heap.size w w' := by
  obtain ⟨p, c, rfl⟩ := h.shape
  obtain ⟨q, d, rfl⟩ := hD.shape
  obtain ⟨hL, hAll⟩ := wholeB_true hwh
  have hc : canB n index = true := by simp [canB]; omega
  have hC := fun w' => can_any n index w'
  rw [hc] at hC
  have hWh := fun w' h' => whole_any n (.slice p (4 * n + 5) c) ls w' h' hn2
  rw [hwh] at hWh
  rw [hL] at h ⊢
  rw [hs] at hD ⊢
  have HK : Hid (recW n ls index D = hashF n 8 [numB index, endsF (endR n ls (digF D) index) (4 * n + 5)]) := rfl
  generalize recW n ls index D = K at *
  have HAll : Hid (∀ l ∈ ls, l.length = n) := hAll
  have HdL : Hid ((digF D).length = 4 * n + 5) := by
    show (digF D).length = _
    rw [digF_length, hs]
    omega
  have hDg := fun w' h' => digits_any (.slice q n d) D w' h'
  rw [HdL.out] at hDg
  have HDl := digF_le D
  clear hc hwh hL hAll hs
  generalize digF D = ds at *
  have b1 : Below w.heap.size w (w.alloc (.cells #[.int .i64 (n : Int)] 3)) := (Below.refl _ w).alloc (Nat.le_refl _) _
  have b2 : Below w.heap.size w ((w.alloc (.cells #[.int .i64 (n : Int)] 3)).alloc (.cells #[.slice p (4 * n + 5) c] 28)) := b1.alloc b1.size _
  have b3 := b2.alloc b2.size (.cells #[.int .i64 index] 3)
  have e1 : (((w.alloc (.cells #[.int .i64 (n : Int)] 3)).alloc (.cells #[.slice p (4 * n + 5) c] 28)).alloc (.cells #[.int .i64 index] 3)).cell? ⟨w.heap.size, 0, none⟩ = some (.int .i64 (n : Int)) := by
    exact cell_later (((Below.refl _ _).alloc (Nat.le_refl _) _).alloc (by simp) _) (cell_box_at w _ _ _ rfl)
  have e2 : (((w.alloc (.cells #[.int .i64 (n : Int)] 3)).alloc (.cells #[.slice p (4 * n + 5) c] 28)).alloc (.cells #[.int .i64 index] 3)).cell? ⟨w.heap.size + 1, 0, none⟩ = some (.slice p (4 * n + 5) c) := by
    exact cell_later ((Below.refl _ _).alloc (Nat.le_refl _) _) (cell_box_at _ _ _ _ (by simp))
  have e3 : (((w.alloc (.cells #[.int .i64 (n : Int)] 3)).alloc (.cells #[.slice p (4 * n + 5) c] 28)).alloc (.cells #[.int .i64 index] 3)).cell? ⟨w.heap.size + 1 + 1, 0, none⟩ = some (.int .i64 index) := by
    exact cell_box_at _ _ _ _ (by simp)
  go_enter Tryd.func29, Tryd.ntmps29
  go_wp2_with fail
  refine (hC _).mono ?_
  rintro e w1 ⟨rfl, hw1⟩
  subst hw1
  go_wp2_with fail
  refine (hWh _ (h.later b3)).mono ?_
  rintro e w1 ⟨rfl, hw1⟩
  subst hw1
  go_wp2_with fail
  generalize ((w.alloc (.cells #[.int .i64 (n : Int)] 3)).alloc (.cells #[.slice p (4 * n + 5) c] 28)).alloc (.cells #[.int .i64 index] 3) = wa at *
  refine (hDg _ (hD.later b3)).mono ?_
  rintro e w2 ⟨v2, rfl, o2, hb2⟩
  have i2 := IA.of_owns o2
  obtain ⟨p2, c2, hv2⟩ := i2.shape
  rw [HdL.out] at hv2
  subst hv2
  have hb02 := b3.trans (hb2.mono b3.size)
  clear o2
  have f1 := cell_later hb2 e1
  have f2 := cell_later hb2 e2
  have f3 := cell_later hb2 e3
  have hT2 := hT.later hb02
  have h2 := h.later hb02
  clear hT e1 e2 e3 hb2 h hD b3 b2 b1 hDg hWh hC
  have bA := (Below.refl _ w2).alloc (Nat.le_refl _) (.cells #[.slice p2 (4 * n + 5) c2] 93)
  have g1 := cell_later bA f1
  have g2 := cell_later bA f2
  have g3 := cell_later bA f3
  have g4 := cell_box w2 (.slice p2 (4 * n + 5) c2) 93
  have hTA := hT2.later bA
  have hA := h2.later bA
  have iA := i2.later bA
  have b0A := hb02.trans (bA.mono hb02.size)
  clear f1 f2 f3 hT2 h2 i2 hb02
  go_wp2_with fail
  generalize w2.alloc (.cells #[.slice p2 (4 * n + 5) c2] 93) = wb at *
  refine (closedR_any n index _ _ _ _ (endR n ls ds index) wb hn hn2 (fun i => endR_le n hn2 ls HAll.out ds index i) hTA (fun i w' hi' hb => recf_any n index i p p2 c c2 (4 * n + 5) _ _ _ _ ls ds w' (hA.later hb) (iA.later hb) hi' (by omega) (fun l hl => by rw [HAll.out l hl]; omega) HDl (hTA.later hb) (cell_later hb g1) (cell_later hb g2) (cell_later hb g3) (cell_later hb g4))).mono ?_
  rintro e w4 ⟨p4, c4, rfl, h4, hb4⟩
  rw [← HK.out] at h4 ⊢
  have hb04 : Below w.heap.size w w4 := b0A.trans (hb4.mono b0A.size)
  go_wp2
  go_ret2
  exact ⟨_, _, rfl, h4, hb04⟩

set_option maxRecDepth 100000 in
set_option maxHeartbeats 1000000 in
theorem rec_err (size index : Int) (v u : Value) (ls : List (List UInt8)) (D : List UInt8) (w : World) (h : PA w v ls) (hD : HB w u D) (hbad : canB size index = false ∨ (D.length : Int) ≠ size ∨ wholeB size.toNat ls = false) :
    Calls Tryd.prog 29 #[.int .i64 size, v, .int .i64 index, u] w fun e w' => e = .returned (.tuple #[.slice none 0 0, .int .i64 1]) ∧ Below w.heap.size w w' := by
  obtain ⟨p, c, rfl⟩ := h.shape
  obtain ⟨q, d, rfl⟩ := hD.shape
  have hdm := hD.len.2
  unfold maxLen at hdm
  have hC := fun w' => can_any size index w'
  have b1 : Below w.heap.size w (w.alloc (.cells #[.int .i64 size] 3)) := (Below.refl _ w).alloc (Nat.le_refl _) _
  have b2 : Below w.heap.size w ((w.alloc (.cells #[.int .i64 size] 3)).alloc (.cells #[.slice p ls.length c] 28)) := b1.alloc b1.size _
  have b3 := b2.alloc b2.size (.cells #[.int .i64 index] 3)
  cases hb : canB size index with
  | false =>
    rw [hb] at hC
    clear hbad
    go_enter Tryd.func29, Tryd.ntmps29
    go_wp2_with fail
    refine (hC _).mono ?_
    rintro e w1 ⟨rfl, hw1⟩
    subst hw1
    go_wp2
    go_ret2
    exact ⟨rfl, b3⟩
  | true =>
    rw [hb] at hC
    have hcan : 1 ≤ size ∧ size ≤ 32 ∧ 0 ≤ index ∧ index < 256 := by simpa [canB] using hb
    obtain ⟨n, rfl⟩ : ∃ n : Nat, size = (n : Int) := ⟨size.toNat, by omega⟩
    by_cases hdl : D.length = n
    · have hwh : wholeB n ls = false := by
        rcases hbad with h | h | h
        · rw [hb] at h; cases h
        · exact absurd (by rw [hdl]) h
        · simpa using h
      have hWh := fun w' h' => whole_any n (.slice p ls.length c) ls w' h' (by omega)
      rw [hwh] at hWh
      rw [hdl] at hD ⊢
      clear hbad hb hdl hwh
      go_enter Tryd.func29, Tryd.ntmps29
      go_wp2_with fail
      refine (hC _).mono ?_
      rintro e w1 ⟨rfl, hw1⟩
      subst hw1
      go_wp2_with fail
      refine (hWh _ (h.later b3)).mono ?_
      rintro e w1 ⟨rfl, hw1⟩
      subst hw1
      go_wp2
      go_ret2
      exact ⟨rfl, b3⟩
    · have hdl2 : ¬ (D.length : Int) = (n : Int) := by omega
      clear hbad hb
      go_enter Tryd.func29, Tryd.ntmps29
      go_wp2_with fail
      refine (hC _).mono ?_
      rintro e w1 ⟨rfl, hw1⟩
      subst hw1
      go_wp2
      go_ret2
      exact ⟨rfl, b3⟩

end Go.Proofs.YtdjaemobfbbkoaaDoor
