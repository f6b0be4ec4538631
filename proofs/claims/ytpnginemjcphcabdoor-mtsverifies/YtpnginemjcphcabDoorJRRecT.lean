/- What this text proves: the walk of the document's Recover (annalsref05) over this program. -/
import Derived.Test.YtpnginemjcphcabDoorJRSignT
namespace Go.Proofs.YtpnginemjcphcabDoor
open Go.RowKit

set_option maxRecDepth 100000 in
set_option maxHeartbeats 4000000 in
theorem rrec_in (n : Nat) (index : Int) (v u : Value) (ls : List (List UInt8)) (D : List UInt8) (w : World) (h : PA w v ls) (hD : HB w u D) (hs : D.length = n) (hc : canB n index = true) (hL : ls.length = 4 * n + 5) :
    Calls Tryd.prog 38 #[.int .i64 (n : Int), v, .int .i64 index, u] w fun e w' =>
      ((wholeB n ls = true → ∃ p c, e = .returned (.tuple #[.slice p (recW n ls index D).length c, .int .i64 0]) ∧ HB w' (.slice p (recW n ls index D).length c) (recW n ls index D)) ∧
       (wholeB n ls = false → e = .returned (.tuple #[.slice none 0 0, .int .i64 1]))) ∧ Below w.heap.size w w' := by
  have hc2 : rcanB n index 0 = true := by simp [rcanB, hc]
  obtain ⟨q1, q2, q3, q4, q5⟩ := rcanB_true hc2
  obtain ⟨p, c, rfl⟩ := h.shape
  obtain ⟨q, d, rfl⟩ := hD.shape
  have hC := fun w' => rcan_any n index none 0 0 w' (by omega)
  rw [hc2] at hC
  have HdL : Hid ((digF D).length = 4 * n + 5) := by
    show (digF D).length = _
    rw [digF_length, hs]
    omega
  have hDg := fun w' h' => rdigits_any (.slice q n d) D w' h' (by omega)
  rw [HdL.out] at hDg
  rw [hs] at hD ⊢
  have hd3 := digF_le D
  have HW : Hid (wholeB n ls = ls.all fun l => decide (l.length = n)) := by
    show wholeB n ls = _
    simp [wholeB, hL]
  have hKh := fun v w' h' => rkeyh_any n index v (endsF (endR n ls (digF D) index) (4 * n + 5)) w' h'
  have HKh : Hid (∀ v w', HB w' v (endsF (endR n ls (digF D) index) (4 * n + 5)) → Calls Tryd.prog 61 #[.int .i64 (n : Int), .int .i64 index, v] w' fun e w'' => ∃ p c, e = .returned (.slice p (recW n ls index D).length c) ∧ HB w'' (.slice p (recW n ls index D).length c) (recW n ls index D) ∧ Below w'.heap.size w' w'') := hKh
  generalize recW n ls index D = K at *
  clear hs hKh hc hc2
  generalize digF D = ds at *
  have HL : Hid (ls.length = 4 * n + 5) := hL
  rw [hL] at h ⊢
  clear hL
  have HCh : Hid (∀ (i : Nat) (l : List UInt8) v w', ls[i]? = some l → l.length = n → HB w' v l → (Calls Tryd.prog 59 #[.int .i64 (n : Int), v, .int .i64 index, .int .i64 (i : Int), .int .i64 ((ds.getD i 0 : Nat) : Int), .int .i64 3] w' fun e w'' => ∃ p c, e = .returned (.slice p (endR n ls ds index i).length c) ∧ HB w'' (.slice p (endR n ls ds index i).length c) (endR n ls ds index i) ∧ Below w'.heap.size w' w'') ∧ (endR n ls ds index i).length ≤ n) := by
    intro i l v w' hg hl h'
    have e : endR n ls ds index i = chainF n l index i ((ds.getD i 0 : Nat) : Int) 3 := by
      unfold endR
      rw [show ls.getD i [] = l by rw [List.getD_eq_getElem?_getD, hg]; rfl]
    have hdd : ds.getD i 0 ≤ 3 := by
      rw [List.getD_eq_getElem?_getD]
      cases hg : ds[i]? with
      | none => simp
      | some d => exact hd3 d (List.mem_of_getElem? hg)
    rw [e]
    refine ⟨rchain_any n index i _ 3 v l w' h' (by omega) (by omega), ?_⟩
    unfold chainF
    exact chainN_le n (by omega) _ _ _ _ _ (by omega)
  have HE1 : Hid (∀ k, endsF (endR n ls ds index) (k + 1) = endsF (endR n ls ds index) k ++ endR n ls ds index k) := fun _ => rfl
  have HE0 : Hid (endsF (endR n ls ds index) 0 = []) := rfl
  generalize endsF (endR n ls ds index) = EE at *
  generalize endR n ls ds index = E at *
  generalize wholeB n ls = WB at *
  go_enter Tryd.func38, Tryd.ntmps38
  go_wp2_with fail
  refine (hC _).mono ?_
  rintro e w1 ⟨rfl, hw1⟩
  have hw2 := hw1.symm
  clear hw1
  subst hw2
  go_wp2_with fail
  refine (hDg _ hD).mono ?_
  rintro e w2 ⟨v2, rfl, o2, hb2⟩
  obtain ⟨p2, c2, hv2⟩ := (IA.of_owns o2).shape
  rw [HdL.out] at hv2
  subst hv2
  obtain ⟨bd, od, rfl, _⟩ := (IA.of_owns o2).addr (by omega)
  clear hDg hC hD
  go_wp2
  go_loopw [10, 36] (fun v i wr => ∃ k : Nat, k ≤ 4 * n + 5 ∧ i = .int .i64 k ∧ Hid (∀ l ∈ ls.take k, l.length = n) ∧ (EE k).length ≤ k * n ∧ wr.ownsRow w.heap.size 5 1 v (EE k).length (bcs (EE k)) ∧ wr.ownsRow w.heap.size 3 1 (.slice (some ⟨bd, od, none⟩) (4 * n + 5) c2) (4 * n + 5) (ics ds) ∧ Below w.heap.size w wr) (fun _ i _ => 4 * n + 5 - (intOf i).toNat)
  case atStart => exact ⟨0, Nat.zero_le _, rfl, (by intro l hl; simp at hl), by rw [HE0.out]; simp, by rw [HE0.out]; exact World.ownsRow_nil _ _ _ _, o2, hb2⟩
  case round =>
    obtain ⟨k, hk, rfl, HA, hEk, hown, hds, hbe⟩ := hrel
    clear o2 hb2
    by_cases hlt : k < 4 * n + 5
    · obtain ⟨b, o, rfl⟩ := h.addr (by omega)
      obtain ⟨q6, k6, l, g, ec, hl⟩ := (h.later hbe).get k hlt
      have hlt2 : (k : Int) < 4 * (n : Int) + 5 := by omega
      have hlm := hl.len.2
      unfold maxLen at hlm
      by_cases hln : l.length = n
      · have HA2 : Hid (∀ l ∈ ls.take (k + 1), l.length = n) := by
          intro x hx
          rw [List.take_add_one, g.out] at hx
          rcases List.mem_append.1 hx with hx | hx
          · exact HA.out x hx
          · simp at hx; subst hx; exact hln
        obtain ⟨hCh, hEn⟩ := HCh.out k l _ wr g.out hln hl
        rw [hln] at ec hl hCh
        clear hln
        have ck := ics_at hds k hlt
        have hkn : k * n ≤ 5000 := by
          have := Nat.mul_le_mul (show k ≤ 133 by omega) (show n ≤ 32 by omega)
          omega
        have HZ : Hid (EE (k + 1) = EE k ++ E k) := HE1.out k
        have hEk2 : (EE (k + 1)).length ≤ (k + 1) * n := by
          rw [HZ.out, List.length_append, Nat.succ_mul]
          omega
        generalize E k = Z at *
        generalize hX : EE k = X at *
        have HX : Hid (EE k = X) := hX
        clear hX
        have hsz := hbe.size
        go_wp2_with fail
        refine hCh.mono ?_
        rintro e w3 ⟨p3, c3, rfl, h3, hb3⟩
        have hown3 := owns_later hown hb3
        have hds3 := owns_later hds hb3
        have hb03 := hbe.trans (hb3.mono hsz)
        have hsz3 := hb03.size
        clear hown hds hb3 hCh
        go_wp2_with (first | (at_builtin; refine wpList_append_hb rfl (.tmp 45) (.tmp 54) 22 rfl w.heap.size 5 Tryd.underlying22 i_u8 _ _ _ rfl hown3 _ _ _ Z rfl h3 ?sa ?sb ?_))
        case sa => omega
        case sb => omega
        intro v5 w5 hown5 hgrow5
        have hb5 : Below w.heap.size w w5 := hb03.grown hgrow5 hsz3 (fun k hk => (hown3.lt k hk).1)
        have hds5 := hds3.kept hgrow5 (owns_apart hds3 hown3 (by decide))
        have hown6 : w5.ownsRow w.heap.size 5 1 v5 (EE (k + 1)).length (bcs (EE (k + 1))) := by
          rw [HZ.out, List.length_append, bcs_append]
          exact hown5
        clear hown3 hown5 hgrow5 hds3 hb03 h3 HA ck
        go_wp2
        go_roundw
        case rel => first | exact ⟨k + 1, by omega, by go_num, HA2, hEk2, hown6, hds5, hb5⟩ | ((repeat apply Exists.intro); exact ⟨⟨k + 1, by omega, by go_num, HA2, hEk2, hown6, hds5, hb5⟩, rfl⟩)
        case measure => simp [intOf]; omega
      · have e1 : WB = false := by
          rw [HW.out]
          simp only [List.all_eq_false]
          exact ⟨l, List.mem_of_getElem? g.out, by simpa using hln⟩
        subst e1
        have hln2 : ¬ (l.length : Int) = (n : Int) := by omega
        go_wp2
        go_ret2
        exact ⟨rfl, hbe⟩
    · obtain rfl : k = 4 * n + 5 := by omega
      have e1 : WB = true := by
        rw [HW.out]
        have := HA.out
        rw [List.take_of_length_le (by rw [HL.out]; omega)] at this
        simp only [List.all_eq_true, decide_eq_true_eq]
        exact this
      subst e1
      have h2 := HB.of_owns hown
      obtain ⟨p2, c2, rfl⟩ := h2.shape
      have hKh := HKh.out
      generalize EE (4 * n + 5) = Z at *
      clear hown
      go_wp2_with fail
      refine (hKh _ _ h2).mono ?_
      rintro e w3 ⟨p3, c3, rfl, h3, hb3⟩
      have hb03 := hbe.trans (hb3.mono hbe.size)
      go_wp2
      go_ret2
      exact ⟨⟨_, _, rfl, h3⟩, hb03⟩

set_option maxRecDepth 100000 in
set_option maxHeartbeats 1000000 in
theorem rrec_err (size index : Int) (v u : Value) (ls : List (List UInt8)) (D : List UInt8) (w : World) (h : PA w v ls) (hD : HB w u D) (hbad : canB size index = false ∨ (D.length : Int) ≠ size ∨ (ls.length : Int) ≠ 4 * size + 5) :
    Calls Tryd.prog 38 #[.int .i64 size, v, .int .i64 index, u] w fun e w' => e = .returned (.tuple #[.slice none 0 0, .int .i64 1]) ∧ w' = w := by
  have hm2 := hD.len_le
  obtain ⟨p, c, rfl⟩ := h.shape
  obtain ⟨q, d, rfl⟩ := hD.shape
  have hm := h.len.2
  unfold maxLen at hm hm2
  have hC := fun w' => rcan_any size index none 0 0 w' (by omega)
  have er : rcanB size index 0 = canB size index := by simp [rcanB]
  rw [er] at hC
  clear er
  cases hb : canB size index with
  | false =>
    rw [hb] at hC
    clear hbad
    go_enter Tryd.func38, Tryd.ntmps38
    go_wp2_with fail
    refine (hC _).mono ?_
    rintro e w1 ⟨rfl, hw1⟩
    subst hw1
    go_wp2
    go_ret2
    exact ⟨rfl, rfl⟩
  | true =>
    rw [hb] at hC
    have hcan : 1 ≤ size ∧ size ≤ 32 ∧ 0 ≤ index ∧ index < 256 := by simpa [canB] using hb
    obtain ⟨n, rfl⟩ : ∃ n : Nat, size = (n : Int) := ⟨size.toNat, by omega⟩
    by_cases hdl : D.length = n
    · have hll : ¬ (ls.length : Int) = 4 * (n : Int) + 5 := by
        rcases hbad with h | h | h
        · rw [hb] at h; cases h
        · exact absurd (by rw [hdl]) h
        · exact h
      rw [hdl] at hD ⊢
      clear hbad hb hdl
      go_enter Tryd.func38, Tryd.ntmps38
      go_wp2_with fail
      refine (hC _).mono ?_
      rintro e w1 ⟨rfl, hw1⟩
      subst hw1
      go_wp2
      go_ret2
      exact ⟨rfl, rfl⟩
    · have hdl2 : ¬ (D.length : Int) = (n : Int) := by omega
      clear hbad hb
      go_enter Tryd.func38, Tryd.ntmps38
      go_wp2_with fail
      refine (hC _).mono ?_
      rintro e w1 ⟨rfl, hw1⟩
      subst hw1
      go_wp2
      go_ret2
      exact ⟨rfl, rfl⟩

end Go.Proofs.YtpnginemjcphcabDoor
