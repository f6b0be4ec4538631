/- What this text proves: the walk of the statement RecordOpened over this program: whatever the size and the signed record, it answers true. -/
import Derived.Test.YtkgoiemnhhdlbaaDoorRcOpen
import Derived.Test.YtkgoiemnhhdlbaaDoorRcAwake
import Derived.Test.YtkgoiemnhhdlbaaDoorRMSameL
namespace Go.Proofs.YtkgoiemnhhdlbaaDoor
open Go.RowKit

theorem wrap_in (n : Int) (h0 : -9000000000000000000 ≤ n) (h1 : n ≤ 9000000000000000000) : IntKind.i64.wrap n = n := by rw [IntKind.wrap_i64]; omega

theorem pow_most (H : Nat) (h : H ≤ 8) : wrap64 (wrap64 ((2 : Int) ^ H) - 1) = (2 : Int) ^ H - 1 ∧ (2 : Int) ^ H ≤ 256 ∧ 1 ≤ (2 : Int) ^ H := by
  have : H = 0 ∨ H = 1 ∨ H = 2 ∨ H = 3 ∨ H = 4 ∨ H = 5 ∨ H = 6 ∨ H = 7 ∨ H = 8 := by omega
  rcases this with rfl | rfl | rfl | rfl | rfl | rfl | rfl | rfl | rfl <;> simp [wrap64]

/-- What a signed record that was sealed is, plainly. -/
theorem sealed_plain {N : Nat} {idx : Int} {r : Rc} {ls ps : List (List UInt8)} (hcan : canB (N : Int) r = true) (hsh : shpB (N : Int) idx ls ps = true) :
    ∃ (n : Nat) (EL SG R : List UInt8), idx = (n : Int) ∧ n ≤ 255 ∧ EL = encL r ∧ SG = numL n ++ R ∧ R = ls.flatten ++ ps.flatten ∧ wrF (bytesL EL) idx ls ps = bytesL EL ++ SG ∧ ls.length = 4 * N + 5 ∧ ps.length ≤ 8 ∧ (∀ y ∈ ls, y.length = N) ∧ (∀ y ∈ ps, y.length = N) ∧ 1 ≤ N ∧ N ≤ 32 ∧ (bytesL EL ++ SG).length ≤ 1000000 ∧ EL.length ≤ 100000 := by
  obtain ⟨q1, q2, _⟩ := (canB_iff _ r).1 hcan
  have hf := flat_small hsh (by omega) q2
  have hel := encL_len hcan
  unfold shpB at hsh
  simp only [Bool.and_eq_true, decide_eq_true_eq] at hsh
  obtain ⟨⟨a1, a2⟩, a3, a4, a5, a6⟩ := hsh
  refine ⟨idx.toNat, encL r, numL idx.toNat ++ (ls.flatten ++ ps.flatten), _, by omega, by omega, rfl, rfl, rfl, ?_, by omega, by omega, sized_nat a5, sized_nat a6, by omega, by omega, ?_, hel⟩
  · unfold wrF
    rw [show clampN idx = idx.toNat by unfold clampN; omega]
    simp
  · have h1 := bytesL_big' (encL r) (by omega)
    have h2 := cnt_le8 idx.toNat (by omega)
    simp only [List.length_append, numL_length]
    omega

set_option maxHeartbeats 4000000 in
theorem recordOpened_walk (size e t c idx : Int) (tv lv kv cv pv : Value) (tr li : List UInt8) (lk ls ps : List (List UInt8)) (w : World) (h1 : HB w tv tr) (h2 : HB w lv li) (h3 : PA w kv lk) (h4 : PA w cv ls) (h5 : PA w pv ps) (hTD : TD w) :
    Calls Tryd.prog 3 #[.int .i64 size, .agg #[.int .i64 e, .int .i64 t, tv, .int .i64 c, lv, kv, .int .i64 idx, cv, pv]] w fun x w' => x = .returned (.bool true) ∧ Below w.heap.size w w' := by
  obtain ⟨tp, tc, rfl⟩ := h1.shape
  obtain ⟨lp, lc, rfl⟩ := h2.shape
  obtain ⟨kp, kc, rfl⟩ := h3.shape
  obtain ⟨pc, cc, rfl⟩ := h4.shape
  obtain ⟨pp, cp, rfl⟩ := h5.shape
  have bA := (Below.refl w.heap.size w).alloc (Nat.le_refl _) (.cells #[.int .i64 e, .int .i64 t, .slice tp tr.length tc, .int .i64 c, .slice lp li.length lc, .slice kp lk.length kc, .int .i64 idx, .slice pc ls.length cc, .slice pp ps.length cp] 29)
  have gA := heap_alloc_new w (.cells #[.int .i64 e, .int .i64 t, .slice tp tr.length tc, .int .i64 c, .slice lp li.length lc, .slice kp lk.length kc, .int .i64 idx, .slice pc ls.length cc, .slice pp ps.length cp] 29)
  obtain ⟨V, hV⟩ : ∃ V, w.alloc (.cells #[.int .i64 e, .int .i64 t, .slice tp tr.length tc, .int .i64 c, .slice lp li.length lc, .slice kp lk.length kc, .int .i64 idx, .slice pc ls.length cc, .slice pp ps.length cp] 29) = V := ⟨_, rfl⟩
  rw [hV] at bA gA
  have k1 := h1.later bA
  have k2 := h2.later bA
  have k3 := h3.later bA
  have k4 := h4.later bA
  have k5 := h5.later bA
  have kT := hTD.later bA
  have hbox : ∀ W, Below V.heap.size V W → (W.cell? ⟨w.heap.size, 0, none⟩ = some (.int .i64 e) ∧ W.cell? ⟨w.heap.size, 1, none⟩ = some (.int .i64 t) ∧ W.cell? ⟨w.heap.size, 2, none⟩ = some (.slice tp tr.length tc) ∧ W.cell? ⟨w.heap.size, 3, none⟩ = some (.int .i64 c) ∧ W.cell? ⟨w.heap.size, 4, none⟩ = some (.slice lp li.length lc) ∧ W.cell? ⟨w.heap.size, 5, none⟩ = some (.slice kp lk.length kc) ∧ W.cell? ⟨w.heap.size, 6, none⟩ = some (.int .i64 idx) ∧ W.cell? ⟨w.heap.size, 7, none⟩ = some (.slice pc ls.length cc) ∧ W.cell? ⟨w.heap.size, 8, none⟩ = some (.slice pp ps.length cp)) := by
    intro W hb
    have g := (hb.block _ (Array.getElem?_eq_some_iff.1 gA).1).trans gA
    refine ⟨?_, ?_, ?_, ?_, ?_, ?_, ?_, ?_, ?_⟩ <;> (rw [cell_of_row _ _ _ _ _ _ g]; rfl)
  obtain ⟨q0, q1, q2, q3, q4, q5, q6, q7, q8⟩ := hbox V (Below.refl _ _)
  clear h1 h2 h3 h4 h5 hTD
  cases hbad : (canB size ⟨e, t, c, tr, li, lk⟩ && shpB size idx ls ps) with
  | false =>
    have hb' : canB size ⟨e, t, c, tr, li, lk⟩ = false ∨ shpB size idx ls ps = false := by
      cases hc : canB size ⟨e, t, c, tr, li, lk⟩ with
      | false => exact .inl rfl
      | true => rw [hc, Bool.true_and] at hbad; exact .inr hbad
    have hS := seal_no size e t c idx _ _ _ _ _ tr li lk ls ps V k1 k2 k3 k4 k5 kT hb'
    have hR := fun W (hb : Below V.heap.size V W) => rseal_no size e t c idx _ _ _ _ _ tr li lk ls ps W (k1.later hb) (k2.later hb) (k3.later hb) (k4.later hb) (k5.later hb) hb'
    clear hbad hb' k1 k2 k3 k4 k5
    go_enter Tryd.func3, Tryd.ntmps3
    go_wp2_with (first
      | (go_at_call 4; refine hS.mono ?_; rintro x w1 ⟨rfl, c1⟩; obtain ⟨z0, z1, z2, z3, z4, z5, z6, z7, z8⟩ := hbox w1 c1)
      | (go_at_call 5; refine (hR _ c1).mono ?_; rintro x w2 ⟨rfl, c2⟩)
      | (go_at_call 6; refine (rcAwake_any _ (kT.later (c1.trans (c2.mono c1.size)))).mono ?_; rintro x w3 ⟨rfl, c3⟩))
    go_ret
    have d2 := c1.trans (c2.mono c1.size)
    have d3 := d2.trans (c3.mono d2.size)
    exact ⟨rfl, bA.trans (d3.mono bA.size)⟩
  | true =>
    simp only [Bool.and_eq_true] at hbad
    obtain ⟨hcan, hsh⟩ := hbad
    have hsz := canB_size hcan
    obtain ⟨N, hNN⟩ : ∃ N : Nat, size = (N : Int) := ⟨size.toNat, by omega⟩
    subst hNN
    have hS := seal_yes (N : Int) e t c idx _ _ _ _ _ tr li lk ls ps V k1 k2 k3 k4 k5 kT hcan hsh
    obtain ⟨n, EL, SG, R, hi, hn, hEL, hSG, hRR, hWr, hls, hps, hl1, hl2, hN1, hN2, hBl, hEl⟩ := sealed_plain hcan hsh
    rw [← hEL, hWr] at hS
    subst hi
    obtain ⟨dk, dr⟩ := dec_enc (N : Int) ⟨e, t, c, tr, li, lk⟩ hcan
    rw [← hEL] at dk dr
    obtain ⟨hp1, hp2, hp3⟩ := pow_most ps.length hps
    have hpos : ∀ l ∈ lk, 0 < l.length := by
      obtain ⟨_, _, _, _, _, _, _, _, _, _, _, hz⟩ := (canB_iff _ _).1 hcan
      intro l hl
      have := sized_nat hz l hl
      omega
    have hrdB := rdB_put EL SG ((bytesL EL ++ SG).length : Int) (by omega) (by rw [List.length_append]; unfold bytesL; simp; omega)
    have hdr : SG = (bytesL EL ++ SG).drop ((bytesL EL ++ SG).length - SG.length) := by rw [List.length_append, Nat.add_sub_cancel, List.drop_left]
    have hSl : SG.length ≤ (bytesL EL ++ SG).length := by rw [List.length_append]; omega
    have hRl : R.length = (4 * N + 5 + ps.length) * N := by rw [hRR, List.length_append, flat_all N ls hl1, flat_all N ps hl2, hls, Nat.add_mul (4 * N + 5)]
    have hR1 : ps.flatten = R.drop ((4 * N + 5) * N) := by rw [hRR, ← hls, ← flat_all N ls hl1, List.drop_left]
    have hR2 : ([] : List UInt8) = ps.flatten.drop (ps.length * N) := by rw [← flat_all N ps hl2, List.drop_length]
    have hRS : R.length ≤ SG.length ∧ R = SG.drop (SG.length - R.length) := by rw [hSG]; exact ⟨by simp, by rw [List.length_append, Nat.add_sub_cancel, List.drop_left]⟩
    have rb1 : (List.range (4 * N + 5)).map (rowB N R) = ls := by rw [hRR, ← hls]; exact rows_back N ls ps.flatten hl1
    have rb2 : (List.range ps.length).map (rowB N ps.flatten) = ps := by have := rows_back N ps [] hl2; rwa [List.append_nil] at this
    obtain ⟨B, hBq⟩ : ∃ B, bytesL EL ++ SG = B := ⟨_, rfl⟩
    rw [hBq] at hS hrdB hdr hSl hBl
    obtain ⟨PW, hPW⟩ : ∃ PW : Int, IntKind.i64.wrap ((2 : Int) ^ ps.length) = PW := ⟨_, rfl⟩
    have hPWe : PW = (2 : Int) ^ ps.length := by rw [← hPW]; exact wrap_in _ (by omega) (by omega)
    by_cases hov : (n : Int) < (2 : Int) ^ ps.length
    · have hU : uintF SG ((2 : Int) ^ ps.length - 1) = (0, n, R) := by rw [hSG]; exact uintF_put n R _ (by omega) (by omega)
      have hO := fun v W (hv : HB W v B) (ht : TD W) => open_yes N ps.length v B EL SG ⟨e, t, c, tr, li, lk⟩ W hv ht hN1 hN2 hps hBl hrdB hSl (by omega) hdr dk dr ((2 : Int) ^ ps.length - 1) 0 n R ps.flatten hp1 hU hR1 (fun _ => hRS) rfl (by omega) hR2 hpos
      rw [rb1, rb2] at hO
      have o1 : (n : Int) < PW := by omega
      have o2 : decide (PW ≤ (n : Int)) = false := by simp; omega
      clear hPWe hov hp2 hp3 hcan hsh hEL hSG hRR hWr hls hl1 hl2 hBl hEl dk dr hp1 hpos hrdB hdr hSl hRl hR1 hR2 hRS rb1 rb2 hBq hU hN1 hN2 hsz
      go_enter Tryd.func3, Tryd.ntmps3
      go_wp2_with (first
        | (go_at_call 4; refine hS.mono ?_; rintro x w1 ⟨v1, rfl, kv1, c1⟩; obtain ⟨p1, cp1, hv1⟩ := kv1.shape; subst hv1; obtain ⟨z0, z1, z2, z3, z4, z5, z6, z7, z8⟩ := hbox w1 c1; have hO1 := hO _ w1 kv1 (kT.later c1))
        | (go_at_call 7; refine hO1.mono ?_; rintro x w2 ⟨xtv, xlv, xkv, xcv, xpv, rfl, m1, m2, m3, m4, m5, c2⟩; obtain ⟨xt, xc, hx1⟩ := m1.shape; obtain ⟨xl, xd, hx2⟩ := m2.shape; obtain ⟨xk, xe, hx3⟩ := m3.shape; obtain ⟨x4, y4, hx4⟩ := m4.shape; obtain ⟨x5, y5, hx5⟩ := m5.shape; subst hx1; subst hx2; subst hx3; subst hx4; subst hx5))
      have d2 := c1.trans (c2.mono c1.size)
      have b3 := (Below.refl w2.heap.size w2).alloc (Nat.le_refl _) (.cells #[.int .i64 e, .int .i64 t, .slice xt tr.length xc, .int .i64 c, .slice xl li.length xd, .slice xk lk.length xe, .int .i64 (n : Int), .slice x4 ls.length y4, .slice x5 ps.length y5] 29)
      have g3 := heap_alloc_new w2 (.cells #[.int .i64 e, .int .i64 t, .slice xt tr.length xc, .int .i64 c, .slice xl li.length xd, .slice xk lk.length xe, .int .i64 (n : Int), .slice x4 ls.length y4, .slice x5 ps.length y5] 29)
      have d3 := d2.trans (b3.mono d2.size)
      generalize w2.alloc (.cells #[.int .i64 e, .int .i64 t, .slice xt tr.length xc, .int .i64 c, .slice xl li.length xd, .slice xk lk.length xe, .int .i64 (n : Int), .slice x4 ls.length y4, .slice x5 ps.length y5] 29) = W3 at *
      have e1 := m1.later b3
      have e2 := m2.later b3
      have e3 := m3.later b3
      have e4 := m4.later b3
      have e5 := m5.later b3
      have bD : Below W3.heap.size W3 W3.drew := (Below.refl _ _).drew
      have d4 := d3.trans (bD.mono d3.size)
      have hS0 := hbox _ d3
      have hS1 := hbox _ d4
      go_region_held3 (fun w' => w'.cell? ⟨w.heap.size, 0, none⟩ = some (.int .i64 e) ∧ w'.cell? ⟨w.heap.size, 1, none⟩ = some (.int .i64 t) ∧ w'.cell? ⟨w.heap.size, 2, none⟩ = some (.slice tp tr.length tc) ∧ w'.cell? ⟨w.heap.size, 3, none⟩ = some (.int .i64 c) ∧ w'.cell? ⟨w.heap.size, 4, none⟩ = some (.slice lp li.length lc) ∧ w'.cell? ⟨w.heap.size, 5, none⟩ = some (.slice kp lk.length kc) ∧ w'.cell? ⟨w.heap.size, 6, none⟩ = some (.int .i64 (n : Int)) ∧ w'.cell? ⟨w.heap.size, 7, none⟩ = some (.slice pc ls.length cc) ∧ w'.cell? ⟨w.heap.size, 8, none⟩ = some (.slice pp ps.length cp)) (first | with_reducible exact hS0 | with_reducible exact hS1) (fail)
      have g4 := (bD.block _ (Array.getElem?_eq_some_iff.1 g3).1).trans g3
      have u0 : W3.drew.cell? ⟨w2.heap.size, 0, none⟩ = some (.int .i64 e) := by rw [cell_of_row _ _ 0 _ _ _ g4]; rfl
      have u1 : W3.drew.cell? ⟨w2.heap.size, 1, none⟩ = some (.int .i64 t) := by rw [cell_of_row _ _ 1 _ _ _ g4]; rfl
      have u2 : W3.drew.cell? ⟨w2.heap.size, 2, none⟩ = some (.slice xt tr.length xc) := by rw [cell_of_row _ _ 2 _ _ _ g4]; rfl
      have u3 : W3.drew.cell? ⟨w2.heap.size, 3, none⟩ = some (.int .i64 c) := by rw [cell_of_row _ _ 3 _ _ _ g4]; rfl
      have u4 : W3.drew.cell? ⟨w2.heap.size, 4, none⟩ = some (.slice xl li.length xd) := by rw [cell_of_row _ _ 4 _ _ _ g4]; rfl
      have u5 : W3.drew.cell? ⟨w2.heap.size, 5, none⟩ = some (.slice xk lk.length xe) := by rw [cell_of_row _ _ 5 _ _ _ g4]; rfl
      have u6 : W3.drew.cell? ⟨w2.heap.size, 6, none⟩ = some (.int .i64 (n : Int)) := by rw [cell_of_row _ _ 6 _ _ _ g4]; rfl
      have u7 : W3.drew.cell? ⟨w2.heap.size, 7, none⟩ = some (.slice x4 ls.length y4) := by rw [cell_of_row _ _ 7 _ _ _ g4]; rfl
      have u8 : W3.drew.cell? ⟨w2.heap.size, 8, none⟩ = some (.slice x5 ps.length y5) := by rw [cell_of_row _ _ 8 _ _ _ g4]; rfl
      obtain ⟨z0, z1, z2, z3, z4, z5, z6, z7, z8⟩ := hS1
      have hQ1 := same13_true e t c _ _ _ _ _ _ tr li lk W3.drew (e1.later bD) (k1.later d4) (e2.later bD) (k2.later d4) (e3.later bD) (k3.later d4)
      have hQ2 := fun W (hb : Below W3.drew.heap.size W3.drew W) => rsame_true (n : Int) _ _ _ _ ls ps W ((e4.later bD).later hb) ((k4.later d4).later hb) ((e5.later bD).later hb) ((k5.later d4).later hb)
      have hbx : ∀ W, Below W3.drew.heap.size W3.drew W → (W.heap[w2.heap.size]? = W3.drew.heap[w2.heap.size]?) := fun W hb => hb.block _ (Array.getElem?_eq_some_iff.1 g4).1
      clear hS hO hO1 hS0
      go_wp2_with (first
        | (go_at_call 8; refine hQ1.mono ?_; rintro x w5 ⟨rfl, c5⟩; have d5 := d4.trans (c5.mono d4.size); obtain ⟨a0, a1, a2, a3, a4, a5, a6, a7, a8⟩ := hbox w5 d5; have g5 := (hbx w5 c5).trans g4; have v6 : w5.cell? ⟨w2.heap.size, 6, none⟩ = some (.int .i64 (n : Int)) := (by rw [cell_of_row _ _ 6 _ _ _ g5]; rfl); have v7 : w5.cell? ⟨w2.heap.size, 7, none⟩ = some (.slice x4 ls.length y4) := (by rw [cell_of_row _ _ 7 _ _ _ g5]; rfl); have v8 : w5.cell? ⟨w2.heap.size, 8, none⟩ = some (.slice x5 ps.length y5) := (by rw [cell_of_row _ _ 8 _ _ _ g5]; rfl))
        | (go_at_call 9; refine (hQ2 _ c5).mono ?_; rintro x w6 ⟨rfl, c6⟩; have d6 := d5.trans (c6.mono d5.size))
        | (go_at_call 6; refine (rcAwake_any _ (kT.later d6)).mono ?_; rintro x w7 ⟨rfl, c7⟩; have d7 := d6.trans (c7.mono d6.size)))
      go_ret
      exact ⟨rfl, bA.trans (d7.mono bA.size)⟩
    · have hU : uintF SG ((2 : Int) ^ ps.length - 1) = (4, 0, []) := by rw [hSG]; exact uintF_over n R _ (by omega) (by omega)
      have hO := fun v W (hv : HB W v B) (ht : TD W) => open_no N ps.length v B EL SG ⟨e, t, c, tr, li, lk⟩ W hv ht hN1 hN2 hps hBl hrdB hSl (by omega) hdr dk dr ((2 : Int) ^ ps.length - 1) 4 0 [] (([] : List UInt8).drop ((4 * N + 5) * N)) hp1 hU rfl (fun h => by cases h) (by decide)
      have o1 : PW ≤ (n : Int) := by omega
      have o2 : decide (PW ≤ (n : Int)) = true := by simp; omega
      clear hPWe hov hp2 hp3 hcan hsh hEL hSG hRR hWr hls hl1 hl2 hBl hEl dk dr hp1 hpos hrdB hdr hSl hRl hR1 hR2 hRS rb1 rb2 hBq hU hN1 hN2 hsz
      go_enter Tryd.func3, Tryd.ntmps3
      go_wp2_with (first
        | (go_at_call 4; refine hS.mono ?_; rintro x w1 ⟨v1, rfl, kv1, c1⟩; obtain ⟨p1, cp1, hv1⟩ := kv1.shape; subst hv1; obtain ⟨z0, z1, z2, z3, z4, z5, z6, z7, z8⟩ := hbox w1 c1; have hO1 := hO _ w1 kv1 (kT.later c1))
        | (go_at_call 7; refine hO1.mono ?_; rintro x w2 ⟨rfl, c2⟩))
      have d2 := c1.trans (c2.mono c1.size)
      have b3 := (Below.refl w2.heap.size w2).alloc (Nat.le_refl _) (.cells #[.int .i64 0, .int .i64 0, .slice none 0 0, .int .i64 0, .slice none 0 0, .slice none 0 0, .int .i64 0, .slice none 0 0, .slice none 0 0] 29)
      have d3 := d2.trans (b3.mono d2.size)
      generalize w2.alloc (.cells #[.int .i64 0, .int .i64 0, .slice none 0 0, .int .i64 0, .slice none 0 0, .slice none 0 0, .int .i64 0, .slice none 0 0, .slice none 0 0] 29) = W3 at *
      have bD : Below W3.heap.size W3 W3.drew := (Below.refl _ _).drew
      have d4 := d3.trans (bD.mono d3.size)
      have hS0 := hbox _ d3
      have hS1 := hbox _ d4
      go_region_held3 (fun w' => w'.cell? ⟨w.heap.size, 0, none⟩ = some (.int .i64 e) ∧ w'.cell? ⟨w.heap.size, 1, none⟩ = some (.int .i64 t) ∧ w'.cell? ⟨w.heap.size, 2, none⟩ = some (.slice tp tr.length tc) ∧ w'.cell? ⟨w.heap.size, 3, none⟩ = some (.int .i64 c) ∧ w'.cell? ⟨w.heap.size, 4, none⟩ = some (.slice lp li.length lc) ∧ w'.cell? ⟨w.heap.size, 5, none⟩ = some (.slice kp lk.length kc) ∧ w'.cell? ⟨w.heap.size, 6, none⟩ = some (.int .i64 (n : Int)) ∧ w'.cell? ⟨w.heap.size, 7, none⟩ = some (.slice pc ls.length cc) ∧ w'.cell? ⟨w.heap.size, 8, none⟩ = some (.slice pp ps.length cp)) (first | with_reducible exact hS0 | with_reducible exact hS1) (fail)
      clear hS hO hO1 hS0 hS1
      go_wp2_with (first
        | (go_at_call 6; refine (rcAwake_any _ (kT.later d4)).mono ?_; rintro x w7 ⟨rfl, c7⟩; have d7 := d4.trans (c7.mono d4.size)))
      go_ret
      exact ⟨rfl, bA.trans (d7.mono bA.size)⟩

end Go.Proofs.YtkgoiemnhhdlbaaDoor
