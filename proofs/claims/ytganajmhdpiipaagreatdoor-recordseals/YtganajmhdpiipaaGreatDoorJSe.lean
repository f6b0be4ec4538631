/- What this text proves: the walks of record.Seal and of the document's, over this program: a signed record's bytes, or the error. -/
import Derived.Test.YtganajmhdpiipaaGreatDoorJEn
import Derived.Test.YtganajmhdpiipaaGreatDoorJSb
import Derived.Test.YtganajmhdpiipaaGreatDoorJDc
namespace Go.Proofs.YtganajmhdpiipaaGreatDoor
open Go.RowKit

theorem canB_size {size : Int} {r : Rc} (h : canB size r = true) : 0 ≤ size ∧ size ≤ 32 := by
  obtain ⟨q1, q2, _⟩ := (canB_iff size r).1 h
  omega

theorem encL_len {size : Int} {r : Rc} (h : canB size r = true) : (encL r).length ≤ 100000 := by
  obtain ⟨q1, q2, q3, q4, q5, q6, q7, q8, q9, q10, q11, q12⟩ := (canB_iff size r).1 h
  have a1 := numL_le r.e
  have a2 := numL_le r.t
  have a3 := numL_le r.c
  have a4 := bytesL_len r.tr (by omega)
  have a5 := bytesL_len r.li (by omega)
  have a6 := putL_len r.lk (sized_le q12 q2)
  have a7 := linksL_len r.e.toNat (by omega)
  unfold encL
  simp only [List.length_append]
  omega

theorem flat_small {size idx : Int} {ls ps : List (List UInt8)} (h : shpR size idx ls ps = true) (h0 : 0 ≤ size) (h1 : size ≤ 32) : ls.flatten.length ≤ 100000 ∧ ps.flatten.length ≤ 100000 := by
  unfold shpR at h
  simp only [Bool.and_eq_true, decide_eq_true_eq] at h
  obtain ⟨_, a, b, c, d⟩ := h
  have gen : ∀ L : List (List UInt8), sizedB size L = true → L.flatten.length ≤ L.length * 32 := by
    intro L hL
    have hx := sized_le hL h1
    clear hL
    induction L with
    | nil => simp
    | cons x L ih =>
      have := hx x (List.mem_cons_self ..)
      have := ih (fun y hy => hx y (List.mem_cons_of_mem _ hy))
      simp only [List.flatten_cons, List.length_append, List.length_cons]
      omega
  have g1 := gen ls c
  have g2 := gen ps d
  omega

theorem bytesL_big' (l : List UInt8) (h : l.length ≤ 4611686018427387904) : (bytesL l).length ≤ l.length + 9 := by
  unfold bytesL
  rw [List.length_append, numL_length]
  have := cnt_le8 l.length (by omega)
  omega

set_option maxRecDepth 100000 in
set_option maxHeartbeats 2000000 in
theorem seal_no (size e t c idx : Int) (tv lv kv cv pv : Value) (tr li : List UInt8) (lk ls ps : List (List UInt8)) (w : World) (h1 : HB w tv tr) (h2 : HB w lv li) (h3 : PA w kv lk) (h4 : PA w cv ls) (h5 : PA w pv ps) (hTD : TD w) (hbad : canB size ⟨e, t, c, tr, li, lk⟩ = false ∨ shpR size idx ls ps = false) :
    Calls Tryz.prog 4 #[.int .i64 size, .agg #[.int .i64 e, .int .i64 t, tv, .int .i64 c, lv, kv, .int .i64 idx, cv, pv]] w fun x w' => x = .returned (.tuple #[.slice none 0 0, .int .i64 1]) ∧ Below w.heap.size w w' := by
  obtain ⟨tp, tc, rfl⟩ := h1.shape
  obtain ⟨lp, lc, rfl⟩ := h2.shape
  obtain ⟨kp, kc, rfl⟩ := h3.shape
  obtain ⟨pc, cc, rfl⟩ := h4.shape
  obtain ⟨pp, cp, rfl⟩ := h5.shape
  have bA := (Below.refl w.heap.size w).alloc (Nat.le_refl _) (.cells #[.int .i64 e, .int .i64 t, .slice tp tr.length tc, .int .i64 c, .slice lp li.length lc, .slice kp lk.length kc, .int .i64 idx, .slice pc ls.length cc, .slice pp ps.length cp] 29)
  have gA := heap_alloc_new w (.cells #[.int .i64 e, .int .i64 t, .slice tp tr.length tc, .int .i64 c, .slice lp li.length lc, .slice kp lk.length kc, .int .i64 idx, .slice pc ls.length cc, .slice pp ps.length cp] 29)
  obtain ⟨V, hV⟩ : ∃ V, w.alloc (.cells #[.int .i64 e, .int .i64 t, .slice tp tr.length tc, .int .i64 c, .slice lp li.length lc, .slice kp lk.length kc, .int .i64 idx, .slice pc ls.length cc, .slice pp ps.length cp] 29) = V := ⟨_, rfl⟩
  rw [hV] at bA gA
  have hS : ∀ W, Below V.heap.size V W → (W.cell? ⟨w.heap.size, 6, none⟩ = some (.int .i64 idx) ∧ W.cell? ⟨w.heap.size, 7, none⟩ = some (.slice pc ls.length cc) ∧ W.cell? ⟨w.heap.size, 8, none⟩ = some (.slice pp ps.length cp)) := by
    intro W hb
    have g := (hb.block _ (Array.getElem?_eq_some_iff.1 gA).1).trans gA
    refine ⟨?_, ?_, ?_⟩ <;> (rw [cell_of_row _ _ _ _ _ _ g]; rfl)
  have q0 : V.cell? ⟨w.heap.size, 0, none⟩ = some (.int .i64 e) := by rw [cell_of_row _ _ 0 _ _ _ gA]; rfl
  have q1 : V.cell? ⟨w.heap.size, 1, none⟩ = some (.int .i64 t) := by rw [cell_of_row _ _ 1 _ _ _ gA]; rfl
  have q2 : V.cell? ⟨w.heap.size, 2, none⟩ = some (.slice tp tr.length tc) := by rw [cell_of_row _ _ 2 _ _ _ gA]; rfl
  have q3 : V.cell? ⟨w.heap.size, 3, none⟩ = some (.int .i64 c) := by rw [cell_of_row _ _ 3 _ _ _ gA]; rfl
  have q4 : V.cell? ⟨w.heap.size, 4, none⟩ = some (.slice lp li.length lc) := by rw [cell_of_row _ _ 4 _ _ _ gA]; rfl
  have q5 : V.cell? ⟨w.heap.size, 5, none⟩ = some (.slice kp lk.length kc) := by rw [cell_of_row _ _ 5 _ _ _ gA]; rfl
  cases hC : canB size ⟨e, t, c, tr, li, lk⟩ with
  | false =>
    have hE := encode_no size e t c _ _ _ tr li lk V (h1.later bA) (h2.later bA) (h3.later bA) (hTD.later bA) hC
    clear hbad hS
    go_enter Tryz.func4, Tryz.ntmps4
    go_wp2_with (first | (go_at_call 14; refine hE.mono ?_; rintro x w1 ⟨rfl, c1⟩))
    go_ret2
    exact ⟨rfl, bA.trans (c1.mono bA.size)⟩
  | true =>
    have hsh : shpR size idx ls ps = false := by rcases hbad with q | q; rw [hC] at q; cases q; exact q
    have hs0 := (canB_size hC).1
    have hs1 := (canB_size hC).2
    have hE := encode_yes size e t c _ _ _ tr li lk V (h1.later bA) (h2.later bA) (h3.later bA) (hTD.later bA) hC
    have hH := fun W (hb : Below V.heap.size V W) => shaped_any13 size idx (.slice pc ls.length cc) (.slice pp ps.length cp) ls ps W (h4.later (bA.trans (hb.mono bA.size))) (h5.later (bA.trans (hb.mono bA.size))) hs0 hs1
    rw [hsh] at hH
    clear hbad
    go_enter Tryz.func4, Tryz.ntmps4
    go_wp2_with (first
      | (go_at_call 14; refine hE.mono ?_; rintro x w1 ⟨v1, rfl, k1, c1⟩; obtain ⟨z6, z7, z8⟩ := hS w1 c1)
      | (go_at_call 15; refine (hH _ c1).mono ?_; rintro x w2 ⟨rfl, c2⟩))
    go_ret2
    exact ⟨rfl, bA.trans ((c1.trans (c2.mono c1.size)).mono bA.size)⟩

set_option maxRecDepth 100000 in
set_option maxHeartbeats 2000000 in
theorem rseal_no (size e t c idx : Int) (tv lv kv cv pv : Value) (tr li : List UInt8) (lk ls ps : List (List UInt8)) (w : World) (h1 : HB w tv tr) (h2 : HB w lv li) (h3 : PA w kv lk) (h4 : PA w cv ls) (h5 : PA w pv ps) (hbad : canB size ⟨e, t, c, tr, li, lk⟩ = false ∨ shpR size idx ls ps = false) :
    Calls Tryz.prog 5 #[.int .i64 size, .agg #[.int .i64 e, .int .i64 t, tv, .int .i64 c, lv, kv, .int .i64 idx, cv, pv]] w fun x w' => x = .returned (.tuple #[.slice none 0 0, .int .i64 1]) ∧ Below w.heap.size w w' := by
  obtain ⟨tp, tc, rfl⟩ := h1.shape
  obtain ⟨lp, lc, rfl⟩ := h2.shape
  obtain ⟨kp, kc, rfl⟩ := h3.shape
  obtain ⟨pc, cc, rfl⟩ := h4.shape
  obtain ⟨pp, cp, rfl⟩ := h5.shape
  have bA := (Below.refl w.heap.size w).alloc (Nat.le_refl _) (.cells #[.int .i64 e, .int .i64 t, .slice tp tr.length tc, .int .i64 c, .slice lp li.length lc, .slice kp lk.length kc, .int .i64 idx, .slice pc ls.length cc, .slice pp ps.length cp] 29)
  have gA := heap_alloc_new w (.cells #[.int .i64 e, .int .i64 t, .slice tp tr.length tc, .int .i64 c, .slice lp li.length lc, .slice kp lk.length kc, .int .i64 idx, .slice pc ls.length cc, .slice pp ps.length cp] 29)
  obtain ⟨V, hV⟩ : ∃ V, w.alloc (.cells #[.int .i64 e, .int .i64 t, .slice tp tr.length tc, .int .i64 c, .slice lp li.length lc, .slice kp lk.length kc, .int .i64 idx, .slice pc ls.length cc, .slice pp ps.length cp] 29) = V := ⟨_, rfl⟩
  rw [hV] at bA gA
  have hS : ∀ W, Below V.heap.size V W → (W.cell? ⟨w.heap.size, 6, none⟩ = some (.int .i64 idx) ∧ W.cell? ⟨w.heap.size, 7, none⟩ = some (.slice pc ls.length cc) ∧ W.cell? ⟨w.heap.size, 8, none⟩ = some (.slice pp ps.length cp)) := by
    intro W hb
    have g := (hb.block _ (Array.getElem?_eq_some_iff.1 gA).1).trans gA
    refine ⟨?_, ?_, ?_⟩ <;> (rw [cell_of_row _ _ _ _ _ _ g]; rfl)
  have q0 : V.cell? ⟨w.heap.size, 0, none⟩ = some (.int .i64 e) := by rw [cell_of_row _ _ 0 _ _ _ gA]; rfl
  have q1 : V.cell? ⟨w.heap.size, 1, none⟩ = some (.int .i64 t) := by rw [cell_of_row _ _ 1 _ _ _ gA]; rfl
  have q2 : V.cell? ⟨w.heap.size, 2, none⟩ = some (.slice tp tr.length tc) := by rw [cell_of_row _ _ 2 _ _ _ gA]; rfl
  have q3 : V.cell? ⟨w.heap.size, 3, none⟩ = some (.int .i64 c) := by rw [cell_of_row _ _ 3 _ _ _ gA]; rfl
  have q4 : V.cell? ⟨w.heap.size, 4, none⟩ = some (.slice lp li.length lc) := by rw [cell_of_row _ _ 4 _ _ _ gA]; rfl
  have q5 : V.cell? ⟨w.heap.size, 5, none⟩ = some (.slice kp lk.length kc) := by rw [cell_of_row _ _ 5 _ _ _ gA]; rfl
  cases hC : canB size ⟨e, t, c, tr, li, lk⟩ with
  | false =>
    have hE := rencode_no size e t c _ _ _ tr li lk V (h1.later bA) (h2.later bA) (h3.later bA) hC
    clear hbad hS
    go_enter Tryz.func5, Tryz.ntmps5
    go_wp2_with (first | (go_at_call 18; refine hE.mono ?_; rintro x w1 ⟨rfl, c1⟩))
    go_ret2
    exact ⟨rfl, bA.trans (c1.mono bA.size)⟩
  | true =>
    have hsh : shpR size idx ls ps = false := by rcases hbad with q | q; rw [hC] at q; cases q; exact q
    have hs0 := (canB_size hC).1
    have hs1 := (canB_size hC).2
    have hE := rencode_yes size e t c _ _ _ tr li lk V (h1.later bA) (h2.later bA) (h3.later bA) hC
    have hH := fun W (hb : Below V.heap.size V W) => whole_any size idx (.slice pc ls.length cc) (.slice pp ps.length cp) ls ps W (h4.later (bA.trans (hb.mono bA.size))) (h5.later (bA.trans (hb.mono bA.size))) hs0 hs1
    rw [hsh] at hH
    clear hbad
    go_enter Tryz.func5, Tryz.ntmps5
    go_wp2_with (first
      | (go_at_call 18; refine hE.mono ?_; rintro x w1 ⟨v1, rfl, k1, c1⟩; obtain ⟨z6, z7, z8⟩ := hS w1 c1)
      | (go_at_call 19; refine (hH _ c1).mono ?_; rintro x w2 ⟨rfl, c2⟩))
    go_ret2
    exact ⟨rfl, bA.trans ((c1.trans (c2.mono c1.size)).mono bA.size)⟩

set_option maxRecDepth 100000 in
set_option maxHeartbeats 2000000 in
theorem seal_yes (size e t c idx : Int) (tv lv kv cv pv : Value) (tr li : List UInt8) (lk ls ps : List (List UInt8)) (w : World) (h1 : HB w tv tr) (h2 : HB w lv li) (h3 : PA w kv lk) (h4 : PA w cv ls) (h5 : PA w pv ps) (hTD : TD w) (hcan : canB size ⟨e, t, c, tr, li, lk⟩ = true) (hsh : shpR size idx ls ps = true) :
    Calls Tryz.prog 4 #[.int .i64 size, .agg #[.int .i64 e, .int .i64 t, tv, .int .i64 c, lv, kv, .int .i64 idx, cv, pv]] w fun x w' => ∃ v, x = .returned (.tuple #[v, .int .i64 0]) ∧ HB w' v (wrF (bytesL (encL ⟨e, t, c, tr, li, lk⟩)) idx ls ps) ∧ Below w.heap.size w w' := by
  obtain ⟨tp, tc, rfl⟩ := h1.shape
  obtain ⟨lp, lc, rfl⟩ := h2.shape
  obtain ⟨kp, kc, rfl⟩ := h3.shape
  obtain ⟨pc, cc, rfl⟩ := h4.shape
  obtain ⟨pp, cp, rfl⟩ := h5.shape
  have bA := (Below.refl w.heap.size w).alloc (Nat.le_refl _) (.cells #[.int .i64 e, .int .i64 t, .slice tp tr.length tc, .int .i64 c, .slice lp li.length lc, .slice kp lk.length kc, .int .i64 idx, .slice pc ls.length cc, .slice pp ps.length cp] 29)
  have gA := heap_alloc_new w (.cells #[.int .i64 e, .int .i64 t, .slice tp tr.length tc, .int .i64 c, .slice lp li.length lc, .slice kp lk.length kc, .int .i64 idx, .slice pc ls.length cc, .slice pp ps.length cp] 29)
  obtain ⟨V, hV⟩ : ∃ V, w.alloc (.cells #[.int .i64 e, .int .i64 t, .slice tp tr.length tc, .int .i64 c, .slice lp li.length lc, .slice kp lk.length kc, .int .i64 idx, .slice pc ls.length cc, .slice pp ps.length cp] 29) = V := ⟨_, rfl⟩
  rw [hV] at bA gA
  have hS : ∀ W, Below V.heap.size V W → (W.cell? ⟨w.heap.size, 6, none⟩ = some (.int .i64 idx) ∧ W.cell? ⟨w.heap.size, 7, none⟩ = some (.slice pc ls.length cc) ∧ W.cell? ⟨w.heap.size, 8, none⟩ = some (.slice pp ps.length cp)) := by
    intro W hb
    have g := (hb.block _ (Array.getElem?_eq_some_iff.1 gA).1).trans gA
    refine ⟨?_, ?_, ?_⟩ <;> (rw [cell_of_row _ _ _ _ _ _ g]; rfl)
  have q0 : V.cell? ⟨w.heap.size, 0, none⟩ = some (.int .i64 e) := by rw [cell_of_row _ _ 0 _ _ _ gA]; rfl
  have q1 : V.cell? ⟨w.heap.size, 1, none⟩ = some (.int .i64 t) := by rw [cell_of_row _ _ 1 _ _ _ gA]; rfl
  have q2 : V.cell? ⟨w.heap.size, 2, none⟩ = some (.slice tp tr.length tc) := by rw [cell_of_row _ _ 2 _ _ _ gA]; rfl
  have q3 : V.cell? ⟨w.heap.size, 3, none⟩ = some (.int .i64 c) := by rw [cell_of_row _ _ 3 _ _ _ gA]; rfl
  have q4 : V.cell? ⟨w.heap.size, 4, none⟩ = some (.slice lp li.length lc) := by rw [cell_of_row _ _ 4 _ _ _ gA]; rfl
  have q5 : V.cell? ⟨w.heap.size, 5, none⟩ = some (.slice kp lk.length kc) := by rw [cell_of_row _ _ 5 _ _ _ gA]; rfl
  have hs0 := (canB_size hcan).1
  have hs1 := (canB_size hcan).2
  have hEl := encL_len hcan
  have hF1 := flat_small hsh hs0 hs1
  have hE := encode_yes size e t c _ _ _ tr li lk V (h1.later bA) (h2.later bA) (h3.later bA) (hTD.later bA) hcan
  have hH := fun W (hb : Below V.heap.size V W) => shaped_any13 size idx (.slice pc ls.length cc) (.slice pp ps.length cp) ls ps W (h4.later (bA.trans (hb.mono bA.size))) (h5.later (bA.trans (hb.mono bA.size))) hs0 hs1
  rw [hsh] at hH
  obtain ⟨EL, hEL⟩ : ∃ EL, EL = encL ⟨e, t, c, tr, li, lk⟩ := ⟨_, rfl⟩
  rw [← hEL] at hE hEl ⊢
  have hBl := bytesL_big' EL (by omega)
  have hP4 := fun W (hb : Below V.heap.size V W) => h4.later (bA.trans (hb.mono bA.size))
  have hP5 := fun W (hb : Below V.heap.size V W) => h5.later (bA.trans (hb.mono bA.size))
  have hMW := fun v W (hv : HB W v (bytesL EL)) (hb : Below V.heap.size V W) => mwrite_any v (.slice pc ls.length cc) (.slice pp ps.length cp) (bytesL EL) idx ls ps W hv (hP4 W hb) (hP5 W hb) (by omega)
  obtain ⟨BE, hBE⟩ : ∃ BE, BE = bytesL EL := ⟨_, rfl⟩
  have hCB := fun v W (hv : HB W v EL) => cbytes_any (.slice none 0 0) v [] EL W (HB.nil W) hv (by simp; omega)
  rw [List.nil_append, ← hBE] at hCB
  rw [← hBE] at hMW ⊢
  clear hEL hEl hF1 hBl hBE hcan hsh hs0 hs1 h1 h2 h3 h4 h5 hP4 hP5
  obtain ⟨WF, hWF⟩ : ∃ WF, WF = wrF BE idx ls ps := ⟨_, rfl⟩
  rw [← hWF] at hMW ⊢
  clear hWF
  go_enter Tryz.func4, Tryz.ntmps4
  go_wp2_with (first
    | (go_at_call 14; refine hE.mono ?_; rintro x w1 ⟨v1, rfl, k1, c1⟩; obtain ⟨z6, z7, z8⟩ := hS w1 c1; obtain ⟨p1, cp1, hv1⟩ := k1.shape; subst hv1)
    | (go_at_call 15; refine (hH _ c1).mono ?_; rintro x w2 ⟨rfl, c2⟩))
  have d2 := c1.trans (c2.mono c1.size)
  have bD : Below w2.heap.size w2 w2.drew := (Below.refl _ _).drew
  have d3 := d2.trans (bD.mono d2.size)
  have hS2 := hS _ d2
  have hS3 := hS _ d3
  have k3 := (k1.later c2).later bD
  go_region_held3 (fun w' => w'.cell? ⟨w.heap.size, 6, none⟩ = some (.int .i64 idx) ∧ w'.cell? ⟨w.heap.size, 7, none⟩ = some (.slice pc ls.length cc) ∧ w'.cell? ⟨w.heap.size, 8, none⟩ = some (.slice pp ps.length cp)) (first | with_reducible exact hS2 | with_reducible exact hS3 | with_reducible exact hS4 | with_reducible exact hS5) (first
    | (go_at_call 17; refine (hCB _ _ k3).mono ?_; rintro x w4 ⟨p4, c4, rfl, o4, b4⟩; have d4 := d3.trans (b4.mono d3.size); have hS4 := hS _ d4; have k4 := HB.of_owns o4)
    | (go_at_call 16; refine (hMW _ _ k4 d4).mono ?_; rintro x w5 ⟨p5, c5, rfl, o5, b5⟩; have d5 := d4.trans (b5.mono d4.size); have hS5 := hS _ d5; have k5 := HB.of_owns o5))
  go_wp2
  go_ret2
  exact ⟨_, rfl, k5, bA.trans (d5.mono bA.size)⟩

end Go.Proofs.YtganajmhdpiipaaGreatDoor
