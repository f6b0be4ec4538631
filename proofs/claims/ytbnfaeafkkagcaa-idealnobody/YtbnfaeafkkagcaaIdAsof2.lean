/- What this text proves: the walk of ideal's asof over this program, where the epoch's batch has the identity first; of its wrong, at the kinds that are met. -/
import Derived.Test.YtbnfaeafkkagcaaIdAsof
import Derived.Test.YtbnfaeafkkagcaaIdPub
namespace Go.Proofs.Ytbnfaeafkkagcaa
open Go.RowKit

set_option maxRecDepth 100000 in
set_option maxHeartbeats 1600000 in
theorem asof_first (base g : Nat) (s h mi mk ch ar ca pg : Int) (ts : List Int) (us : List Value) (ck : Int) (pt : Option Addr) (ct : Nat) (pb : Option Addr) (cb : Nat) (w : World) (H : IM w base g s h mi mk ch ar ca pg ts us ck pt ct pb cb) (idv u v : Value) (bs : List (List UInt8 × List UInt8)) (idl : List UInt8) (E : Nat) (hE : 0 < E) (hu : us[E]? = some u) (hb : BA w u bs) (hi : HB w idv idl) (x : List UInt8 × List UInt8) (hx : bs[0]? = some x) (he : x.1 = idl) (hxl : x.2.length ≤ 140737488355328) (fr ti ep ix li : Int) (so : Bool) :
    Calls Try.prog 25 #[.pointer (some ⟨g, 0, none⟩), .agg #[.int .i64 3, idv, .int .i64 fr, .int .i64 (E : Int), .int .i64 ti, .bool so, .int .i64 ep, .int .i64 ix, .int .i64 li, v]] w fun e w' => ∃ p3 c3, e = .returned (.agg #[.int .i64 0, .int .i64 0, .bool true, .bool false, .slice p3 x.2.length c3, .int .i64 (E : Int), .slice none 0 0, .slice none 0 0, .bool false]) ∧ Below w.heap.size w w' := by
  obtain ⟨pi, ci, rfl⟩ := hi.shape
  have b0 := (Below.refl w.heap.size w).alloc (Nat.le_refl _) (.cells #[.int .i64 3, .slice pi idl.length ci, .int .i64 fr, .int .i64 (E : Int), .int .i64 ti, .bool so, .int .i64 ep, .int .i64 ix, .int .i64 li, v] 25)
  have gA := heap_alloc_new w (.cells #[.int .i64 3, .slice pi idl.length ci, .int .i64 fr, .int .i64 (E : Int), .int .i64 ti, .bool so, .int .i64 ep, .int .i64 ix, .int .i64 li, v] 25)
  obtain ⟨V0, hV0⟩ : ∃ V0, w.alloc (.cells #[.int .i64 3, .slice pi idl.length ci, .int .i64 fr, .int .i64 (E : Int), .int .i64 ti, .bool so, .int .i64 ep, .int .i64 ix, .int .i64 li, v] 25) = V0 := ⟨_, rfl⟩
  rw [hV0] at b0 gA
  have sV0 : V0.heap.size = w.heap.size + 1 := by rw [← hV0]; simp
  have b1 := (Below.refl V0.heap.size V0).alloc (Nat.le_refl _) (.cells #[.int .i64 0, .int .i64 0, .bool false, .bool false, .slice none 0 0, .int .i64 0, .slice none 0 0, .slice none 0 0, .bool false] 38)
  have gN := heap_alloc_new V0 (.cells #[.int .i64 0, .int .i64 0, .bool false, .bool false, .slice none 0 0, .int .i64 0, .slice none 0 0, .slice none 0 0, .bool false] 38)
  obtain ⟨V, hV⟩ : ∃ V, V0.alloc (.cells #[.int .i64 0, .int .i64 0, .bool false, .bool false, .slice none 0 0, .int .i64 0, .slice none 0 0, .slice none 0 0, .bool false] 38) = V := ⟨_, rfl⟩
  rw [hV] at b1 gN
  have gA1 := (b1.block _ (Array.getElem?_eq_some_iff.1 gA).1).trans gA
  rw [sV0] at gN
  have bV := b0.trans (b1.mono b0.size)

  have ac0 : V.cell? ⟨w.heap.size, 0, none⟩ = some (.int .i64 3) := by rw [cell_of_row _ _ 0 _ _ _ gA1]; rfl
  have ac1 : V.cell? ⟨w.heap.size, 1, none⟩ = some (.slice pi idl.length ci) := by rw [cell_of_row _ _ 1 _ _ _ gA1]; rfl
  have ac2 : V.cell? ⟨w.heap.size, 2, none⟩ = some (.int .i64 fr) := by rw [cell_of_row _ _ 2 _ _ _ gA1]; rfl
  have ac3 : V.cell? ⟨w.heap.size, 3, none⟩ = some (.int .i64 (E : Int)) := by rw [cell_of_row _ _ 3 _ _ _ gA1]; rfl
  have ac4 : V.cell? ⟨w.heap.size, 4, none⟩ = some (.int .i64 ti) := by rw [cell_of_row _ _ 4 _ _ _ gA1]; rfl
  have ac5 : V.cell? ⟨w.heap.size, 5, none⟩ = some (.bool so) := by rw [cell_of_row _ _ 5 _ _ _ gA1]; rfl
  have ac6 : V.cell? ⟨w.heap.size, 6, none⟩ = some (.int .i64 ep) := by rw [cell_of_row _ _ 6 _ _ _ gA1]; rfl
  have ac7 : V.cell? ⟨w.heap.size, 7, none⟩ = some (.int .i64 ix) := by rw [cell_of_row _ _ 7 _ _ _ gA1]; rfl
  have ac8 : V.cell? ⟨w.heap.size, 8, none⟩ = some (.int .i64 li) := by rw [cell_of_row _ _ 8 _ _ _ gA1]; rfl
  have ac9 : V.cell? ⟨w.heap.size, 9, none⟩ = some (v) := by rw [cell_of_row _ _ 9 _ _ _ gA1]; rfl

  have hA := at_first base g s h mi mk ch ar ca pg ts us ck pt ct pb cb V (H.later bV) _ u bs idl E hE hu (hb.later bV) (hi.later bV) x hx he
  clear H hb hi hx he gA b0 b1 hu
  go_enter Try.func25, Try.ntmps25
  go_wp2_with (first
    | (go_at_call 39; refine hA.mono ?_; rintro e w1 ⟨q, cq, rfl, hk, c1⟩; have hC := clone_any _ x.2 w1 hk hxl)
    | (go_at_call 35; refine hC.mono ?_; rintro e w2 ⟨p3, c3, rfl, hk2, c2⟩; have d2 := c1.trans (c2.mono c1.size); have g2 := (d2.block _ (Array.getElem?_eq_some_iff.1 gN).1).trans gN; obtain ⟨⟨x0, x1, x2, x3, x4, x5, x6, x7, x8⟩, fx⟩ := ans_cells g2; have y0 := fx 0; have y1 := fx 1; have y2 := fx 2; have y3 := fx 3; have y4 := fx 4; have y5 := fx 5; have y6 := fx 6; have y7 := fx 7; have y8 := fx 8; have hon : Only (w.heap.size + 1) w2 (((((((((w2.setCell ⟨w.heap.size + 1, 0, none⟩ (.int .i64 0)).setCell ⟨w.heap.size + 1, 1, none⟩ (.int .i64 0)).setCell ⟨w.heap.size + 1, 2, none⟩ (.bool true)).setCell ⟨w.heap.size + 1, 3, none⟩ (.bool false)).setCell ⟨w.heap.size + 1, 4, none⟩ (.slice p3 x.2.length c3)).setCell ⟨w.heap.size + 1, 5, none⟩ (.int .i64 (E : Int))).setCell ⟨w.heap.size + 1, 6, none⟩ (.slice none 0 0)).setCell ⟨w.heap.size + 1, 7, none⟩ (.slice none 0 0)).setCell ⟨w.heap.size + 1, 8, none⟩ (.bool false)) := ((((((((((Only.refl (w.heap.size + 1) w2).setCell 0 _).setCell 1 _).setCell 2 _).setCell 3 _).setCell 4 _).setCell 5 _).setCell 6 _).setCell 7 _).setCell 8 _); have bF := (bV.trans (d2.mono bV.size)).trans (hon.below (by omega)); clear hon fx g2 c2 d2))
  refine bodyPost_ret (v := .agg #[.int .i64 0, .int .i64 0, .bool true, .bool false, .slice p3 x.2.length c3, .int .i64 (E : Int), .slice none 0 0, .slice none 0 0, .bool false]) ?_ rfl ?_
  · simp only [results, Try.results25]
    go_simp
  · exact ⟨_, _, rfl, bF⟩

end Go.Proofs.Ytbnfaeafkkagcaa
