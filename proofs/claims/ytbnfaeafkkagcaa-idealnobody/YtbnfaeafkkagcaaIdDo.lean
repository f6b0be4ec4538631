/- What this text proves: the walk of ideal's Do over this program: a batch published; an identity's key asked. -/
import Derived.Test.YtbnfaeafkkagcaaIdWrong
namespace Go.Proofs.Ytbnfaeafkkagcaa
open Go.RowKit

theorem run_equalIn_func_nil {P : Program} (w : World) (d : Nat) (t : TypeId) {ps rs : Array TypeId} {b : Bool} (fn : Fn) (a c : Array Value) (h : P.underlying t = some (.func ps rs b)) : (Op.equalIn (d + 1) t (.func fn a c) .nilFunc).run P w = .ok false w := by
  simp [Op.equalIn, run_underlying h]

theorem func_nil (fn : Fn) (a c : Array Value) (w : World) : (binOp .eql 39 (.func fn a c) .nilFunc).run Try.prog w = .ok (.bool false) w := by
  simp only [binOp]
  simp [Op.equal, Op.maxDepth, run_equalIn_func_nil w 9999 39 fn a c Try.underlying39]

set_option maxRecDepth 100000 in
set_option maxHeartbeats 2000000 in
theorem do_publish (base g : Nat) (s h mi mk ch ar ca pg ck : Int) (ts : List Int) (us : List Value) (pt pb : Option Addr) (ct cb : Nat) (fr to ti ep ix li : Int) (so : Bool) (idv v : Value) (bs : List (List UInt8 × List UInt8)) (w : World)
    (H : IM w base g s h mi mk ch ar ca pg ts us ck pt ct pb cb) (hbase : base ≤ w.heap.size) (ht0 : 0 < ts.length) (ht1 : ts.length ≤ 300) (hu : us.length ≤ 300) (hs : ∀ u ∈ us, ∃ p n c, u = Value.slice p n c ∧ n ≤ 100)
    (hBA : ∀ W, KP base w W → BA W v bs) (hchk : ChkIs mi mk bs 0) (hn : bs.length ≤ 32) (hlen : ∀ x ∈ bs, x.1.length ≤ 140737488355328 ∧ x.2.length ≤ 140737488355328)
    (hep : (ts.length : Int) < epochsV s h mi mk ch ca pg) (hch : (((us.map lenS).sum : Nat) : Int) + (bs.length : Int) ≤ ch) :
    Calls Try.prog 5 #[.pointer (some ⟨g, 0, none⟩), .agg #[.int .i64 1, idv, .int .i64 fr, .int .i64 to, .int .i64 ti, .bool so, .int .i64 ep, .int .i64 ix, .int .i64 li, v]] w fun x w' => ∃ gR pt' ct' pb' cb', x = .returned (.agg #[.int .i64 0, .int .i64 (ts.length : Int), .bool false, .bool false, .slice none 0 0, .int .i64 0, .slice none 0 0, .slice none 0 0, .bool false]) ∧ IM w' base g s h mi mk ch ar ca pg (ts ++ [ck]) (us ++ [.slice (some ⟨gR, 0, none⟩) bs.length bs.length]) ck pt' ct' pb' cb' ∧ BR w' gR gR bs.length bs ∧ KP base w w' := by
  have b0 := (Below.refl w.heap.size w).alloc (Nat.le_refl _) (.cells #[.int .i64 1, idv, .int .i64 fr, .int .i64 to, .int .i64 ti, .bool so, .int .i64 ep, .int .i64 ix, .int .i64 li, v] 25)
  have gA := heap_alloc_new w (.cells #[.int .i64 1, idv, .int .i64 fr, .int .i64 to, .int .i64 ti, .bool so, .int .i64 ep, .int .i64 ix, .int .i64 li, v] 25)
  obtain ⟨V0, hV0⟩ : ∃ V0, w.alloc (.cells #[.int .i64 1, idv, .int .i64 fr, .int .i64 to, .int .i64 ti, .bool so, .int .i64 ep, .int .i64 ix, .int .i64 li, v] 25) = V0 := ⟨_, rfl⟩
  rw [hV0] at b0 gA
  have sV0 : V0.heap.size = w.heap.size + 1 := by rw [← hV0]; simp
  have b1 := (Below.refl V0.heap.size V0).alloc (Nat.le_refl _) (.cells #[.int .i64 0, .int .i64 0, .bool false, .bool false, .slice none 0 0, .int .i64 0, .slice none 0 0, .slice none 0 0, .bool false] 38)
  have gN := heap_alloc_new V0 (.cells #[.int .i64 0, .int .i64 0, .bool false, .bool false, .slice none 0 0, .int .i64 0, .slice none 0 0, .slice none 0 0, .bool false] 38)
  obtain ⟨V, hV⟩ : ∃ V, V0.alloc (.cells #[.int .i64 0, .int .i64 0, .bool false, .bool false, .slice none 0 0, .int .i64 0, .slice none 0 0, .slice none 0 0, .bool false] 38) = V := ⟨_, rfl⟩
  rw [hV] at b1 gN
  have gA1 := (b1.block _ (Array.getElem?_eq_some_iff.1 gA).1).trans gA
  rw [sV0] at gN
  have bV := b0.trans (b1.mono b0.size)
  have HV := H.later bV
  obtain ⟨_, _, _, _, _, _, _, _, m8, _, _⟩ := map_cells HV.1
  have hM := made_ok g pt ts.length ct V m8 ht0

  have c0 : V.cell? ⟨w.heap.size, 0, none⟩ = some (.int .i64 1) := by rw [cell_of_row _ _ 0 _ _ _ gA1]; rfl
  have c1 : V.cell? ⟨w.heap.size, 1, none⟩ = some (idv) := by rw [cell_of_row _ _ 1 _ _ _ gA1]; rfl
  have c2 : V.cell? ⟨w.heap.size, 2, none⟩ = some (.int .i64 fr) := by rw [cell_of_row _ _ 2 _ _ _ gA1]; rfl
  have c3 : V.cell? ⟨w.heap.size, 3, none⟩ = some (.int .i64 to) := by rw [cell_of_row _ _ 3 _ _ _ gA1]; rfl
  have c4 : V.cell? ⟨w.heap.size, 4, none⟩ = some (.int .i64 ti) := by rw [cell_of_row _ _ 4 _ _ _ gA1]; rfl
  have c5 : V.cell? ⟨w.heap.size, 5, none⟩ = some (.bool so) := by rw [cell_of_row _ _ 5 _ _ _ gA1]; rfl
  have c6 : V.cell? ⟨w.heap.size, 6, none⟩ = some (.int .i64 ep) := by rw [cell_of_row _ _ 6 _ _ _ gA1]; rfl
  have c7 : V.cell? ⟨w.heap.size, 7, none⟩ = some (.int .i64 ix) := by rw [cell_of_row _ _ 7 _ _ _ gA1]; rfl
  have c8 : V.cell? ⟨w.heap.size, 8, none⟩ = some (.int .i64 li) := by rw [cell_of_row _ _ 8 _ _ _ gA1]; rfl
  have c9 : V.cell? ⟨w.heap.size, 9, none⟩ = some (v) := by rw [cell_of_row _ _ 9 _ _ _ gA1]; rfl

  have hA := act1 g V
  have hW := wrong1 g fr to ti ep ix li so idv v V
  have hPub := fun W (hb : Below V.heap.size V W) => publish_ok base g s h mi mk ch ar ca pg ck ts us pt pb ct cb 1 fr to ti ep ix li so idv v bs W (HV.later hb) (Nat.le_trans hbase (Nat.le_trans bV.size hb.size)) ht0 ht1 hu hs (fun W' hk => hBA W' ((KP.of_below (bV.trans (hb.mono bV.size)) hbase).trans hk)) hchk hn hlen hep hch
  have kV : ∀ W, Below V.heap.size V W → KP base w W := fun W hb => KP.of_below (bV.trans (hb.mono bV.size)) hbase
  have hfn := fun a c w => func_nil (.func 23) a c w
  have hga : w.heap.size < V.heap.size := (Array.getElem?_eq_some_iff.1 gA1).1
  clear H hBA hchk hep hch hs hlen
  go_enter Try.func5, Try.ntmps5
  go_wp2_with (first
    | (go_at_call 13; refine hM.mono ?_; rintro e w1 ⟨rfl, hw⟩; have hw2 := hw.symm; clear hw; subst hw2)
    | (go_at_call 15; refine hA.mono ?_; rintro e w1 ⟨rfl, hw⟩; have hw2 := hw.symm; clear hw; subst hw2)
    | (go_at_call 16; refine hW.mono ?_; rintro e w2 ⟨rfl, d2⟩; have g2 := (d2.block _ (Array.getElem?_eq_some_iff.1 gA1).1).trans gA1; have r0 : w2.cell? ⟨w.heap.size, 0, none⟩ = some (.int .i64 1) := (by rw [cell_of_row _ _ 0 _ _ _ g2]; rfl); have r1 : w2.cell? ⟨w.heap.size, 1, none⟩ = some (idv) := (by rw [cell_of_row _ _ 1 _ _ _ g2]; rfl); have r2 : w2.cell? ⟨w.heap.size, 2, none⟩ = some (.int .i64 fr) := (by rw [cell_of_row _ _ 2 _ _ _ g2]; rfl); have r3 : w2.cell? ⟨w.heap.size, 3, none⟩ = some (.int .i64 to) := (by rw [cell_of_row _ _ 3 _ _ _ g2]; rfl); have r4 : w2.cell? ⟨w.heap.size, 4, none⟩ = some (.int .i64 ti) := (by rw [cell_of_row _ _ 4 _ _ _ g2]; rfl); have r5 : w2.cell? ⟨w.heap.size, 5, none⟩ = some (.bool so) := (by rw [cell_of_row _ _ 5 _ _ _ g2]; rfl); have r6 : w2.cell? ⟨w.heap.size, 6, none⟩ = some (.int .i64 ep) := (by rw [cell_of_row _ _ 6 _ _ _ g2]; rfl); have r7 : w2.cell? ⟨w.heap.size, 7, none⟩ = some (.int .i64 ix) := (by rw [cell_of_row _ _ 7 _ _ _ g2]; rfl); have r8 : w2.cell? ⟨w.heap.size, 8, none⟩ = some (.int .i64 li) := (by rw [cell_of_row _ _ 8 _ _ _ g2]; rfl); have r9 : w2.cell? ⟨w.heap.size, 9, none⟩ = some (v) := (by rw [cell_of_row _ _ 9 _ _ _ g2]; rfl))
    | (go_at_call 23; refine (hPub _ d2).mono ?_; rintro e w9 ⟨gR, pt', ct', pb', cb', rfl, H9, br9, k9⟩; have g9 := k9.2 _ _ _ _ ((d2.block _ (Array.getElem?_eq_some_iff.1 gN).1).trans gN) (by decide) (by decide) (by decide); obtain ⟨⟨x0, x1, x2, x3, x4, x5, x6, x7, x8⟩, fx⟩ := ans_cells g9; have y0 := fx 0; have y1 := fx 1; have y2 := fx 2; have y3 := fx 3; have y4 := fx 4; have y5 := fx 5; have y6 := fx 6; have y7 := fx 7; have y8 := fx 8; have hon : Only (w.heap.size + 1) w9 (((((((((w9.setCell ⟨w.heap.size + 1, 0, none⟩ (.int .i64 0)).setCell ⟨w.heap.size + 1, 1, none⟩ (.int .i64 (ts.length : Int))).setCell ⟨w.heap.size + 1, 2, none⟩ (.bool false)).setCell ⟨w.heap.size + 1, 3, none⟩ (.bool false)).setCell ⟨w.heap.size + 1, 4, none⟩ (.slice none 0 0)).setCell ⟨w.heap.size + 1, 5, none⟩ (.int .i64 0)).setCell ⟨w.heap.size + 1, 6, none⟩ (.slice none 0 0)).setCell ⟨w.heap.size + 1, 7, none⟩ (.slice none 0 0)).setCell ⟨w.heap.size + 1, 8, none⟩ (.bool false)) := ((((((((((Only.refl (w.heap.size + 1) w9).setCell 0 _).setCell 1 _).setCell 2 _).setCell 3 _).setCell 4 _).setCell 5 _).setCell 6 _).setCell 7 _).setCell 8 _)))
  have kF := (kV _ d2).trans k9
  have kE : KP base w (((((((((w9.setCell ⟨w.heap.size + 1, 0, none⟩ (.int .i64 0)).setCell ⟨w.heap.size + 1, 1, none⟩ (.int .i64 (ts.length : Int))).setCell ⟨w.heap.size + 1, 2, none⟩ (.bool false)).setCell ⟨w.heap.size + 1, 3, none⟩ (.bool false)).setCell ⟨w.heap.size + 1, 4, none⟩ (.slice none 0 0)).setCell ⟨w.heap.size + 1, 5, none⟩ (.int .i64 0)).setCell ⟨w.heap.size + 1, 6, none⟩ (.slice none 0 0)).setCell ⟨w.heap.size + 1, 7, none⟩ (.slice none 0 0)).setCell ⟨w.heap.size + 1, 8, none⟩ (.bool false)) := ⟨kF.1.trans (hon.below (by omega)), fun k cur t fr hk a b c => (hon.block k (by have := (Array.getElem?_eq_some_iff.1 hk).1; omega) (Array.getElem?_eq_some_iff.1 (kF.2 k cur t fr hk a b c)).1).trans (kF.2 k cur t fr hk a b c)⟩
  have t12 : TK 38 w9 (((((((((w9.setCell ⟨w.heap.size + 1, 0, none⟩ (.int .i64 0)).setCell ⟨w.heap.size + 1, 1, none⟩ (.int .i64 (ts.length : Int))).setCell ⟨w.heap.size + 1, 2, none⟩ (.bool false)).setCell ⟨w.heap.size + 1, 3, none⟩ (.bool false)).setCell ⟨w.heap.size + 1, 4, none⟩ (.slice none 0 0)).setCell ⟨w.heap.size + 1, 5, none⟩ (.int .i64 0)).setCell ⟨w.heap.size + 1, 6, none⟩ (.slice none 0 0)).setCell ⟨w.heap.size + 1, 7, none⟩ (.slice none 0 0)).setCell ⟨w.heap.size + 1, 8, none⟩ (.bool false)) := TK.of_only hon g9
  have HE : IM (((((((((w9.setCell ⟨w.heap.size + 1, 0, none⟩ (.int .i64 0)).setCell ⟨w.heap.size + 1, 1, none⟩ (.int .i64 (ts.length : Int))).setCell ⟨w.heap.size + 1, 2, none⟩ (.bool false)).setCell ⟨w.heap.size + 1, 3, none⟩ (.bool false)).setCell ⟨w.heap.size + 1, 4, none⟩ (.slice none 0 0)).setCell ⟨w.heap.size + 1, 5, none⟩ (.int .i64 0)).setCell ⟨w.heap.size + 1, 6, none⟩ (.slice none 0 0)).setCell ⟨w.heap.size + 1, 7, none⟩ (.slice none 0 0)).setCell ⟨w.heap.size + 1, 8, none⟩ (.bool false)) base g s h mi mk ch ar ca pg (ts ++ [ck]) (us ++ [.slice (some ⟨gR, 0, none⟩) bs.length bs.length]) ck pt' ct' pb' cb' := ⟨t12 _ _ _ _ H9.1 (by decide), owns_tk H9.2.1 t12 (by decide), owns_tk H9.2.2.1 t12 (by decide), H9.2.2.2⟩
  have brE := br9.tk t12 (by decide) (by decide)
  refine bodyPost_ret (v := .agg #[.int .i64 0, .int .i64 (ts.length : Int), .bool false, .bool false, .slice none 0 0, .int .i64 0, .slice none 0 0, .slice none 0 0, .bool false]) ?_ rfl ?_
  · simp only [results, Try.results5]
    go_simp
  · exact ⟨gR, _, _, _, _, rfl, HE, brE, kE⟩

set_option maxRecDepth 100000 in
set_option maxHeartbeats 2000000 in
theorem do_asof (base g : Nat) (s h mi mk ch ar ca pg : Int) (ts : List Int) (us : List Value) (ck : Int) (pt : Option Addr) (ct : Nat) (pb : Option Addr) (cb : Nat) (w : World) (H : IM w base g s h mi mk ch ar ca pg ts us ck pt ct pb cb) (ht0 : 0 < ts.length) (ht1 : ts.length ≤ 300)
    (idv u v : Value) (bs : List (List UInt8 × List UInt8)) (idl : List UInt8) (E : Nat) (hE : 0 < E) (hEt : E + 1 ≤ ts.length) (hn : (idl.length : Int) ≤ mi) (hu : us[E]? = some u) (hb : BA w u bs) (hi : HB w idv idl) (x : List UInt8 × List UInt8) (hx : bs[0]? = some x) (he : x.1 = idl) (hxl : x.2.length ≤ 140737488355328) (fr ti ep ix li : Int) (so : Bool) :
    Calls Try.prog 5 #[.pointer (some ⟨g, 0, none⟩), .agg #[.int .i64 3, idv, .int .i64 fr, .int .i64 (E : Int), .int .i64 ti, .bool so, .int .i64 ep, .int .i64 ix, .int .i64 li, v]] w fun e w' => ∃ p3 c3, e = .returned (.agg #[.int .i64 0, .int .i64 0, .bool true, .bool false, .slice p3 x.2.length c3, .int .i64 (E : Int), .slice none 0 0, .slice none 0 0, .bool false]) ∧ Below w.heap.size w w' := by
  obtain ⟨pi, ci, rfl⟩ := hi.shape
  have b0 := (Below.refl w.heap.size w).alloc (Nat.le_refl _) (.cells #[.int .i64 3, .slice pi idl.length ci, .int .i64 fr, .int .i64 (E : Int), .int .i64 ti, .bool so, .int .i64 ep, .int .i64 ix, .int .i64 li, v] 25)
  have gA := heap_alloc_new w (.cells #[.int .i64 3, .slice pi idl.length ci, .int .i64 fr, .int .i64 (E : Int), .int .i64 ti, .bool so, .int .i64 ep, .int .i64 ix, .int .i64 li, v] 25)
  obtain ⟨V0, hV0⟩ : ∃ V0, w.alloc (.cells #[.int .i64 3, .slice pi idl.length ci, .int .i64 fr, .int .i64 (E : Int), .int .i64 ti, .bool so, .int .i64 ep, .int .i64 ix, .int .i64 li, v] 25) = V0 := ⟨_, rfl⟩
  rw [hV0] at b0 gA
  have sV0 : V0.heap.size = w.heap.size + 1 := by rw [← hV0]; simp
  have b1 := (Below.refl V0.heap.size V0).alloc (Nat.le_refl _) (.cells #[.int .i64 0, .int .i64 0, .bool false, .bool false, .slice none 0 0, .int .i64 0, .slice none 0 0, .slice none 0 0, .bool false] 38)
  have gN := heap_alloc_new V0 (.cells #[.int .i64 0, .int .i64 0, .bool false, .bool false, .slice none 0 0, .int .i64 0, .slice none 0 0, .slice none 0 0, .bool false] 38)
  obtain ⟨V, hV⟩ : ∃ V, V0.alloc (.cells #[.int .i64 0, .int .i64 0, .bool false, .bool false, .slice none 0 0, .int .i64 0, .slice none 0 0, .slice none 0 0, .bool false] 38) = V := ⟨_, rfl⟩
  rw [hV] at b1 gN
  have gA1 := (b1.block _ (Array.getElem?_eq_some_iff.1 gA).1).trans gA
  rw [sV0] at gN
  have bV := b0.trans (b1.mono b0.size)
  have HV := H.later bV
  obtain ⟨_, _, _, _, _, _, _, _, m8, _, _⟩ := map_cells HV.1
  have hM := made_ok g pt ts.length ct V m8 ht0

  have c0 : V.cell? ⟨w.heap.size, 0, none⟩ = some (.int .i64 3) := by rw [cell_of_row _ _ 0 _ _ _ gA1]; rfl
  have c1 : V.cell? ⟨w.heap.size, 1, none⟩ = some (.slice pi idl.length ci) := by rw [cell_of_row _ _ 1 _ _ _ gA1]; rfl
  have c2 : V.cell? ⟨w.heap.size, 2, none⟩ = some (.int .i64 fr) := by rw [cell_of_row _ _ 2 _ _ _ gA1]; rfl
  have c3 : V.cell? ⟨w.heap.size, 3, none⟩ = some (.int .i64 (E : Int)) := by rw [cell_of_row _ _ 3 _ _ _ gA1]; rfl
  have c4 : V.cell? ⟨w.heap.size, 4, none⟩ = some (.int .i64 ti) := by rw [cell_of_row _ _ 4 _ _ _ gA1]; rfl
  have c5 : V.cell? ⟨w.heap.size, 5, none⟩ = some (.bool so) := by rw [cell_of_row _ _ 5 _ _ _ gA1]; rfl
  have c6 : V.cell? ⟨w.heap.size, 6, none⟩ = some (.int .i64 ep) := by rw [cell_of_row _ _ 6 _ _ _ gA1]; rfl
  have c7 : V.cell? ⟨w.heap.size, 7, none⟩ = some (.int .i64 ix) := by rw [cell_of_row _ _ 7 _ _ _ gA1]; rfl
  have c8 : V.cell? ⟨w.heap.size, 8, none⟩ = some (.int .i64 li) := by rw [cell_of_row _ _ 8 _ _ _ gA1]; rfl
  have c9 : V.cell? ⟨w.heap.size, 9, none⟩ = some (v) := by rw [cell_of_row _ _ 9 _ _ _ gA1]; rfl

  have hA := act3 g V
  have hW := wrong3 base g s h mi mk ch ar ca pg ts us ck pt ct pb cb V HV ht0 ht1 pi idl.length ci hn E hEt fr ti ep ix li so v
  have hAs := fun W (hbW : Below V.heap.size V W) => asof_first base g s h mi mk ch ar ca pg ts us ck pt ct pb cb W (HV.later hbW) (.slice pi idl.length ci) u v bs idl E hE hu (hb.later (bV.trans (hbW.mono bV.size))) (hi.later (bV.trans (hbW.mono bV.size))) x hx he hxl fr ti ep ix li so
  have hfn := fun a c w => func_nil (.func 25) a c w
  clear H hb hi hx he hu hxl
  go_enter Try.func5, Try.ntmps5
  go_wp2_with (first
    | (go_at_call 13; refine hM.mono ?_; rintro e w1 ⟨rfl, hw⟩; have hw2 := hw.symm; clear hw; subst hw2)
    | (go_at_call 15; refine hA.mono ?_; rintro e w1 ⟨rfl, hw⟩; have hw2 := hw.symm; clear hw; subst hw2)
    | (go_at_call 16; refine hW.mono ?_; rintro e w2 ⟨rfl, d2⟩; have g2 := (d2.block _ (Array.getElem?_eq_some_iff.1 gA1).1).trans gA1; have r0 : w2.cell? ⟨w.heap.size, 0, none⟩ = some (.int .i64 3) := (by rw [cell_of_row _ _ 0 _ _ _ g2]; rfl); have r1 : w2.cell? ⟨w.heap.size, 1, none⟩ = some (.slice pi idl.length ci) := (by rw [cell_of_row _ _ 1 _ _ _ g2]; rfl); have r2 : w2.cell? ⟨w.heap.size, 2, none⟩ = some (.int .i64 fr) := (by rw [cell_of_row _ _ 2 _ _ _ g2]; rfl); have r3 : w2.cell? ⟨w.heap.size, 3, none⟩ = some (.int .i64 (E : Int)) := (by rw [cell_of_row _ _ 3 _ _ _ g2]; rfl); have r4 : w2.cell? ⟨w.heap.size, 4, none⟩ = some (.int .i64 ti) := (by rw [cell_of_row _ _ 4 _ _ _ g2]; rfl); have r5 : w2.cell? ⟨w.heap.size, 5, none⟩ = some (.bool so) := (by rw [cell_of_row _ _ 5 _ _ _ g2]; rfl); have r6 : w2.cell? ⟨w.heap.size, 6, none⟩ = some (.int .i64 ep) := (by rw [cell_of_row _ _ 6 _ _ _ g2]; rfl); have r7 : w2.cell? ⟨w.heap.size, 7, none⟩ = some (.int .i64 ix) := (by rw [cell_of_row _ _ 7 _ _ _ g2]; rfl); have r8 : w2.cell? ⟨w.heap.size, 8, none⟩ = some (.int .i64 li) := (by rw [cell_of_row _ _ 8 _ _ _ g2]; rfl); have r9 : w2.cell? ⟨w.heap.size, 9, none⟩ = some (v) := (by rw [cell_of_row _ _ 9 _ _ _ g2]; rfl))
    | (go_at_call 25; refine (hAs _ d2).mono ?_; rintro e w9 ⟨p3, c3, rfl, k9⟩; have d9 := d2.trans (k9.mono d2.size); have g9 := (d9.block _ (Array.getElem?_eq_some_iff.1 gN).1).trans gN; obtain ⟨⟨x0, x1, x2, x3, x4, x5, x6, x7, x8⟩, fx⟩ := ans_cells g9; have y0 := fx 0; have y1 := fx 1; have y2 := fx 2; have y3 := fx 3; have y4 := fx 4; have y5 := fx 5; have y6 := fx 6; have y7 := fx 7; have y8 := fx 8; have hon : Only (w.heap.size + 1) w9 (((((((((w9.setCell ⟨w.heap.size + 1, 0, none⟩ (.int .i64 0)).setCell ⟨w.heap.size + 1, 1, none⟩ (.int .i64 0)).setCell ⟨w.heap.size + 1, 2, none⟩ (.bool true)).setCell ⟨w.heap.size + 1, 3, none⟩ (.bool false)).setCell ⟨w.heap.size + 1, 4, none⟩ (.slice p3 x.2.length c3)).setCell ⟨w.heap.size + 1, 5, none⟩ (.int .i64 (E : Int))).setCell ⟨w.heap.size + 1, 6, none⟩ (.slice none 0 0)).setCell ⟨w.heap.size + 1, 7, none⟩ (.slice none 0 0)).setCell ⟨w.heap.size + 1, 8, none⟩ (.bool false)) := ((((((((((Only.refl (w.heap.size + 1) w9).setCell 0 _).setCell 1 _).setCell 2 _).setCell 3 _).setCell 4 _).setCell 5 _).setCell 6 _).setCell 7 _).setCell 8 _)))
  have bF := (bV.trans (d9.mono bV.size)).trans (hon.below (by omega))
  refine bodyPost_ret (v := .agg #[.int .i64 0, .int .i64 0, .bool true, .bool false, .slice p3 x.2.length c3, .int .i64 (E : Int), .slice none 0 0, .slice none 0 0, .bool false]) ?_ rfl ?_
  · simp only [results, Try.results5]
    go_simp
  · exact ⟨_, _, rfl, bF⟩

end Go.Proofs.Ytbnfaeafkkagcaa
