/- What this text proves: the walk of annalslaw06.MtsBytes over this program: it answers true, and writes nothing that was there, where the bytes and the signature are not greater together than memory. -/
import Derived.Test.YtdjaemobfbbkoaaDoorJMReadB
import Derived.Test.YtdjaemobfbbkoaaDoorJMWriteC
import Derived.Test.YtdjaemobfbbkoaaDoorJSame
namespace Go.Proofs.YtdjaemobfbbkoaaDoor
open Go.RowKit

/-- Both Reads, an error or none. -/
theorem reads_one (size height : Int) (b : List UInt8) (hsz : b.length ≤ 140737488355000) :
    ∃ (er ix : Int) (ls ps : List (List UInt8)) (R : List UInt8), (er = 0 → wrF [] ix ls ps ++ R = b) ∧
      (∀ v w, HB w v b → Calls Tryd.prog 16 #[.int .i64 size, .int .i64 height, v] w fun e w' => ∃ p1 c1 p2 c2 p c, e = .returned (.tuple #[.agg #[.int .i64 ix, .slice p1 ls.length c1, .slice p2 ps.length c2], .slice p R.length c, .int .i64 er]) ∧ PA w' (.slice p1 ls.length c1) ls ∧ PA w' (.slice p2 ps.length c2) ps ∧ HB w' (.slice p R.length c) R ∧ Below w.heap.size w w') ∧
      (∀ v w, HB w v b → Calls Tryd.prog 17 #[.int .i64 size, .int .i64 height, v] w fun e w' => ∃ p1 c1 p2 c2 p c, e = .returned (.tuple #[.agg #[.int .i64 ix, .slice p1 ls.length c1, .slice p2 ps.length c2], .slice p R.length c, .int .i64 er]) ∧ PA w' (.slice p1 ls.length c1) ls ∧ PA w' (.slice p2 ps.length c2) ps ∧ HB w' (.slice p R.length c) R ∧ Below w.heap.size w w') := by
  rcases reads_both size height b hsz with ⟨er, her, hA, hB⟩ | ⟨ix, Ls, Ps, R, hwr, hA, hB⟩
  · refine ⟨er, 0, [], [], [], fun h => absurd h her, fun v w hv => ?_, fun v w hv => ?_⟩
    · exact (hA v w hv).mono fun e w' ⟨h1, h2⟩ => ⟨none, 0, none, 0, none, 0, h1, PA.nil _, PA.nil _, HB.nil _, h2⟩
    · exact (hB v w hv).mono fun e w' ⟨h1, h2⟩ => ⟨none, 0, none, 0, none, 0, h1, PA.nil _, PA.nil _, HB.nil _, h2⟩
  · refine ⟨0, ix, Ls, Ps, R, fun _ => hwr, fun v w hv => ?_, fun v w hv => ?_⟩
    · refine (hA v w hv).mono fun e w' ⟨x, y, p, c, h1, h2, h3, h4, h5⟩ => ?_
      obtain ⟨p1, c1, rfl⟩ := h2.shape
      obtain ⟨p2, c2, rfl⟩ := h3.shape
      exact ⟨p1, c1, p2, c2, p, c, h1, h2, h3, h4, h5⟩
    · refine (hB v w hv).mono fun e w' ⟨x, y, p, c, h1, h2, h3, h4, h5⟩ => ?_
      obtain ⟨p1, c1, rfl⟩ := h2.shape
      obtain ⟨p2, c2, rfl⟩ := h3.shape
      exact ⟨p1, c1, p2, c2, p, c, h1, h2, h3, h4, h5⟩

set_option maxRecDepth 100000 in
set_option maxHeartbeats 2000000 in
theorem mbytesWalk (size height idx : Int) (v ca pa : Value) (b : List UInt8) (ls ps : List (List UInt8)) (w : World) (hv : HB w v b) (hc : PA w ca ls) (hp : PA w pa ps) (hT : Tabs w) (hw1 : 1 < w.heap.size) (hbig : b.length + ls.flatten.length + ps.flatten.length ≤ 140737488355000) :
    Calls Tryd.prog 5 #[.int .i64 size, .int .i64 height, .agg #[.int .i64 idx, ca, pa], v] w fun e w' => e = .returned (.bool true) ∧ Below w.heap.size w w' := by
  obtain ⟨p, c, rfl⟩ := hv.shape
  obtain ⟨pc, cc, rfl⟩ := hc.shape
  obtain ⟨pp, cp, rfl⟩ := hp.shape
  go_enter Tryd.func5, Tryd.ntmps5
  have b0 := (Below.refl _ w).alloc (Nat.le_refl _) (.cells #[.int .i64 idx, .slice pc ls.length cc, .slice pp ps.length cp] 30)
  have gs0 := heap_alloc_new w (.cells #[.int .i64 idx, .slice pc ls.length cc, .slice pp ps.length cp] 30)
  go_wp2_with fail
  obtain ⟨er, ix, Ls, Ps, R, hwr, hA, hB⟩ := reads_one size height b (by omega)
  have HWR : Hid (er = 0 → wrF [] ix Ls Ps ++ R = b) := hwr
  clear hwr
  refine (hA _ _ (hv.later b0)).mono ?_
  rintro e w1 ⟨p1, c1, p2, c2, p3, c3, rfl, x1, x2, x3, hb1⟩
  have b1 := b0.trans (hb1.mono b0.size)
  have gs1 := (hb1.block _ (Array.getElem?_eq_some_iff.1 gs0).1).trans gs0
  have bX := (Below.refl _ w1).alloc (Nat.le_refl _) (.cells #[.int .i64 ix, .slice p1 Ls.length c1, .slice p2 Ps.length c2] 30)
  have gx1 := heap_alloc_new w1 (.cells #[.int .i64 ix, .slice p1 Ls.length c1, .slice p2 Ps.length c2] 30)
  have b1X := b1.trans (bX.mono b1.size)
  clear hA gs0 b0 hb1
  go_wp2_with fail
  refine (hB _ _ (hv.later b1X)).mono ?_
  rintro e w2 ⟨q1, d1, q2, d2, q3, d3, rfl, y1, y2, y3, hb2⟩
  have bX2 := bX.trans (hb2.mono bX.size)
  have b2 := b1X.trans (hb2.mono b1X.size)
  have gs2 := (bX2.block _ (Array.getElem?_eq_some_iff.1 gs1).1).trans gs1
  have gx2 := (hb2.block _ (Array.getElem?_eq_some_iff.1 gx1).1).trans gx1
  have z1 := x1.later bX2
  have z2 := x2.later bX2
  have z3 := x3.later bX2
  have bY := (Below.refl _ w2).alloc (Nat.le_refl _) (.cells #[.int .i64 ix, .slice q1 Ls.length d1, .slice q2 Ps.length d2] 30)
  have gy := heap_alloc_new w2 (.cells #[.int .i64 ix, .slice q1 Ls.length d1, .slice q2 Ps.length d2] 30)
  clear hB gx1 x1 x2 x3 bX b1X hb2 bX2 gs1 b1
  go_wp2_with fail
  obtain ⟨V, hV⟩ : ∃ V, V = w2.alloc (.cells #[.int .i64 ix, .slice q1 Ls.length d1, .slice q2 Ps.length d2] 30) := ⟨_, rfl⟩
  rw [← hV] at bY gy ⊢
  clear hV
  have bV := b2.trans (bY.mono b2.size)
  have gsV := (bY.block _ (Array.getElem?_eq_some_iff.1 gs2).1).trans gs2
  have gxV := (bY.block _ (Array.getElem?_eq_some_iff.1 gx2).1).trans gx2
  have hcell : ∀ W', Below V.heap.size V W' → W'.cell? ⟨w.heap.size, 0, none⟩ = some (.int .i64 idx) ∧ W'.cell? ⟨w.heap.size, 1, none⟩ = some (.slice pc ls.length cc) ∧ W'.cell? ⟨w.heap.size, 2, none⟩ = some (.slice pp ps.length cp) ∧ W'.cell? ⟨w1.heap.size, 0, none⟩ = some (.int .i64 ix) ∧ W'.cell? ⟨w1.heap.size, 1, none⟩ = some (.slice p1 Ls.length c1) ∧ W'.cell? ⟨w1.heap.size, 2, none⟩ = some (.slice p2 Ps.length c2) ∧ W'.cell? ⟨w2.heap.size, 0, none⟩ = some (.int .i64 ix) ∧ W'.cell? ⟨w2.heap.size, 1, none⟩ = some (.slice q1 Ls.length d1) ∧ W'.cell? ⟨w2.heap.size, 2, none⟩ = some (.slice q2 Ps.length d2) := by
    intro W' hb
    refine ⟨cell_later hb ?_, cell_later hb ?_, cell_later hb ?_, cell_later hb ?_, cell_later hb ?_, cell_later hb ?_, cell_later hb ?_, cell_later hb ?_, cell_later hb ?_⟩
    · rw [cell_of_row _ _ 0 _ _ _ gsV]; rfl
    · rw [cell_of_row _ _ 1 _ _ _ gsV]; rfl
    · rw [cell_of_row _ _ 2 _ _ _ gsV]; rfl
    · rw [cell_of_row _ _ 0 _ _ _ gxV]; rfl
    · rw [cell_of_row _ _ 1 _ _ _ gxV]; rfl
    · rw [cell_of_row _ _ 2 _ _ _ gxV]; rfl
    · rw [cell_of_row _ _ 0 _ _ _ gy]; rfl
    · rw [cell_of_row _ _ 1 _ _ _ gy]; rfl
    · rw [cell_of_row _ _ 2 _ _ _ gy]; rfl
  have hvV : ∀ W', Below V.heap.size V W' → HB W' (.slice p b.length c) b := fun W' hb => (hv.later bV).later hb
  have hcV : ∀ W', Below V.heap.size V W' → PA W' (.slice pc ls.length cc) ls := fun W' hb => (hc.later bV).later hb
  have hpV : ∀ W', Below V.heap.size V W' → PA W' (.slice pp ps.length cp) ps := fun W' hb => (hp.later bV).later hb
  have hTV : ∀ W', Below V.heap.size V W' → Tabs W' := fun W' hb => (hT.later bV).later hb
  have hx1 : ∀ W', Below V.heap.size V W' → PA W' (.slice p1 Ls.length c1) Ls := fun W' hb => (z1.later bY).later hb
  have hx2 : ∀ W', Below V.heap.size V W' → PA W' (.slice p2 Ps.length c2) Ps := fun W' hb => (z2.later bY).later hb
  have hx3 : ∀ W', Below V.heap.size V W' → HB W' (.slice p3 R.length c3) R := fun W' hb => (z3.later bY).later hb
  have hy1 : ∀ W', Below V.heap.size V W' → PA W' (.slice q1 Ls.length d1) Ls := fun W' hb => (y1.later bY).later hb
  have hy2 : ∀ W', Below V.heap.size V W' → PA W' (.slice q2 Ps.length d2) Ps := fun W' hb => (y2.later bY).later hb
  have hy3 : ∀ W', Below V.heap.size V W' → HB W' (.slice q3 R.length d3) R := fun W' hb => (y3.later bY).later hb
  have hMW := fun W' hb => mwrite_any (.slice p b.length c) (.slice pc ls.length cc) (.slice pp ps.length cp) b idx ls ps W' (hvV W' hb) (hcV W' hb) (hpV W' hb) (by omega)
  have hRW := fun W' hb => rmwrite_any (.slice p b.length c) (.slice pc ls.length cc) (.slice pp ps.length cp) b idx ls ps W' (hvV W' hb) (hcV W' hb) (hpV W' hb) (by omega)
  have hSM := fun W' hb => rsame_true ix (.slice p1 Ls.length c1) (.slice q1 Ls.length d1) (.slice p2 Ps.length c2) (.slice q2 Ps.length d2) Ls Ps W' (hx1 W' hb) (hy1 W' hb) (hx2 W' hb) (hy2 W' hb)
  generalize wrF b idx ls ps = F at *
  have hbd : Below V.heap.size V V.drew := (Below.refl _ V).drew
  have hk0 := hcell V (Below.refl _ _)
  have szV := bV.size
  clear gsV gxV gy gs2 gx2 bY z1 z2 z3 y1 y2 y3 hc hp
  go_region_held3 (fun W' => W'.cell? ⟨w.heap.size, 0, none⟩ = some (.int .i64 idx) ∧ W'.cell? ⟨w.heap.size, 1, none⟩ = some (.slice pc ls.length cc) ∧ W'.cell? ⟨w.heap.size, 2, none⟩ = some (.slice pp ps.length cp) ∧ W'.cell? ⟨w1.heap.size, 0, none⟩ = some (.int .i64 ix) ∧ W'.cell? ⟨w1.heap.size, 1, none⟩ = some (.slice p1 Ls.length c1) ∧ W'.cell? ⟨w1.heap.size, 2, none⟩ = some (.slice p2 Ps.length c2) ∧ W'.cell? ⟨w2.heap.size, 0, none⟩ = some (.int .i64 ix) ∧ W'.cell? ⟨w2.heap.size, 1, none⟩ = some (.slice q1 Ls.length d1) ∧ W'.cell? ⟨w2.heap.size, 2, none⟩ = some (.slice q2 Ps.length d2)) (first | exact hk0 | exact hcell _ hbd | exact hcell _ h3 | exact hcell _ h5 | exact hcell _ h6) (first
    | (go_at_call 13; refine (hSM _ hbd).mono ?_; rintro e w3 ⟨rfl, hb3⟩; have h3 : Below V.heap.size V w3 := hbd.trans (hb3.mono (by simp)))
    | (go_at_call 10; refine (equal_t _ _ R R _ (hx3 _ h3) (hy3 _ h3) rfl).mono ?_; rintro e w4 ⟨rfl, hw⟩; have hw2 := hw.symm; clear hw; subst hw2)
    | (go_at_call 18; refine (hMW _ h3).mono ?_; rintro e w5 ⟨p5, c5, rfl, o5, hb5⟩; have h5 : Below V.heap.size V w5 := h3.trans (hb5.mono h3.size); have k5 := HB.of_owns o5)
    | (go_at_call 19; refine (hRW _ h5).mono ?_; rintro e w6 ⟨p6, c6, rfl, o6, hb6⟩; have h6 : Below V.heap.size V w6 := h5.trans (hb6.mono h5.size); have k6 := HB.of_owns o6; have k56 := k5.later hb6)
    | (go_at_call 10; refine (equal_t _ _ F F _ k56 k6 rfl).mono ?_; rintro e w7 ⟨rfl, hw⟩; have hw2 := hw.symm; clear hw; subst hw2))
  have hk6 := hcell w6 h6
  obtain ⟨_, _, _, e3, e4, e5, _, _, _⟩ := hk6
  clear hMW hRW hSM k5 k6 k56 o5 o6 hb6 hb5 hb3 h3 h5 hk0 hbd hy1 hy2 hy3 hcV hpV
  have hAw := fun W' hb => mtsAwake_any W' (hTV W' hb) (by have := Below.size hb; omega)
  by_cases her : er = 0
  · subst her
    have hwr := HWR.out rfl
    have hwl : b.length = (wrF [] ix Ls Ps).length + R.length := by rw [← hwr, List.length_append]
    have hfl : (wrF [] ix Ls Ps).length = (numL (clampN ix)).length + Ls.flatten.length + Ps.flatten.length := by unfold wrF; simp [List.length_append]; omega
    have hWW := fun W' hb => mwrite_any (.slice none 0 0) (.slice p1 Ls.length c1) (.slice p2 Ps.length c2) [] ix Ls Ps W' (HB.nil W') (hx1 W' hb) (hx2 W' hb) (by rw [List.length_nil]; omega)
    generalize wrF [] ix Ls Ps = G at *
    have HWL : Hid (b.length = G.length + R.length) := hwl
    have HWB : Hid (G ++ R = b) := hwr
    clear hfl HWR hwl hwr
    go_wp2_with (first
      | (go_at_call 18; refine (hWW _ h6).mono ?_; rintro e w7 ⟨p7, c7, rfl, o7, hb7⟩; have h7 : Below V.heap.size V w7 := h6.trans (hb7.mono h6.size); have hR7 := hx3 _ h7)
      | (at_builtin; refine wpList_unguard (by first | rfl | decide | (simp [Region.wanted, yielded]; done)) ?_; refine wpList_append_hb rfl (.tmp 60) (.tmp 61) 22 rfl w6.heap.size 5 Tryd.underlying22 i_u8 _ _ _ rfl o7 _ _ _ R rfl hR7 ?sa ?sb ?_))
    case sa => have := HWL.out; omega
    case sb => exact hb7.size
    intro v8 w8 o8 hg8
    have hb8 : Below w6.heap.size w6 w8 := hb7.grown hg8 hb7.size (fun k hk => (o7.lt k hk).1)
    rw [← bcs_append, HWB.out, ← HWL.out] at o8
    have h8 : Below V.heap.size V w8 := h6.trans (hb8.mono h6.size)
    obtain ⟨p8, c8, rfl⟩ := owns_shape o8
    have k8 := HB.of_owns o8
    have hv8 := hvV _ h8
    clear o7 hb7 hg8 hb8 o8 hWW hR7 HWL HWB hx1 hx2 hx3
    go_wp2_with (first
      | (go_at_call 10; refine (equal_t _ _ b b _ k8 hv8 rfl).mono ?_; rintro e w9 ⟨rfl, hw⟩; have hw2 := hw.symm; clear hw; subst hw2)
      | (go_at_call 7; refine (hAw _ h8).mono ?_; rintro e w10 ⟨rfl, hb10⟩))
    go_ret
    exact ⟨rfl, bV.trans ((h8.mono szV).trans (hb10.mono (Nat.le_trans szV h8.size)))⟩
  · have her2 : (er == 0) = false := by simpa using her
    have her3 : (er != 0) = true := by simpa using her
    clear HWR hx1 hx2 hx3
    go_wp2_with (first | (go_at_call 7; refine (hAw _ h6).mono ?_; rintro e w8 ⟨rfl, hb8⟩))
    go_ret
    exact ⟨rfl, bV.trans ((h6.mono szV).trans (hb8.mono (Nat.le_trans szV h6.size)))⟩

end Go.Proofs.YtdjaemobfbbkoaaDoor
