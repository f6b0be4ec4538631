/- What this text proves: the walk of the document's can (annalsref23) over this program. What this text proves: the walk of the document's Read of an entry (annalsref23) over this program. (By program: mkrlgread.py.) -/
import Derived.Test.YtcdikkgkjjopmaaGreatDoorJG1
import Derived.Test.YtcdikkgkjjopmaaGreatDoorJBRCheck
import Derived.Test.YtcdikkgkjjopmaaGreatDoorJE1
import Derived.Test.YtcdikkgkjjopmaaGreatDoorJX1
namespace Go.Proofs.YtcdikkgkjjopmaaGreatDoor
open Go.RowKit

set_option maxRecDepth 100000 in
set_option maxHeartbeats 1600000 in
theorem rlmay_any (s h mi mk ch ar ca pg t : Int) (v : Value) (bs : List (List UInt8 × List UInt8)) (w : World) (hv : BA w v bs) :
    Calls Tryz.prog 20 #[.agg #[.int .i64 s, .int .i64 h, .int .i64 mi, .int .i64 mk, .int .i64 ch, .int .i64 ar, .int .i64 ca, .int .i64 pg], .agg #[.int .i64 t, v]] w (MayTold t mi mk bs w) := by
  obtain ⟨p, c, rfl⟩ := hv.shape
  have b0 := (Below.refl w.heap.size w).alloc (Nat.le_refl _) (.cells #[.int .i64 s, .int .i64 h, .int .i64 mi, .int .i64 mk, .int .i64 ch, .int .i64 ar, .int .i64 ca, .int .i64 pg] 23)
  have g0 := heap_alloc_new w (.cells #[.int .i64 s, .int .i64 h, .int .i64 mi, .int .i64 mk, .int .i64 ch, .int .i64 ar, .int .i64 ca, .int .i64 pg] 23)
  obtain ⟨V, hV⟩ : ∃ V, w.alloc (.cells #[.int .i64 s, .int .i64 h, .int .i64 mi, .int .i64 mk, .int .i64 ch, .int .i64 ar, .int .i64 ca, .int .i64 pg] 23) = V := ⟨_, rfl⟩
  rw [hV] at b0 g0
  have sV : V.heap.size = w.heap.size + 1 := by rw [← hV]; simp
  have b1 := (Below.refl V.heap.size V).alloc (Nat.le_refl _) (.cells #[.int .i64 t, .slice p bs.length c] 26)
  have g1 := heap_alloc_new V (.cells #[.int .i64 t, .slice p bs.length c] 26)
  obtain ⟨U, hU⟩ : ∃ U, V.alloc (.cells #[.int .i64 t, .slice p bs.length c] 26) = U := ⟨_, rfl⟩
  rw [hU] at b1 g1
  have g2 := (b1.block _ (by omega)).trans g0
  obtain ⟨q0, q1, q2, q3, q4, q5, q6, q7⟩ := par_cells g2
  have e0 : U.cell? ⟨V.heap.size, 0, none⟩ = some (.int .i64 t) := by rw [cell_of_row _ _ _ _ _ _ g1]; rfl
  have e1 : U.cell? ⟨V.heap.size, 1, none⟩ = some (.slice p bs.length c) := by rw [cell_of_row _ _ _ _ _ _ g1]; rfl
  have f0 := e0
  have f1 := e1
  rw [sV] at f0 f1
  have bU := b0.trans (b1.mono b0.size)
  have hC := rcheck_any s h mi mk ch ar ca pg (.slice p bs.length c) bs U (hv.later bU)
  clear g0 g1 g2 hv b0 b1
  by_cases h0 : 0 ≤ t
  · by_cases h1 : t ≤ 1125899906842624
    · go_enter Tryz.func20, Tryz.ntmps20
      go_wp2_with (go_at_call 40; refine hC.mono ?_; rintro e w1 ⟨er, rfl, hk, hb1⟩)
      go_ret
      refine ⟨er == 0, rfl, ⟨fun h => ⟨h0, h1, ?_⟩, fun h => ?_⟩, bU.trans (hb1.mono bU.size)⟩
      · have : er = 0 := by simpa using h
        subst this
        exact hk
      · rw [chk_one hk h.2.2]
        rfl
    · have h1' : 1125899906842624 < t := by omega
      go_enter Tryz.func20, Tryz.ntmps20
      go_wp2
      go_ret
      exact ⟨_, rfl, ⟨fun h => (by cases h), fun h => by omega⟩, bU⟩
  · have h0' : t < 0 := by omega
    go_enter Tryz.func20, Tryz.ntmps20
    go_wp2
    go_ret
    exact ⟨_, rfl, ⟨fun h => (by cases h), fun h => by omega⟩, bU⟩

end Go.Proofs.YtcdikkgkjjopmaaGreatDoor

namespace Go.Proofs.YtcdikkgkjjopmaaGreatDoor
open Go.RowKit

set_option maxRecDepth 100000 in
set_option maxHeartbeats 8000000 in
theorem rlread_any (s h mi mk ch ar ca pg : Int) (v : Value) (l : List UInt8) (w : World) (hv : HB w v l) (hsz : l.length ≤ 4000000) :
    Calls Tryz.prog 5 #[.agg #[.int .i64 s, .int .i64 h, .int .i64 mi, .int .i64 mk, .int .i64 ch, .int .i64 ar, .int .i64 ca, .int .i64 pg], v] w (LrTold mi mk l w) := by
  obtain ⟨p, c, rfl⟩ := hv.shape
  have b0 := (Below.refl w.heap.size w).alloc (Nat.le_refl _) (.cells #[.int .i64 s, .int .i64 h, .int .i64 mi, .int .i64 mk, .int .i64 ch, .int .i64 ar, .int .i64 ca, .int .i64 pg] 23)
  have g0 := heap_alloc_new w (.cells #[.int .i64 s, .int .i64 h, .int .i64 mi, .int .i64 mk, .int .i64 ch, .int .i64 ar, .int .i64 ca, .int .i64 pg] 23)
  obtain ⟨V, hV⟩ : ∃ V, w.alloc (.cells #[.int .i64 s, .int .i64 h, .int .i64 mi, .int .i64 mk, .int .i64 ch, .int .i64 ar, .int .i64 ca, .int .i64 pg] 23) = V := ⟨_, rfl⟩
  rw [hV] at b0 g0
  have sV : V.heap.size = w.heap.size + 1 := by rw [← hV]; simp
  have b1 := (Below.refl V.heap.size V).alloc (Nat.le_refl _) (.cells #[.int .i64 0, .slice none 0 0] 26)
  have g1 := heap_alloc_new V (.cells #[.int .i64 0, .slice none 0 0] 26)
  obtain ⟨R, hR⟩ : ∃ R, V.alloc (.cells #[.int .i64 0, .slice none 0 0] 26) = R := ⟨_, rfl⟩
  rw [hR] at b1 g1
  have sR : R.heap.size = w.heap.size + 2 := by rw [← hR]; simp [sV]
  have bR := b0.trans (b1.mono b0.size)
  have gP := (b1.block _ (by omega)).trans g0
  have gE := g1
  rw [sV] at gE
  have hvR := hv.later bR
  have onf : ∀ W : World, Only (w.heap.size + 1) W ((W.setCell ⟨w.heap.size + 1, 0, none⟩ (.int .i64 0)).setCell ⟨w.heap.size + 1, 1, none⟩ (.slice none 0 0)) := fun W => ((Only.refl _ W).setCell 0 _).setCell 1 _
  have bFR := bR.trans ((onf R).below (B := w.heap.size) (by omega))
  obtain ⟨z0, z1, y0, y1⟩ := ent_cells gE
  clear g0 g1 b0 b1 hv
  cases l with
  | nil =>
    go_enter Tryz.func5, Tryz.ntmps5
    go_wp2
    refine bodyPost_ret (v := .tuple #[.agg #[.int .i64 0, .slice none 0 0], .int .i64 90]) ?_ rfl ?_
    · simp only [results, Tryz.results5]
      go_simp
    · refine .inr ⟨?_, rfl, bFR⟩
      rintro t bs ⟨L', rst', hl, _⟩
      simp at hl
  | cons x L =>
    obtain ⟨bl, o, e1, hcs⟩ := hvR.addr (by simp)
    have c0 := hcs 0 x rfl
    subst e1
    have c0' : R.cell? ⟨bl, o, none⟩ = some (.int .u8 (x.toNat : Int)) := c0
    have hlen := hvR.len
    have hnz : ((L.length : Int) + 1 == 0) = false := by rw [beq_eq_false_iff_ne]; omega
    have hl0 : ¬ ((L.length : Int) + 1 = 0) := by omega
    have hlp : (0 : Int) < (L.length : Int) + 1 := by omega
    clear hcs c0
    by_cases hx : x = 69
    · subst hx
      have hcut := hvR.behind 1 (by simp)
      have hln : (69 :: L).length - 1 = L.length := by simp
      rw [hln, List.drop_one, List.tail_cons] at hcut
      obtain ⟨qc, hqc⟩ : ∃ qc, cutP (some ⟨bl, o, none⟩) c 1 = qc := ⟨_, rfl⟩
      have kc : ∀ w', (Instr.slice 27 (.slice (some ⟨bl, o, none⟩) (69 :: L).length c) (some (.int .i64 1)) none none).run Tryz.prog w' = .ok (.slice qc L.length (c - 1)) w' := fun w' => by
        have := run_cut (P := Tryz.prog) Tryz.underlying27 s_u8 (some ⟨bl, o, none⟩) (69 :: L).length c 1 1 rfl (by simp) w'
        rw [hln, hqc] at this
        exact this
      rw [List.length_cons] at kc
      rw [hqc] at hcut
      have bQ := (Below.refl R.heap.size R).alloc (Nat.le_refl _) (.cells #[] 5)
      have hcQ := hcut.later bQ
      have hmade : (R.alloc (.cells #[] 5)).ownsRow R.heap.size 5 1 (.slice (some ⟨R.heap.size, 0, none⟩) 0 0) 0 (bcs []) := World.ownsRow_made (e := 5) (size := 1) (base := R.heap.size) R #[] 0 (Nat.le_refl _) (Nat.zero_le _) rfl
      rw [sR] at hmade
      have hL4 : L.length ≤ 4000000 := by simp at hsz; omega
      have HLL : Hid ((69 :: L : List UInt8) = [69] ++ L) := rfl
      have hQs : w.heap.size + 2 ≤ (R.alloc (.cells #[] 5)).heap.size := by simp; omega
      have gPQ := (bQ.block _ (Array.getElem?_eq_some_iff.1 gP).1).trans gP
      have gEQ := (bQ.block _ (Array.getElem?_eq_some_iff.1 gE).1).trans gE
      clear hvR hln hqc hcut hsz hlen gP gE
      go_enter Tryz.func5, Tryz.ntmps5
      go_wp2_with (first | (at_builtin; refine wpList_append_hb rfl _ _ 27 rfl (w.heap.size + 2) 5 Tryz.underlying27 i_u8 (.slice (some ⟨w.heap.size + 2, 0, none⟩) 0 0) 0 (bcs []) rfl hmade _ _ _ L rfl hcQ (by omega) hQs ?_))
      intro v1 w1 hown1 hgrow1
      have hown1' : w1.ownsRow (w.heap.size + 2) 5 1 v1 L.length (bcs L) := by simpa [bcs] using hown1
      have bQ1 : Below R.heap.size R w1 := bQ.grown hgrow1 (by simp) (by intro k hk; cases hk; show _ ≤ w.heap.size + 2; omega)
      have hlt1 := hown1'.lt
      obtain ⟨p1, d1, rfl⟩ := owns_shape hown1'
      have hh := HB.of_owns hown1'
      have hty := fun a n c (e : Value.slice p1 L.length d1 = .slice (some a) n c) => TY.of_owns hown1' e
      have gP1 := (bQ1.block _ (by omega)).trans ((bQ.block _ (by omega)).symm.trans gPQ)
      have gE1 := (bQ1.block _ (by omega)).trans ((bQ.block _ (by omega)).symm.trans gEQ)
      have bW := (Below.refl w1.heap.size w1).alloc (Nat.le_refl _) (.cells #[.slice p1 L.length d1, .int .i64 0] 49)
      have xr : XR (w1.alloc (.cells #[.slice p1 L.length d1, .int .i64 0] 49)) w1.heap.size L 0 := ⟨p1, d1, heap_alloc_new w1 _, hh.later bW, fun a n c e => ⟨by have := (hlt1 a.block (by rw [e]; rfl)).2; omega, (hty a n c e).later bW⟩⟩
      obtain ⟨w2, hw2⟩ : ∃ w2, w1.alloc (.cells #[.slice p1 L.length d1, .int .i64 0] 49) = w2 := ⟨_, rfl⟩
      rw [hw2] at bW xr
      have bR2 := bQ1.trans (bW.mono bQ1.size)
      have gP2 := (bW.block _ (Array.getElem?_eq_some_iff.1 gP1).1).trans gP1
      have gE2 := (bW.block _ (Array.getElem?_eq_some_iff.1 gE1).1).trans gE1
      have sg : R.heap.size ≤ w1.heap.size := bQ1.size
      have hUi := xuint_any w1.heap.size L 1125899906842624 w2 xr (by omega)
      have hfe := uintF_fell L 1125899906842624
      have hle := uintF_le L 1125899906842624
      have hbk := uintF_back L 1125899906842624
      unfold XSaid at hUi
      obtain ⟨er, n, rst, hU3⟩ : ∃ er n rst, uintF L 1125899906842624 = (er, n, rst) := ⟨_, _, _, rfl⟩
      rw [hU3] at hUi hle hbk hfe
      dsimp only at hUi hle hbk hfe
      have HU : Hid (uintF L 1125899906842624 = (er, n, rst)) := hU3
      have Hbk : Hid (er = 0 → L = numL n ++ rst ∧ n ≤ 4611686018427387904 ∧ (n : Int) ≤ 1125899906842624) := hbk
      obtain ⟨g, hg⟩ : ∃ g, g = w1.heap.size := ⟨_, rfl⟩
      rw [← hg] at hUi sg
      have hgs : g < w2.heap.size := by rw [hg, ← hw2]; simp
      clear hU3 hbk hfe hown1 hown1' hgrow1 hlt1 hh hty bQ bQ1 bW xr hmade hcQ gP1 gE1 gPQ gEQ kc
      go_wp2_with fail
      rw [← hg]
      clear hg hw2
      refine hUi.mono ?_
      rintro e w3 ⟨rfl, r3, o3⟩
      have b23 : Below R.heap.size w2 w3 := o3.below sg
      have bR3 := bR2.trans b23
      have gP3 := (b23.block _ (by omega)).trans gP2
      have gE3 := (b23.block _ (by omega)).trans gE2
      have b4 := (Below.refl w3.heap.size w3).alloc (Nat.le_refl _) (.cells #[.int .i64 (n : Int), .slice none 0 0] 26)
      have g4 := heap_alloc_new w3 (.cells #[.int .i64 (n : Int), .slice none 0 0] 26)
      obtain ⟨w4, hw4⟩ : ∃ w4, w3.alloc (.cells #[.int .i64 (n : Int), .slice none 0 0] 26) = w4 := ⟨_, rfl⟩
      rw [hw4] at b4 g4
      have HW4 : Hid (w3.alloc (.cells #[.int .i64 (n : Int), .slice none 0 0] 26) = w4) := hw4
      have bD := b4.drew
      have r4 := r3.later bD
      have gP4 := (bD.block _ (Array.getElem?_eq_some_iff.1 gP3).1).trans gP3
      have gE4 := (bD.block _ (Array.getElem?_eq_some_iff.1 gE3).1).trans gE3
      have g4d : w4.drew.heap[w3.heap.size]? = some (.cells #[.int .i64 (n : Int), .slice none 0 0] 26 (0, 0)) := g4
      obtain ⟨pB, cB, xd4, hB4⟩ := r4
      have hRd := crread_any s h mi mk ch ar ca pg (.slice pB rst.length cB) rst w4.drew hB4.1 (by omega)
      obtain ⟨bs, rr, ec, hC3⟩ : ∃ bs rr ec, crS mi mk rst = (bs, rr, ec) := ⟨_, _, _, rfl⟩
      rw [hC3] at hRd
      dsimp only at hRd
      have HCr : Hid (crS mi mk rst = (bs, rr, ec)) := hC3
      have HNo : Hid (∀ t bs', lrOk mi mk (69 :: L) t bs' → t = n ∧ er = 0 ∧ bs' = bs ∧ rr = [] ∧ ec = 0 ∧ ChkIs mi mk bs 0) := by
        rintro t bs' ⟨L', rst', h1, h2, h3, h4⟩
        have e1 := HLL.out.symm.trans h1
        rw [List.append_cancel_left_eq] at e1
        subst e1
        rw [HU.out] at h2
        simp only [Prod.mk.injEq] at h2
        obtain ⟨rfl, rfl, rfl⟩ := h2
        rw [HCr.out] at h3
        simp only [Prod.mk.injEq] at h3
        obtain ⟨rfl, rfl, rfl⟩ := h3
        exact ⟨rfl, rfl, rfl, rfl, rfl, h4⟩
      have HYes : Hid (er = 0 → rr = [] → ec = 0 → ChkIs mi mk bs 0 → lrOk mi mk (69 :: L) n bs) := by
        intro e0 e1 e2 h4
        refine ⟨L, rst, HLL.out, ?_, ?_, h4⟩
        · rw [HU.out, e0]
        · rw [HCr.out, e1, e2]
      have HN2 : Hid (er = 0 → (n : Int) ≤ 1125899906842624) := fun h => (Hbk.out h).2.2
      obtain ⟨G, hG⟩ : ∃ G, G = w3.heap.size := ⟨_, rfl⟩
      rw [← hG] at g4d
      have sG : R.heap.size ≤ G := by rw [hG]; have := b23.size; omega
      have hgG : g < G := by rw [hG]; have := b23.size; omega
      have sD : G < w4.drew.heap.size := (Array.getElem?_eq_some_iff.1 g4d).1
      have bw4 := bR.trans ((bR3.trans (bD.mono bR3.size)).mono bR.size)
      have hHeld := (show _ ∧ _ ∧ _ ∧ _ ∧ _ ∧ _ ∧ _ ∧ _ ∧ _ from ⟨(par_cells gP4).1, (par_cells gP4).2.1, (par_cells gP4).2.2.1, (par_cells gP4).2.2.2.1, (par_cells gP4).2.2.2.2.1, (par_cells gP4).2.2.2.2.2.1, (par_cells gP4).2.2.2.2.2.2.1, (par_cells gP4).2.2.2.2.2.2.2, xd4.cells.1⟩)
      clear hC3 HCr HU Hbk hUi o3 r3 gP3 gE3 gP2 gE2 b23 bR3 bR2 g4 b4 bD hB4 hle hw4
      go_wp2
      rw [HW4.out, ← hG]
      clear hG HW4
      refine wp_region_heldN (by kernel_rfl) (fun w' => w'.cell? ⟨w.heap.size, 0, none⟩ = some (.int .i64 s) ∧ w'.cell? ⟨w.heap.size, 1, none⟩ = some (.int .i64 h) ∧ w'.cell? ⟨w.heap.size, 2, none⟩ = some (.int .i64 mi) ∧ w'.cell? ⟨w.heap.size, 3, none⟩ = some (.int .i64 mk) ∧ w'.cell? ⟨w.heap.size, 4, none⟩ = some (.int .i64 ch) ∧ w'.cell? ⟨w.heap.size, 5, none⟩ = some (.int .i64 ar) ∧ w'.cell? ⟨w.heap.size, 6, none⟩ = some (.int .i64 ca) ∧ w'.cell? ⟨w.heap.size, 7, none⟩ = some (.int .i64 pg) ∧ w'.cell? ⟨g, 0, none⟩ = some (.slice pB rst.length cB)) 13 rfl ?_
      refine tkY 0 ⟨some 31, .load 23 (.tmp 2), 23, "ref.go:38", #[], none⟩ ?v0z1 hHeld ?y0z1 ?r0z1
      case y0z1 => (intro w hSw; (try dsimp only at hSw); go_simp) <;> with_reducible rfl
      try simp only [Act.put, List.setIfInBounds_toArray, List.set_cons_zero, List.set_cons_succ]
      refine tkY 1 ⟨some 32, .move (.tmp 6), 47, "ref.go:38", #[], none⟩ ?v1z2 hHeld ?y1z2 ?r1z2
      case y1z2 => (intro w hSw; (try dsimp only at hSw); go_simp) <;> with_reducible rfl
      try simp only [Act.put, List.setIfInBounds_toArray, List.set_cons_zero, List.set_cons_succ]
      refine tkY 2 ⟨some 33, .nilCheck (.tmp 32), 0, "ref.go:38", #[⟨1, .data⟩], none⟩ ?v2z3 hHeld ?y2z3 ?r2z3
      case y2z3 => (intro w hSw; (try dsimp only at hSw); go_simp) <;> with_reducible rfl
      try simp only [Act.put, List.setIfInBounds_toArray, List.set_cons_zero, List.set_cons_succ]
      refine tkY 3 ⟨some 34, .fieldAddr 49 (.tmp 33) 0, 0, "ref.go:38", #[⟨2, .data⟩], none⟩ ?v3z4 hHeld ?y3z4 ?r3z4
      case y3z4 => (intro w hSw; (try dsimp only at hSw); go_simp) <;> with_reducible rfl
      try simp only [Act.put, List.setIfInBounds_toArray, List.set_cons_zero, List.set_cons_succ]
      refine tkY 4 ⟨some 35, .load 27 (.tmp 34), 27, "ref.go:38", #[⟨3, .data⟩], none⟩ ?v4z5 hHeld ?y4z5 ?r4z5
      case y4z5 => (intro w hSw; (try dsimp only at hSw); go_simp) <;> with_reducible rfl
      try simp only [Act.put, List.setIfInBounds_toArray, List.set_cons_zero, List.set_cons_succ]
      refine wpAnyH_ready (rs := [5]) (by kernel_rfl) (by simp) ?_
      refine AllReadyH.cons (o := ⟨some 36, .call { callee := .value (.func 19), args := #[.tmp 31, .tmp 35], argTypes := #[23, 27] }, 43, "ref.go:38", #[⟨0, .data⟩, ⟨4, .data⟩], none⟩) rfl (fun K hK => ?_) AllReadyH.nil
      go_simp
      refine hRd.mono ?_
      rintro e w6 ⟨u, v6, rfl, hu, hv6, b6⟩
      have gP6 := (b6.block _ (Array.getElem?_eq_some_iff.1 gP4).1).trans gP4
      have gE6 := (b6.block _ (Array.getElem?_eq_some_iff.1 gE4).1).trans gE4
      have g6 := (b6.block _ sD).trans g4d
      have xd6 : XD w6 g (.slice pB rst.length cB) er := (b6.block _ (by omega)).trans xd4
      replace hHeld := (show _ ∧ _ ∧ _ ∧ _ ∧ _ ∧ _ ∧ _ ∧ _ ∧ _ from ⟨(par_cells gP6).1, (par_cells gP6).2.1, (par_cells gP6).2.2.1, (par_cells gP6).2.2.2.1, (par_cells gP6).2.2.2.2.1, (par_cells gP6).2.2.2.2.2.1, (par_cells gP6).2.2.2.2.2.2.1, (par_cells gP6).2.2.2.2.2.2.2, xd6.cells.1⟩)
      refine hK.out _ _ ?_ (fun _ => ?_)
      · exact hHeld
      clear hK K
      try simp only [Act.put, List.setIfInBounds_toArray, List.set_cons_zero, List.set_cons_succ]
      refine tkY 6 ⟨some 30, .move (.tmp 36), 43, "ref.go:38", #[⟨5, .data⟩], none⟩ ?v6z6 hHeld ?y6z6 ?r6z6
      case y6z6 => (intro w hSw; (try dsimp only at hSw); go_simp) <;> with_reducible rfl
      try simp only [Act.put, List.setIfInBounds_toArray, List.set_cons_zero, List.set_cons_succ]
      refine tkY 7 ⟨some 37, .extract (.tmp 30) 0, 24, "ref.go:38", #[⟨6, .data⟩], none⟩ ?v7z7 hHeld ?y7z7 ?r7z7
      case y7z7 => (intro w hSw; (try dsimp only at hSw); go_simp) <;> with_reducible rfl
      try simp only [Act.put, List.setIfInBounds_toArray, List.set_cons_zero, List.set_cons_succ]
      refine tkY 8 ⟨some 38, .extract (.tmp 30) 1, 27, "ref.go:38", #[⟨6, .data⟩, { on := 10, ground := .gcOnly .lateStores }], none⟩ ?v8z8 hHeld ?y8z8 ?r8z8
      case y8z8 => (intro w hSw; (try dsimp only at hSw); go_simp) <;> with_reducible rfl
      try simp only [Act.put, List.setIfInBounds_toArray, List.set_cons_zero, List.set_cons_succ]
      refine tkY 9 ⟨some 39, .extract (.tmp 30) 2, 28, "ref.go:38", #[⟨6, .data⟩, { on := 11, ground := .gcOnly .lateStores }], none⟩ ?v9z9 hHeld ?y9z9 ?r9z9
      case y9z9 => (intro w hSw; (try dsimp only at hSw); go_simp) <;> with_reducible rfl
      try simp only [Act.put, List.setIfInBounds_toArray, List.set_cons_zero, List.set_cons_succ]
      refine tkY 10 ⟨some 8, .assign (.tmp 37), 24, "ref.go:38", #[⟨7, .data⟩, ⟨5, .chain⟩, ⟨0, .phase⟩, ⟨1, .phase⟩, ⟨2, .phase⟩, ⟨3, .phase⟩, ⟨4, .phase⟩, ⟨5, .phase⟩, ⟨6, .phase⟩, ⟨7, .phase⟩, { on := 8, ground := .textOnly .lateStores }, { on := 9, ground := .textOnly .lateStores }], none⟩ ?v10z10 hHeld ?y10z10 ?r10z10
      case y10z10 => (intro w hSw; (try dsimp only at hSw); go_simp) <;> with_reducible rfl
      try simp only [Act.put, List.setIfInBounds_toArray, List.set_cons_zero, List.set_cons_succ]
      refine tkY 11 ⟨some 9, .assign (.tmp 38), 27, "ref.go:38", #[⟨8, .data⟩, ⟨10, .chain⟩, ⟨0, .phase⟩, ⟨1, .phase⟩, ⟨2, .phase⟩, ⟨3, .phase⟩, ⟨4, .phase⟩, ⟨5, .phase⟩, ⟨6, .phase⟩, ⟨7, .phase⟩, ⟨8, .phase⟩, { on := 9, ground := .textOnly .lateStores }, ⟨10, .phase⟩], none⟩ ?v11z11 hHeld ?y11z11 ?r11z11
      case y11z11 => (intro w hSw; (try dsimp only at hSw); go_simp) <;> with_reducible rfl
      try simp only [Act.put, List.setIfInBounds_toArray, List.set_cons_zero, List.set_cons_succ]
      refine tkY 12 ⟨some 10, .assign (.tmp 39), 28, "ref.go:38", #[⟨9, .data⟩, ⟨11, .chain⟩, ⟨0, .phase⟩, ⟨1, .phase⟩, ⟨2, .phase⟩, ⟨3, .phase⟩, ⟨4, .phase⟩, ⟨5, .phase⟩, ⟨6, .phase⟩, ⟨7, .phase⟩, ⟨8, .phase⟩, ⟨9, .phase⟩, ⟨10, .phase⟩, ⟨11, .phase⟩], none⟩ ?v12z12 hHeld ?y12z12 ?r12z12
      case y12z12 => (intro w hSw; (try dsimp only at hSw); go_simp) <;> with_reducible rfl
      try simp only [Act.put, List.setIfInBounds_toArray, List.set_cons_zero, List.set_cons_succ]
      refine wpAnyH_done (by kernel_rfl) ?_ _
      obtain ⟨bq, hbq⟩ : ∃ bq, bq = (if ec = 0 then bs else []) := ⟨_, rfl⟩
      obtain ⟨rq, hrq0⟩ : ∃ rq, rq = (if ec = 0 then rr else []) := ⟨_, rfl⟩
      rw [← hbq] at hu
      rw [← hrq0] at hv6
      have HBQ : Hid (ec = 0 → bq = bs ∧ rq = rr) := fun h => by rw [hbq, hrq0, if_pos h, if_pos h]; exact ⟨rfl, rfl⟩
      obtain ⟨pu, cu, hpu⟩ := hu.shape
      obtain ⟨pv, cv, hpv⟩ := hv6.shape
      subst hpu hpv
      clear hbq hrq0
      obtain ⟨x0, x1, f0, f1⟩ := ent_cells g6
      have o7 : Only G w6 (w6.setCell ⟨G, 1, none⟩ (.slice pu bq.length cu)) := (Only.refl G w6).setCell 1 _
      have g7 : (w6.setCell ⟨G, 1, none⟩ (.slice pu bq.length cu)).heap[G]? = some (.cells #[.int .i64 (n : Int), .slice pu bq.length cu] 26 (0, 0)) := by rw [heap_setCell_same w6 G 1 _ _ _ g6]; rfl
      have hu7 := hu.onlyE g6 o7
      have bw6 := bw4.trans (b6.mono bw4.size)
      have bw7 := bw6.trans (o7.below (B := w.heap.size) (by omega))
      have gP7 := (o7.block w.heap.size (by omega) (Array.getElem?_eq_some_iff.1 gP6).1).trans gP6
      have gE7 := (o7.block (w.heap.size + 1) (by omega) (Array.getElem?_eq_some_iff.1 gE6).1).trans gE6
      have xd7 : XD (w6.setCell ⟨G, 1, none⟩ (.slice pu bq.length cu)) g (.slice pB rst.length cB) er := (o7.block g (by omega) (Array.getElem?_eq_some_iff.1 xd6).1).trans xd6
      obtain ⟨w7, hw7⟩ : ∃ w7, w6.setCell ⟨G, 1, none⟩ (.slice pu bq.length cu) = w7 := ⟨_, rfl⟩
      rw [hw7] at g7 hu7 bw7 gP7 gE7 xd7
      obtain ⟨k0, k1, k2, k3, k4, k5, k6, k7⟩ := par_cells gP7
      obtain ⟨z0, z1, y0, y1⟩ := ent_cells gE7
      obtain ⟨e0, e1, _, _⟩ := ent_cells g7
      have er7 := xd7.cells.2
      have hMy := rlmay_any s h mi mk ch ar ca pg (n : Int) _ bq w7 hu7
      have bF7 := bw7.trans ((onf w7).below (B := w.heap.size) (by omega))
      clear hRd gP4 gE4 gP6 gE6 g6 hu hv6 hHeld o7 xd4 xd6 xd7 g4d b6
      by_cases her : er = 0
      · subst her
        by_cases hec : ec = 0
        · subst hec
          by_cases hrq : rq = []
          · subst hrq
            go_wp2_with (go_at_call 20; refine hMy.mono ?_; rintro e w8 ⟨bb, rfl, hbb, b8⟩; have HBB : Hid _ := hbb; clear hbb; have gE8 := (b8.block _ (Array.getElem?_eq_some_iff.1 gE7).1).trans gE7; have g8 := (b8.block _ (Array.getElem?_eq_some_iff.1 g7).1).trans g7; obtain ⟨z0', z1', y0', y1'⟩ := ent_cells gE8; obtain ⟨x0', x1', _, _⟩ := ent_cells g8; have bw8 := bw7.trans (b8.mono bw7.size); cases bb)
            · refine bodyPost_ret (v := .tuple #[.agg #[.int .i64 0, .slice none 0 0], .int .i64 90]) ?_ rfl ?_
              · simp only [results, Tryz.results5]
                go_simp
              · refine .inr ⟨fun t bs' h => ?_, rfl, bw8.trans ((onf w8).below (B := w.heap.size) (by omega))⟩
                obtain ⟨_, _, _, _, _, h4⟩ := HNo.out t bs' h
                have := HBB.out.2 ⟨by omega, HN2.out (by trivial), by rw [(HBQ.out (by trivial)).1]; exact h4⟩
                cases this
            · refine bodyPost_ret (v := .tuple #[.agg #[.int .i64 (n : Int), .slice pu bq.length cu], .int .i64 0]) ?_ rfl ?_
              · simp only [results, Tryz.results5]
                go_simp
              · have onE : Only (w.heap.size + 1) w8 ((w8.setCell ⟨w.heap.size + 1, 0, none⟩ (.int .i64 (n : Int))).setCell ⟨w.heap.size + 1, 1, none⟩ (.slice pu bq.length cu)) := ((Only.refl (w.heap.size + 1) w8).setCell 0 _).setCell 1 _
                have hq1 := (HBQ.out (by trivial)).1
                have hq2 := (HBQ.out (by trivial)).2
                subst hq1
                refine .inl ⟨n, bq, pu, cu, HYes.out (by trivial) hq2.symm (by trivial) (HBB.out.1 (by trivial)).2.2, rfl, (hu7.later b8).onlyE gE8 onE, bw8.trans (onE.below (B := w.heap.size) (by omega))⟩
          · have hrq1 : 0 < rq.length := List.length_pos_iff.2 hrq
            have hrq2 : (0 : Int) < (rq.length : Int) := by omega
            go_wp2
            refine bodyPost_ret (v := .tuple #[.agg #[.int .i64 0, .slice none 0 0], .int .i64 90]) ?_ rfl ?_
            · simp only [results, Tryz.results5]
              go_simp
            · refine .inr ⟨fun t bs' h => ?_, rfl, bF7⟩
              obtain ⟨_, q1, _, q3, q4, q5⟩ := HNo.out t bs' h
              rw [(HBQ.out (by trivial)).2] at hrq
              exact hrq q3
        · have hec' : (ec != 0) = true := by simpa using hec
          go_wp2
          refine bodyPost_ret (v := .tuple #[.agg #[.int .i64 0, .slice none 0 0], .int .i64 90]) ?_ rfl ?_
          · simp only [results, Tryz.results5]
            go_simp
          · refine .inr ⟨fun t bs' h => ?_, rfl, bF7⟩
            obtain ⟨_, q1, _, q3, q4, q5⟩ := HNo.out t bs' h
            exact hec q4
      · have her' : (er != 0) = true := by simpa using her
        go_wp2
        refine bodyPost_ret (v := .tuple #[.agg #[.int .i64 0, .slice none 0 0], .int .i64 90]) ?_ rfl ?_
        · simp only [results, Tryz.results5]
          go_simp
        · refine .inr ⟨fun t bs' h => ?_, rfl, bF7⟩
          obtain ⟨_, q1, _, q3, q4, q5⟩ := HNo.out t bs' h
          exact her q1
    · have hx1 : ¬ ((x.toNat : Int) = 69) := by
        intro h
        apply hx
        have : x.toNat = 69 := by omega
        exact UInt8.toNat_inj.1 this
      have hx2 : ((x.toNat : Int) != 69) = true := by simpa using hx1
      go_enter Tryz.func5, Tryz.ntmps5
      go_wp2
      refine bodyPost_ret (v := .tuple #[.agg #[.int .i64 0, .slice none 0 0], .int .i64 90]) ?_ rfl ?_
      · simp only [results, Tryz.results5]
        go_simp
      · refine .inr ⟨?_, rfl, bFR⟩
        rintro t bs ⟨L', rst', hl, _⟩
        simp at hl
        exact hx hl.1

end Go.Proofs.YtcdikkgkjjopmaaGreatDoor
