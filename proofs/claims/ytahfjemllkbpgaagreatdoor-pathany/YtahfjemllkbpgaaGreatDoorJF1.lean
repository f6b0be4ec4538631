/- What this text proves: the walk of path.Find over this program: the leaf that a way shows under a root's hash, and whether there is one. (By program: held.py, mkpafind.py.) What this text proves: the walk of annalsref10.SameItem over this program; path.Find told by letters; and the dichotomy of two ways under one hash. -/
import Derived.Test.YtahfjemllkbpgaaGreatDoorJPaTexts
import Derived.Test.YtahfjemllkbpgaaGreatDoorEqual
import Derived.Test.YtahfjemllkbpgaaGreatDoorJB2
namespace Go.Proofs.YtahfjemllkbpgaaGreatDoor
open Go.RowKit

/-- Whether a way is one under a root's hash. -/
def okW (size : Int) (rt id : List UInt8) (hs : List Hp) (x : Pt) : Bool := chkW size id hs x && (cutT size ((textsW size id hs x).headD []) == rt)
/-- Whether it shows the identity there. -/
def foundW (size : Int) (rt id : List UInt8) (hs : List Hp) (x : Pt) : Bool := okW size rt id hs x && shownB id x
/-- The leaf that is shown. -/
def itW (b : Bool) (x : Pt) : List UInt8 × List UInt8 × Int := if b then (x.id, x.key, x.si) else ([], [], 0)

theorem textsW_head (size : Int) (id : List UInt8) (hs : List Hp) (x : Pt) (h : chkW size id hs x = true) : ∃ T L, textsW size id hs x = T :: L ∧ T.length ≤ 1000 := by
  have hl := textsW_le size id hs x h
  unfold textsW
  rw [if_pos h]
  cases hu : upW size (keyF id) x hs with
  | nil => exact absurd hu (upW_ne _ _ _ _)
  | cons T L => exact ⟨T, L, rfl, hl T (by rw [hu]; simp)⟩

set_option maxRecDepth 100000 in
set_option maxHeartbeats 16000000 in
theorem find_any17 (size : Int) (rv iv hv : Value) (rt id : List UInt8) (hs : List Hp) (x : Pt) (pi pk pp pl pr pq : Option Addr) (ci ck cp cl cr cq : Nat) (w : World) (hrt : HB w rv rt) (hid : HB w iv id) (hh : HA w hv hs) (hi : HB w (.slice pi x.id.length ci) x.id) (hke : HB w (.slice pk x.key.length ck) x.key) (hp : HB w (.slice pp x.pre.length cp) x.pre) (hl : HB w (.slice pl x.l.length cl) x.l) (hr : HB w (.slice pr x.r.length cr) x.r)
    (hN : hs.length ≤ 1000) (hT : Tabs w) :
    Calls Tryz.prog 6 #[.int .i64 size, rv, iv, .agg #[hv, .int .i64 x.k, .slice pi x.id.length ci, .slice pk x.key.length ck, .int .i64 x.si, .int .i64 x.d, .slice pp x.pre.length cp, .int .i64 x.nw, .slice pl x.l.length cl, .slice pr x.r.length cr, .slice pq x.kids cq]] w fun y w' => ∃ pa ca pb cb, y = .returned (.tuple #[.agg #[.slice pa (itW (foundW size rt id hs x) x).1.length ca, .slice pb (itW (foundW size rt id hs x) x).2.1.length cb, .int .i64 (itW (foundW size rt id hs x) x).2.2], .bool (foundW size rt id hs x), .int .i64 (errW (okW size rt id hs x))]) ∧ HB w' (.slice pa (itW (foundW size rt id hs x) x).1.length ca) (itW (foundW size rt id hs x) x).1 ∧ HB w' (.slice pb (itW (foundW size rt id hs x) x).2.1.length cb) (itW (foundW size rt id hs x) x).2.1 ∧ Below w.heap.size w w' := by
  obtain ⟨pv, cv, rfl⟩ := hid.shape
  obtain ⟨ph, ch, rfl⟩ := hh.shape
  obtain ⟨prt, crt, rfl⟩ := hrt.shape
  have hC := fun W h1 h2 h3 h4 h5 h6 h7 h8 => texts_any17 size (.slice pv id.length cv) (.slice ph hs.length ch) id hs x pi pk pp pl pr pq ci ck cp cl cr cq W h1 h2 h3 h4 h5 h6 h7 hN h8
  have bA := (Below.refl w.heap.size w).alloc (Nat.le_refl _) (.cells #[.slice ph hs.length ch, .int .i64 x.k, .slice pi x.id.length ci, .slice pk x.key.length ck, .int .i64 x.si, .int .i64 x.d, .slice pp x.pre.length cp, .int .i64 x.nw, .slice pl x.l.length cl, .slice pr x.r.length cr, .slice pq x.kids cq] 28)
  have gA := heap_alloc_new w (.cells #[.slice ph hs.length ch, .int .i64 x.k, .slice pi x.id.length ci, .slice pk x.key.length ck, .int .i64 x.si, .int .i64 x.d, .slice pp x.pre.length cp, .int .i64 x.nw, .slice pl x.l.length cl, .slice pr x.r.length cr, .slice pq x.kids cq] 28)
  obtain ⟨V, hV⟩ : ∃ V, w.alloc (.cells #[.slice ph hs.length ch, .int .i64 x.k, .slice pi x.id.length ci, .slice pk x.key.length ck, .int .i64 x.si, .int .i64 x.d, .slice pp x.pre.length cp, .int .i64 x.nw, .slice pl x.l.length cl, .slice pr x.r.length cr, .slice pq x.kids cq] 28) = V := ⟨_, rfl⟩
  rw [hV] at bA gA
  have glt : w.heap.size < V.heap.size := (Array.getElem?_eq_some_iff.1 gA).1
  have bV2 : Below V.heap.size V (V.alloc (.cells #[.slice none 0 0, .slice none 0 0, .int .i64 0] 31)) := (Below.refl _ V).alloc (Nat.le_refl _) _
  have gZ := heap_alloc_new V (.cells #[.slice none 0 0, .slice none 0 0, .int .i64 0] 31)
  obtain ⟨V2, hV2⟩ : ∃ V2, V.alloc (.cells #[.slice none 0 0, .slice none 0 0, .int .i64 0] 31) = V2 := ⟨_, rfl⟩
  rw [hV2] at bV2 gZ
  have glt2 : V.heap.size < V2.heap.size := (Array.getElem?_eq_some_iff.1 gZ).1
  have bA2 := bA.trans (bV2.mono bA.size)
  have hrt2 := hrt.later bA2
  have hid2 := hid.later bA2
  have hh2 := hh.later bA2
  have hi2 := hi.later bA2
  have hk2 := hke.later bA2
  have hp2 := hp.later bA2
  have hl2 := hl.later bA2
  have hr2 := hr.later bA2
  have hT2 := hT.later bA2
  have hbox : ∀ W, Below V2.heap.size V2 W → W.heap[w.heap.size]? = some (.cells #[.slice ph hs.length ch, .int .i64 x.k, .slice pi x.id.length ci, .slice pk x.key.length ck, .int .i64 x.si, .int .i64 x.d, .slice pp x.pre.length cp, .int .i64 x.nw, .slice pl x.l.length cl, .slice pr x.r.length cr, .slice pq x.kids cq] 28 (0, 0)) := fun W hb => ((hb.block _ (by omega)).trans (bV2.block _ glt)).trans gA
  have hitb : ∀ W, Below V2.heap.size V2 W → W.heap[V.heap.size]? = some (.cells #[.slice none 0 0, .slice none 0 0, .int .i64 0] 31 (0, 0)) := fun W hb => (hb.block _ glt2).trans gZ
  have hit : ∀ W, Below V2.heap.size V2 W → W.cell? ⟨V.heap.size, 0, none⟩ = some (.slice none 0 0) ∧ W.cell? ⟨V.heap.size, 1, none⟩ = some (.slice none 0 0) ∧ W.cell? ⟨V.heap.size, 2, none⟩ = some (.int .i64 0) ∧ W.frozen? ⟨V.heap.size, 0, none⟩ = false ∧ W.frozen? ⟨V.heap.size, 1, none⟩ = false ∧ W.frozen? ⟨V.heap.size, 2, none⟩ = false := by
    intro W hb
    have g := hitb W hb
    exact ⟨by rw [cell_of_row _ _ _ _ _ _ g]; rfl, by rw [cell_of_row _ _ _ _ _ _ g]; rfl, by rw [cell_of_row _ _ _ _ _ _ g]; rfl, frozen_of_row _ _ _ _ _ g, frozen_of_row _ _ _ _ _ g, frozen_of_row _ _ _ _ _ g⟩
  have hbV : Below V2.heap.size V2 V2 := Below.refl _ _
  obtain ⟨q0, q1, q2, q3, q4, q5, q6, q7, q8, q9, q10⟩ := cells11 (hbox V2 hbV)
  clear hid hh hi hke hp hl hr hT hrt gA gZ
  cases hchk : chkW size id hs x with
  | false =>
    have HO : Hid (okW size rt id hs x = false) := by show _ = _; unfold okW; rw [hchk]; rfl
    have HF : Hid (foundW size rt id hs x = false) := by show _ = _; unfold foundW; rw [HO.out]; rfl
    have e : textsW size id hs x = [] := by unfold textsW; rw [hchk]; rfl
    rw [e] at hC
    clear e hchk
    obtain ⟨k, xid, key, si, d, pre, nw, l, r, n⟩ := x
    dsimp only at *
    generalize okW size rt id hs ⟨k, xid, key, si, d, pre, nw, l, r, n⟩ = OK at *
    generalize foundW size rt id hs ⟨k, xid, key, si, d, pre, nw, l, r, n⟩ = FD at *
    go_enter Tryz.func6, Tryz.ntmps6
    go_wp2_with fail
    refine (hC _ hid2 hh2 hi2 hk2 hp2 hl2 hr2 hT2).mono ?_
    rintro e w3 ⟨p3, c3, rfl, _, hb3⟩
    clear hC q0 q1 q2 q3 q4 q5 q6 q7 q8 q9 q10
    obtain ⟨y0, y1, y2, f0, f1, f2⟩ := hit w3 hb3
    have gI := hitb w3 hb3
    have hon : Only V.heap.size w3 (((w3.setCell ⟨V.heap.size, 0, none⟩ (.slice none 0 0)).setCell ⟨V.heap.size, 1, none⟩ (.slice none 0 0)).setCell ⟨V.heap.size, 2, none⟩ (.int .i64 0)) := (((Only.refl _ w3).setCell 0 _).setCell 1 _).setCell 2 _
    have HW : Below w.heap.size w (((w3.setCell ⟨V.heap.size, 0, none⟩ (.slice none 0 0)).setCell ⟨V.heap.size, 1, none⟩ (.slice none 0 0)).setCell ⟨V.heap.size, 2, none⟩ (.int .i64 0)) := bA.trans ((bV2.trans (hb3.mono bV2.size)).mono bA.size |>.trans (hon.below bA.size))
    have g1 := heap_setCell_same w3 V.heap.size 0 _ _ (.slice none 0 0) gI
    have g2 := heap_setCell_same _ V.heap.size 1 _ _ (.slice none 0 0) g1
    have g3 := heap_setCell_same _ V.heap.size 2 _ _ (.int .i64 0) g2
    clear hit hitb hbox hb3 hbV hon bA bV2 bA2 gI g1 g2
    go_wp2
    refine bodyPost_ret (v := .tuple #[.agg #[.slice none 0 0, .slice none 0 0, .int .i64 0], .bool false, .int .i64 95]) ?_ rfl ?_
    · simp only [results, Tryz.results6]
      go_simp
    · rw [HO.out, HF.out]
      exact ⟨none, 0, none, 0, rfl, HB.nil _, HB.nil _, HW⟩
  | true =>
    obtain ⟨T, L, hTL, hTn⟩ := textsW_head size id hs x hchk
    have HO : Hid (okW size rt id hs x = (cutT size T == rt)) := by show _ = _; unfold okW; rw [hchk, hTL]; rfl
    have HF0 : Hid (foundW size rt id hs x = (okW size rt id hs x && (decide (x.k = 1) && decide (x.id = id)))) := rfl
    rw [hTL] at hC
    have hsl := shaped_le (chkW_shaped hchk) (chkW_facts hchk).2.1
    have mi := hsl.1
    have mk := hsl.2.1
    clear hTL hchk hsl
    obtain ⟨k, xid, key, si, d, pre, nw, l, r, n⟩ := x
    dsimp only at *
    generalize okW size rt id hs ⟨k, xid, key, si, d, pre, nw, l, r, n⟩ = OK at *
    generalize foundW size rt id hs ⟨k, xid, key, si, d, pre, nw, l, r, n⟩ = FD at *
    go_enter Tryz.func6, Tryz.ntmps6
    go_wp2_with fail
    refine (hC _ hid2 hh2 hi2 hk2 hp2 hl2 hr2 hT2).mono ?_
    rintro e w3 ⟨p3, c3, rfl, hpa, hb3⟩
    clear hC q0 q1 q2 q3 q4 q5 q6 q7 q8 q9 q10 hbV
    obtain ⟨bl, bo, rfl⟩ := hpa.addr (by simp)
    obtain ⟨qT, kT, T', hT', cT, hbT⟩ := hpa.get 0 (by simp)
    obtain rfl : T = T' := by have := hT'.out; simpa using this
    have hn0 : (((T :: L).length : Int) == 0) = false := by simp; omega
    have hn1 : 0 < (T :: L).length := by simp
    obtain ⟨N, hNN⟩ : ∃ N, (T :: L).length = N := ⟨_, rfl⟩
    rw [hNN] at hn0 hn1
    rw [hNN]
    have cT' : w3.cell? ⟨bl, bo, none⟩ = some (.slice qT T.length kT) := by simpa using cT
    clear hpa hNN hT' cT
    have hCT := cutT_any size (.slice qT T.length kT) T w3 hbT (hT2.later hb3) (by omega)
    have hQ := fun W v h1 h2 => equal_any v (.slice prt rt.length crt) (cutT size T) rt W h1 h2
    generalize (cutT size T == rt) = BB at *
    generalize cutT size T = CT at *
    go_wp2_with fail
    refine hCT.mono ?_
    rintro e w4 ⟨p4, c4, rfl, k4, hb4', _⟩
    have hb4 := hb3.trans (hb4'.mono hb3.size)
    clear hCT hb4' hbT cT'
    go_wp2_with fail
    refine (hQ _ _ k4 (hrt2.later hb4)).mono ?_
    rintro e w5 ⟨rfl, hw5⟩
    rw [hw5]
    clear hw5 hQ k4 hb3
    have hb5 := hb4
    cases BB with
    | false =>
      have HF : Hid (FD = false) := by show _ = _; rw [HF0.out, HO.out]; rfl
      clear HF0
      obtain ⟨y0, y1, y2, f0, f1, f2⟩ := hit w4 hb4
      have gI := hitb w4 hb4
      have hon : Only V.heap.size w4 (((w4.setCell ⟨V.heap.size, 0, none⟩ (.slice none 0 0)).setCell ⟨V.heap.size, 1, none⟩ (.slice none 0 0)).setCell ⟨V.heap.size, 2, none⟩ (.int .i64 0)) := (((Only.refl _ w4).setCell 0 _).setCell 1 _).setCell 2 _
      have HW : Below w.heap.size w (((w4.setCell ⟨V.heap.size, 0, none⟩ (.slice none 0 0)).setCell ⟨V.heap.size, 1, none⟩ (.slice none 0 0)).setCell ⟨V.heap.size, 2, none⟩ (.int .i64 0)) := bA.trans ((bV2.trans (hb4.mono bV2.size)).mono bA.size |>.trans (hon.below bA.size))
      have g1 := heap_setCell_same w4 V.heap.size 0 _ _ (.slice none 0 0) gI
      have g2 := heap_setCell_same _ V.heap.size 1 _ _ (.slice none 0 0) g1
      have g3 := heap_setCell_same _ V.heap.size 2 _ _ (.int .i64 0) g2
      clear hit hitb hbox hb4 hb5 hon bA bV2 bA2 gI g1 g2
      go_wp2
      refine bodyPost_ret (v := .tuple #[.agg #[.slice none 0 0, .slice none 0 0, .int .i64 0], .bool false, .int .i64 95]) ?_ rfl ?_
      · simp only [results, Tryz.results6]
        go_simp
      · rw [HO.out, HF.out]
        exact ⟨none, 0, none, 0, rfl, HB.nil _, HB.nil _, HW⟩
    | true =>
      obtain ⟨q0, q1, q2, q3, q4, q5, q6, q7, q8, q9, q10⟩ := cells11 (hbox w4 hb4)
      by_cases hk1 : k = 1
      · have t1 : (k != 1) = false := by simpa using hk1
        have hQ2 := equal_any (.slice pi xid.length ci) (.slice pv id.length cv) xid id w4 (hi2.later hb4) (hid2.later hb4)
        have HF1 : Hid (FD = (xid == id)) := by
          show _ = _
          rw [HF0.out, HO.out]
          by_cases h : xid = id
          · simp [hk1, h]
          · simp [hk1, h]
        clear HF0
        by_cases hxi : xid = id
        · have HF : Hid (FD = true) := by show _ = _; rw [HF1.out, hxi]; simp
          have e : (xid == id) = true := by rw [hxi]; simp
          rw [e] at hQ2
          clear e HF1
          subst hxi
          go_wp2_with fail
          refine hQ2.mono ?_
          rintro e w5 ⟨rfl, hw5⟩
          rw [hw5]
          clear hw5 hQ2
          have hc4 : ∀ W, Below V2.heap.size V2 W → W.cell? ⟨w.heap.size, 2, none⟩ = some (.slice pi xid.length ci) ∧ W.cell? ⟨w.heap.size, 3, none⟩ = some (.slice pk key.length ck) ∧ W.cell? ⟨w.heap.size, 4, none⟩ = some (.int .i64 si) := by
            intro W hb
            have g := hbox W hb
            exact ⟨by rw [cell_of_row _ _ _ _ _ _ g]; rfl, by rw [cell_of_row _ _ _ _ _ _ g]; rfl, by rw [cell_of_row _ _ _ _ _ _ g]; rfl⟩
          have bD : Below w4.heap.size w4 w4.drew := (Below.refl _ w4).drew
          have hHeld := hc4 w4.drew (hb5.trans (bD.mono hb5.size))
          clear q0 q1 q2 q3 q4 q5 q6 q7 q8 q9 q10 t1
          go_wp2
          refine wp_region_heldN (by kernel_rfl) (fun W => W.cell? ⟨w.heap.size, 2, none⟩ = some (.slice pi xid.length ci) ∧ W.cell? ⟨w.heap.size, 3, none⟩ = some (.slice pk key.length ck) ∧ W.cell? ⟨w.heap.size, 4, none⟩ = some (.int .i64 si)) 15 rfl ?_
          refine tkY 0 ⟨some 43, .fieldAddr 28 (.tmp 7) 1, 0, "path.go:115", #[], none⟩ ?v0z1 hHeld ?y0z1 ?r0z1
          case y0z1 => (intro w hSw; (try dsimp only at hSw); go_simp) <;> with_reducible rfl
          try simp only [Act.put, List.setIfInBounds_toArray, List.set_cons_zero, List.set_cons_succ]
          refine tkY 1 ⟨some 44, .fieldAddr 26 (.tmp 43) 1, 0, "path.go:115", #[⟨0, .data⟩], none⟩ ?v1z2 hHeld ?y1z2 ?r1z2
          case y1z2 => (intro w hSw; (try dsimp only at hSw); go_simp) <;> with_reducible rfl
          try simp only [Act.put, List.setIfInBounds_toArray, List.set_cons_zero, List.set_cons_succ]
          refine tkY 2 ⟨some 45, .load 22 (.tmp 44), 22, "path.go:115", #[⟨1, .data⟩], none⟩ ?v2z3 hHeld ?y2z3 ?r2z3
          case y2z3 => (intro w hSw; (try dsimp only at hSw); go_simp) <;> with_reducible rfl
          try simp only [Act.put, List.setIfInBounds_toArray, List.set_cons_zero, List.set_cons_succ]
          refine tkY 4 ⟨some 47, .fieldAddr 28 (.tmp 7) 1, 0, "path.go:115", #[], none⟩ ?v4z4 hHeld ?y4z4 ?r4z4
          case y4z4 => (intro w hSw; (try dsimp only at hSw); go_simp) <;> with_reducible rfl
          try simp only [Act.put, List.setIfInBounds_toArray, List.set_cons_zero, List.set_cons_succ]
          refine tkY 5 ⟨some 48, .fieldAddr 26 (.tmp 47) 2, 0, "path.go:115", #[⟨4, .data⟩], none⟩ ?v5z5 hHeld ?y5z5 ?r5z5
          case y5z5 => (intro w hSw; (try dsimp only at hSw); go_simp) <;> with_reducible rfl
          try simp only [Act.put, List.setIfInBounds_toArray, List.set_cons_zero, List.set_cons_succ]
          refine tkY 6 ⟨some 49, .load 22 (.tmp 48), 22, "path.go:115", #[⟨5, .data⟩], none⟩ ?v6z6 hHeld ?y6z6 ?r6z6
          case y6z6 => (intro w hSw; (try dsimp only at hSw); go_simp) <;> with_reducible rfl
          try simp only [Act.put, List.setIfInBounds_toArray, List.set_cons_zero, List.set_cons_succ]
          refine tkY 8 ⟨some 51, .fieldAddr 28 (.tmp 7) 1, 0, "path.go:115", #[], none⟩ ?v8z7 hHeld ?y8z7 ?r8z7
          case y8z7 => (intro w hSw; (try dsimp only at hSw); go_simp) <;> with_reducible rfl
          try simp only [Act.put, List.setIfInBounds_toArray, List.set_cons_zero, List.set_cons_succ]
          refine tkY 9 ⟨some 52, .fieldAddr 26 (.tmp 51) 3, 0, "path.go:115", #[⟨8, .data⟩], none⟩ ?v9z8 hHeld ?y9z8 ?r9z8
          case y9z8 => (intro w hSw; (try dsimp only at hSw); go_simp) <;> with_reducible rfl
          try simp only [Act.put, List.setIfInBounds_toArray, List.set_cons_zero, List.set_cons_succ]
          refine tkY 10 ⟨some 53, .load 3 (.tmp 52), 3, "path.go:115", #[⟨9, .data⟩], none⟩ ?v10z9 hHeld ?y10z9 ?r10z9
          case y10z9 => (intro w hSw; (try dsimp only at hSw); go_simp) <;> with_reducible rfl
          try simp only [Act.put, List.setIfInBounds_toArray, List.set_cons_zero, List.set_cons_succ]
          refine wpAnyH_ready (rs := [3]) (by kernel_rfl) (by simp) ?_
          refine AllReadyH.cons (o := ⟨some 46, .call { callee := .value (.func 18), args := #[.tmp 45], argTypes := #[22] }, 22, "path.go:115", #[⟨2, .data⟩], none⟩) rfl (fun K hK => ?_) AllReadyH.nil
          go_simp
          refine (clone_own _ xid _ (hi2.later (hb5.trans (bD.mono hb5.size))) (by omega)).mono ?_
          rintro z w6 ⟨p6, c6, rfl, o6, hb6'⟩
          have hb6 := hb5.trans ((bD.trans (hb6'.mono bD.size)).mono hb5.size)
          replace hHeld := hc4 w6 hb6
          refine hK.out _ _ ?_ (fun _ => ?_)
          · exact hHeld
          clear hK K
          try simp only [Act.put, List.setIfInBounds_toArray, List.set_cons_zero, List.set_cons_succ]
          refine wpAnyH_ready (rs := [7]) (by kernel_rfl) (by simp) ?_
          refine AllReadyH.cons (o := ⟨some 50, .call { callee := .value (.func 18), args := #[.tmp 49], argTypes := #[22] }, 22, "path.go:115", #[⟨6, .data⟩, ⟨3, .chain⟩], none⟩) rfl (fun K hK => ?_) AllReadyH.nil
          go_simp
          refine (clone_own _ key _ (hk2.later hb6) (by omega)).mono ?_
          rintro z w7 ⟨p7, c7, rfl, o7, hb7'⟩
          have hb7 := hb6.trans (hb7'.mono hb6.size)
          have o6' := owns_later o6 hb7'
          obtain ⟨y0, y1, y2, f0, f1, f2⟩ := hit w7 hb7
          have gI := hitb w7 hb7
          replace hHeld := hc4 w7 hb7
          refine hK.out _ _ ?_ (fun _ => ?_)
          · exact hHeld
          clear hK K
          try simp only [Act.put, List.setIfInBounds_toArray, List.set_cons_zero, List.set_cons_succ]
          refine tkY 11 ⟨some 54, .build 31 #[(0, .tmp 46), (1, .tmp 50), (2, .tmp 53)], 31, "path.go:115", #[⟨3, .data⟩, ⟨7, .data⟩, ⟨10, .data⟩], none⟩ ?v11z10 hHeld ?y11z10 ?r11z10
          case y11z10 => (intro w hSw; (try dsimp only at hSw); go_simp) <;> with_reducible rfl
          try simp only [Act.put, List.setIfInBounds_toArray, List.set_cons_zero, List.set_cons_succ]
          refine wpAnyH_ready (rs := [12]) (by kernel_rfl) (by simp) ?_
          refine AllReadyH.cons (o := ⟨none, .store 31 (.tmp 8) (.tmp 54), 0, "path.go:115", #[⟨11, .data⟩, ⟨7, .chain⟩, ⟨0, .phase⟩, ⟨1, .phase⟩, ⟨2, .phase⟩, ⟨3, .phase⟩, ⟨4, .phase⟩, ⟨5, .phase⟩, ⟨6, .phase⟩, ⟨7, .phase⟩, ⟨8, .phase⟩, ⟨9, .phase⟩, ⟨10, .phase⟩, ⟨11, .phase⟩], none⟩) rfl (fun K hK => ?_) AllReadyH.nil
          go_simp
          have g1 := heap_setCell_same w7 V.heap.size 0 _ _ (.slice p6 xid.length c6) gI
          have g2 := heap_setCell_same _ V.heap.size 1 _ _ (.slice p7 key.length c7) g1
          have g3 := heap_setCell_same _ V.heap.size 2 _ _ (.int .i64 si) g2
          have hon : Only V.heap.size w7 (((w7.setCell ⟨V.heap.size, 0, none⟩ (.slice p6 xid.length c6)).setCell ⟨V.heap.size, 1, none⟩ (.slice p7 key.length c7)).setCell ⟨V.heap.size, 2, none⟩ (.int .i64 si)) := (((Only.refl _ w7).setCell 0 _).setCell 1 _).setCell 2 _
          have k6 := (HB.of_owns o6').aside (TB.of_owns o6') gI (by decide) hon
          have k7 := (HB.of_owns o7).aside (TB.of_owns o7) gI (by decide) hon
          have HW : Below w.heap.size w (((w7.setCell ⟨V.heap.size, 0, none⟩ (.slice p6 xid.length c6)).setCell ⟨V.heap.size, 1, none⟩ (.slice p7 key.length c7)).setCell ⟨V.heap.size, 2, none⟩ (.int .i64 si)) := bA.trans ((bV2.trans (hb7.mono bV2.size)).mono bA.size |>.trans (hon.below bA.size))
          have hHeld : (((w7.setCell ⟨V.heap.size, 0, none⟩ (.slice p6 xid.length c6)).setCell ⟨V.heap.size, 1, none⟩ (.slice p7 key.length c7)).setCell ⟨V.heap.size, 2, none⟩ (.int .i64 si)).cell? ⟨w.heap.size, 2, none⟩ = some (.slice pi xid.length ci) ∧ (((w7.setCell ⟨V.heap.size, 0, none⟩ (.slice p6 xid.length c6)).setCell ⟨V.heap.size, 1, none⟩ (.slice p7 key.length c7)).setCell ⟨V.heap.size, 2, none⟩ (.int .i64 si)).cell? ⟨w.heap.size, 3, none⟩ = some (.slice pk key.length ck) ∧ (((w7.setCell ⟨V.heap.size, 0, none⟩ (.slice p6 xid.length c6)).setCell ⟨V.heap.size, 1, none⟩ (.slice p7 key.length c7)).setCell ⟨V.heap.size, 2, none⟩ (.int .i64 si)).cell? ⟨w.heap.size, 4, none⟩ = some (.int .i64 si) := by
            have gb := (hon.block w.heap.size (by omega) (by have := hb7.size; have := bV2.size; omega)).trans (hbox w7 hb7)
            exact ⟨by rw [cell_of_row _ _ _ _ _ _ gb]; rfl, by rw [cell_of_row _ _ _ _ _ _ gb]; rfl, by rw [cell_of_row _ _ _ _ _ _ gb]; rfl⟩
          refine hK.out _ _ ?_ (fun _ => ?_)
          · exact hHeld
          clear hK K
          try simp only [Act.put, List.setIfInBounds_toArray, List.set_cons_zero, List.set_cons_succ]
          refine tkY 13 ⟨some 9, .assign (.const (.bool true)), 4, "path.go:115", #[⟨12, .chain⟩, ⟨0, .phase⟩, ⟨1, .phase⟩, ⟨2, .phase⟩, ⟨3, .phase⟩, ⟨4, .phase⟩, ⟨5, .phase⟩, ⟨6, .phase⟩, ⟨7, .phase⟩, ⟨8, .phase⟩, ⟨9, .phase⟩, ⟨10, .phase⟩, ⟨11, .phase⟩, ⟨12, .phase⟩], none⟩ ?v13z11 hHeld ?y13z11 ?r13z11
          case y13z11 => (intro w hSw; (try dsimp only at hSw); go_simp) <;> with_reducible rfl
          try simp only [Act.put, List.setIfInBounds_toArray, List.set_cons_zero, List.set_cons_succ]
          refine tkY 14 ⟨some 10, .assign (.const (.int .i64 0)), 32, "path.go:115", #[⟨13, .chain⟩, ⟨0, .phase⟩, ⟨1, .phase⟩, ⟨2, .phase⟩, ⟨3, .phase⟩, ⟨4, .phase⟩, ⟨5, .phase⟩, ⟨6, .phase⟩, ⟨7, .phase⟩, ⟨8, .phase⟩, ⟨9, .phase⟩, ⟨10, .phase⟩, ⟨11, .phase⟩, ⟨12, .phase⟩, ⟨13, .phase⟩], none⟩ ?v14z12 hHeld ?y14z12 ?r14z12
          case y14z12 => (intro w hSw; (try dsimp only at hSw); go_simp) <;> with_reducible rfl
          try simp only [Act.put, List.setIfInBounds_toArray, List.set_cons_zero, List.set_cons_succ]
          refine wpAnyH_done (by kernel_rfl) ?_ _
          obtain ⟨W9, hW9⟩ : ∃ W9, ((w7.setCell ⟨V.heap.size, 0, none⟩ (.slice p6 xid.length c6)).setCell ⟨V.heap.size, 1, none⟩ (.slice p7 key.length c7)).setCell ⟨V.heap.size, 2, none⟩ (.int .i64 si) = W9 := ⟨_, rfl⟩
          rw [hW9] at k6 k7 HW g3
          have r0 : W9.cell? ⟨V.heap.size, 0, none⟩ = some (.slice p6 xid.length c6) := by rw [cell_of_row _ _ _ _ _ _ g3]; rfl
          have r1 : W9.cell? ⟨V.heap.size, 1, none⟩ = some (.slice p7 key.length c7) := by rw [cell_of_row _ _ _ _ _ _ g3]; rfl
          have r2 : W9.cell? ⟨V.heap.size, 2, none⟩ = some (.int .i64 si) := by rw [cell_of_row _ _ _ _ _ _ g3]; rfl
          clear hHeld hc4 hon g1 g2 g3 y0 y1 y2 f0 f1 f2 gI o6 o6' o7 hb7 hb7' hb6 hb6' hb5 hit hitb hbox bD bA bV2
          go_wp2
          refine bodyPost_ret (v := .tuple #[.agg #[.slice p6 xid.length c6, .slice p7 key.length c7, .int .i64 si], .bool true, .int .i64 0]) ?_ rfl ?_
          · simp only [results, Tryz.results6]
            go_simp
          · rw [HO.out, HF.out]
            rw [hW9]
            exact ⟨_, _, _, _, rfl, k6, k7, HW⟩
        · have HF : Hid (FD = false) := by show _ = _; rw [HF1.out]; simpa using hxi
          have e : (xid == id) = false := by simpa using hxi
          rw [e] at hQ2
          clear e HF1
          go_wp2_with fail
          refine hQ2.mono ?_
          rintro e w5 ⟨rfl, hw5⟩
          rw [hw5]
          clear hw5 hQ2 q0 q1 q2 q3 q4 q5 q6 q7 q8 q9 q10 t1 hxi
          obtain ⟨y0, y1, y2, f0, f1, f2⟩ := hit w4 hb4
          have gI := hitb w4 hb4
          have hon : Only V.heap.size w4 (((w4.setCell ⟨V.heap.size, 0, none⟩ (.slice none 0 0)).setCell ⟨V.heap.size, 1, none⟩ (.slice none 0 0)).setCell ⟨V.heap.size, 2, none⟩ (.int .i64 0)) := (((Only.refl _ w4).setCell 0 _).setCell 1 _).setCell 2 _
          have HW : Below w.heap.size w (((w4.setCell ⟨V.heap.size, 0, none⟩ (.slice none 0 0)).setCell ⟨V.heap.size, 1, none⟩ (.slice none 0 0)).setCell ⟨V.heap.size, 2, none⟩ (.int .i64 0)) := bA.trans ((bV2.trans (hb4.mono bV2.size)).mono bA.size |>.trans (hon.below bA.size))
          have g1 := heap_setCell_same w4 V.heap.size 0 _ _ (.slice none 0 0) gI
          have g2 := heap_setCell_same _ V.heap.size 1 _ _ (.slice none 0 0) g1
          have g3 := heap_setCell_same _ V.heap.size 2 _ _ (.int .i64 0) g2
          clear hit hitb hbox hb4 hb5 hon bA bV2 bA2 gI g1 g2
          go_wp2
          refine bodyPost_ret (v := .tuple #[.agg #[.slice none 0 0, .slice none 0 0, .int .i64 0], .bool false, .int .i64 0]) ?_ rfl ?_
          · simp only [results, Tryz.results6]
            go_simp
          · rw [HO.out, HF.out]
            exact ⟨none, 0, none, 0, rfl, HB.nil _, HB.nil _, HW⟩
      · have t1 : (k != 1) = true := by simpa using hk1
        have HF : Hid (FD = false) := by show _ = _; rw [HF0.out, HO.out]; simp [hk1]
        clear HF0 q2 q3 q4 q5 q6 q7 q8 q9 q10
        obtain ⟨y0, y1, y2, f0, f1, f2⟩ := hit w4 hb4
        have gI := hitb w4 hb4
        have hon : Only V.heap.size w4 (((w4.setCell ⟨V.heap.size, 0, none⟩ (.slice none 0 0)).setCell ⟨V.heap.size, 1, none⟩ (.slice none 0 0)).setCell ⟨V.heap.size, 2, none⟩ (.int .i64 0)) := (((Only.refl _ w4).setCell 0 _).setCell 1 _).setCell 2 _
        have HW : Below w.heap.size w (((w4.setCell ⟨V.heap.size, 0, none⟩ (.slice none 0 0)).setCell ⟨V.heap.size, 1, none⟩ (.slice none 0 0)).setCell ⟨V.heap.size, 2, none⟩ (.int .i64 0)) := bA.trans ((bV2.trans (hb4.mono bV2.size)).mono bA.size |>.trans (hon.below bA.size))
        have g1 := heap_setCell_same w4 V.heap.size 0 _ _ (.slice none 0 0) gI
        have g2 := heap_setCell_same _ V.heap.size 1 _ _ (.slice none 0 0) g1
        have g3 := heap_setCell_same _ V.heap.size 2 _ _ (.int .i64 0) g2
        clear hit hitb hbox hb4 hb5 hon bA bV2 bA2 gI g1 g2
        go_wp2
        refine bodyPost_ret (v := .tuple #[.agg #[.slice none 0 0, .slice none 0 0, .int .i64 0], .bool false, .int .i64 0]) ?_ rfl ?_
        · simp only [results, Tryz.results6]
          go_simp
        · rw [HO.out, HF.out]
          exact ⟨none, 0, none, 0, rfl, HB.nil _, HB.nil _, HW⟩

end Go.Proofs.YtahfjemllkbpgaaGreatDoor

namespace Go.Proofs.YtahfjemllkbpgaaGreatDoor
open Go.RowKit

set_option maxRecDepth 100000 in
set_option maxHeartbeats 4000000 in
theorem sameItem_any (pa pb qa qb : Option Addr) (ca cb da db : Nat) (l1 l2 m1 m2 : List UInt8) (s t : Int) (w : World) (h1 : HB w (.slice pa l1.length ca) l1) (h2 : HB w (.slice pb l2.length cb) l2) (h3 : HB w (.slice qa m1.length da) m1) (h4 : HB w (.slice qb m2.length db) m2) :
    Calls Tryz.prog 8 #[.agg #[.slice pa l1.length ca, .slice pb l2.length cb, .int .i64 s], .agg #[.slice qa m1.length da, .slice qb m2.length db, .int .i64 t]] w fun e w' => e = .returned (.bool (decide ((l1, l2, s) = (m1, m2, t)))) ∧ Below w.heap.size w w' := by
  have bA := ((Below.refl w.heap.size w).alloc (Nat.le_refl _) (.cells #[.slice pa l1.length ca, .slice pb l2.length cb, .int .i64 s] 31)).alloc (by simp) (.cells #[.slice qa m1.length da, .slice qb m2.length db, .int .i64 t] 31)
  have k1 := (h1.later bA).str (P := Tryz.prog) 22 5 9 Tryz.underlying22 Tryz.underlying5 Tryz.underlying9
  have k2 := (h2.later bA).str (P := Tryz.prog) 22 5 9 Tryz.underlying22 Tryz.underlying5 Tryz.underlying9
  have k3 := (h3.later bA).str (P := Tryz.prog) 22 5 9 Tryz.underlying22 Tryz.underlying5 Tryz.underlying9
  have k4 := (h4.later bA).str (P := Tryz.prog) 22 5 9 Tryz.underlying22 Tryz.underlying5 Tryz.underlying9
  clear h1 h2 h3 h4
  by_cases e1 : l1 = m1
  · by_cases e2 : l2 = m2
    · by_cases e3 : s = t
      · rw [show decide ((l1, l2, s) = (m1, m2, t)) = true by simp [e1, e2, e3]]
        subst e1 e2 e3
        go_enter Tryz.func8, Tryz.ntmps8
        go_wp2
        go_ret
        exact ⟨by simp, bA⟩
      · rw [show decide ((l1, l2, s) = (m1, m2, t)) = false by simp [e3]]
        have n3 : (s == t) = false := by simpa using e3
        subst e1 e2
        go_enter Tryz.func8, Tryz.ntmps8
        go_wp2
        go_ret
        exact ⟨by simp, bA⟩
    · rw [show decide ((l1, l2, s) = (m1, m2, t)) = false by simp [e2]]
      have n2 : (l2 == m2) = false := by simpa using e2
      subst e1
      go_enter Tryz.func8, Tryz.ntmps8
      go_wp2
      go_ret
      exact ⟨by simp, bA⟩
  · rw [show decide ((l1, l2, s) = (m1, m2, t)) = false by simp [e1]]
    have n1 : (l1 == m1) = false := by simpa using e1
    go_enter Tryz.func8, Tryz.ntmps8
    go_wp2
    go_ret
    exact ⟨by simp, bA⟩

theorem one_dich (size : Int) (rt id : List UInt8) (hs gs : List Hp) (x y : Pt) (h1 : okW size rt id hs x = true) (h2 : okW size rt id gs y = true) :
    (foundW size rt id hs x = foundW size rt id gs y ∧ itW (foundW size rt id hs x) x = itW (foundW size rt id gs y) y) ∨ partsAt size (textsW size id hs x) (textsW size id gs y) := by
  have e1 : foundW size rt id hs x = shownB id x := by unfold foundW; rw [h1]; rfl
  have e2 : foundW size rt id gs y = shownB id y := by unfold foundW; rw [h2]; rfl
  unfold okW at h1 h2
  rw [Bool.and_eq_true, beq_iff_eq] at h1 h2
  rcases one_way size id hs gs x y h1.1 h2.1 (h1.2.trans h2.2.symm) with ⟨a, b⟩ | h
  · left
    rw [e1, e2]
    refine ⟨a, ?_⟩
    rw [← a]
    cases hb : shownB id x with
    | false => rfl
    | true =>
      obtain ⟨c, d⟩ := b hb
      have ha : x.id = id := by unfold shownB at hb; simp at hb; exact hb.2
      have hy : y.id = id := by rw [a] at hb; unfold shownB at hb; simp at hb; exact hb.2
      simp [itW, ha, hy, c, d]
  · exact Or.inr h

end Go.Proofs.YtahfjemllkbpgaaGreatDoor
