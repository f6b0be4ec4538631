/- What this text proves: the walk of the document's Find (annalsref17) over this program. (By program: held.py, mkrpafind.py.) -/
import Derived.Test.YtahfjemllkbpgaaGreatDoorJF1
import Derived.Test.YtahfjemllkbpgaaGreatDoorJRPaTexts
import Derived.Test.YtahfjemllkbpgaaGreatDoorJR2
import Derived.Test.YtahfjemllkbpgaaGreatDoorJA4
namespace Go.Proofs.YtahfjemllkbpgaaGreatDoor
open Go.RowKit

set_option maxRecDepth 100000 in
set_option maxHeartbeats 16000000 in
theorem rfind_any17 (size : Int) (rv iv hv : Value) (rt id : List UInt8) (hs : List Hp) (x : Pt) (pi pk pp pl pr pq : Option Addr) (ci ck cp cl cr cq : Nat) (w : World) (hrt : HB w rv rt) (hid : HB w iv id) (hh : HA w hv hs) (hi : HB w (.slice pi x.id.length ci) x.id) (hke : HB w (.slice pk x.key.length ck) x.key) (hp : HB w (.slice pp x.pre.length cp) x.pre) (hl : HB w (.slice pl x.l.length cl) x.l) (hr : HB w (.slice pr x.r.length cr) x.r)
    (hN : hs.length ≤ 1000) :
    Calls Tryz.prog 7 #[.int .i64 size, rv, iv, .agg #[hv, .int .i64 x.k, .slice pi x.id.length ci, .slice pk x.key.length ck, .int .i64 x.si, .int .i64 x.d, .slice pp x.pre.length cp, .int .i64 x.nw, .slice pl x.l.length cl, .slice pr x.r.length cr, .slice pq x.kids cq]] w fun y w' => ∃ pa ca pb cb, y = .returned (.tuple #[.agg #[.slice pa (itW (foundW size rt id hs x) x).1.length ca, .slice pb (itW (foundW size rt id hs x) x).2.1.length cb, .int .i64 (itW (foundW size rt id hs x) x).2.2], .bool (foundW size rt id hs x), .int .i64 (errW (okW size rt id hs x))]) ∧ HB w' (.slice pa (itW (foundW size rt id hs x) x).1.length ca) (itW (foundW size rt id hs x) x).1 ∧ HB w' (.slice pb (itW (foundW size rt id hs x) x).2.1.length cb) (itW (foundW size rt id hs x) x).2.1 ∧ Below w.heap.size w w' := by
  obtain ⟨pv, cv, rfl⟩ := hid.shape
  obtain ⟨ph, ch, rfl⟩ := hh.shape
  obtain ⟨prt, crt, rfl⟩ := hrt.shape
  have hC := fun W h1 h2 h3 h4 h5 h6 h7 => rtexts_any17 size (.slice pv id.length cv) (.slice ph hs.length ch) id hs x pi pk pp pl pr pq ci ck cp cl cr cq W h1 h2 h3 h4 h5 h6 h7 hN
  have bA := (Below.refl w.heap.size w).alloc (Nat.le_refl _) (.cells #[.slice ph hs.length ch, .int .i64 x.k, .slice pi x.id.length ci, .slice pk x.key.length ck, .int .i64 x.si, .int .i64 x.d, .slice pp x.pre.length cp, .int .i64 x.nw, .slice pl x.l.length cl, .slice pr x.r.length cr, .slice pq x.kids cq] 28)
  have gA := heap_alloc_new w (.cells #[.slice ph hs.length ch, .int .i64 x.k, .slice pi x.id.length ci, .slice pk x.key.length ck, .int .i64 x.si, .int .i64 x.d, .slice pp x.pre.length cp, .int .i64 x.nw, .slice pl x.l.length cl, .slice pr x.r.length cr, .slice pq x.kids cq] 28)
  obtain ⟨V, hV⟩ : ∃ V, w.alloc (.cells #[.slice ph hs.length ch, .int .i64 x.k, .slice pi x.id.length ci, .slice pk x.key.length ck, .int .i64 x.si, .int .i64 x.d, .slice pp x.pre.length cp, .int .i64 x.nw, .slice pl x.l.length cl, .slice pr x.r.length cr, .slice pq x.kids cq] 28) = V := ⟨_, rfl⟩
  rw [hV] at bA gA
  have glt : w.heap.size < V.heap.size := (Array.getElem?_eq_some_iff.1 gA).1
  have bV2 : Below V.heap.size V (V.alloc (.cells #[.slice none 0 0, .slice none 0 0, .int .i64 0] 31)) := (Below.refl _ V).alloc (Nat.le_refl _) _
  have gZ := heap_alloc_new V (.cells #[.slice none 0 0, .slice none 0 0, .int .i64 0] 31)
  obtain ⟨V2, hV2⟩ : ∃ V2, V.alloc (.cells #[.slice none 0 0, .slice none 0 0, .int .i64 0] 31) = V2 := ⟨_, rfl⟩
  rw [hV2] at bV2 gZ
  have glt2 : V.heap.size < V2.heap.size := (Array.getElem?_eq_some_iff.1 gZ).1
  have bA2 := bA.trans (bV2.mono bA.size)
  have hrt2 := hrt.later bA2
  have hid2 := hid.later bA2
  have hh2 := hh.later bA2
  have hi2 := hi.later bA2
  have hk2 := hke.later bA2
  have hp2 := hp.later bA2
  have hl2 := hl.later bA2
  have hr2 := hr.later bA2
  have hbox : ∀ W, Below V2.heap.size V2 W → W.heap[w.heap.size]? = some (.cells #[.slice ph hs.length ch, .int .i64 x.k, .slice pi x.id.length ci, .slice pk x.key.length ck, .int .i64 x.si, .int .i64 x.d, .slice pp x.pre.length cp, .int .i64 x.nw, .slice pl x.l.length cl, .slice pr x.r.length cr, .slice pq x.kids cq] 28 (0, 0)) := fun W hb => ((hb.block _ (by omega)).trans (bV2.block _ glt)).trans gA
  have hitb : ∀ W, Below V2.heap.size V2 W → W.heap[V.heap.size]? = some (.cells #[.slice none 0 0, .slice none 0 0, .int .i64 0] 31 (0, 0)) := fun W hb => (hb.block _ glt2).trans gZ
  have hit : ∀ W, Below V2.heap.size V2 W → W.cell? ⟨V.heap.size, 0, none⟩ = some (.slice none 0 0) ∧ W.cell? ⟨V.heap.size, 1, none⟩ = some (.slice none 0 0) ∧ W.cell? ⟨V.heap.size, 2, none⟩ = some (.int .i64 0) ∧ W.frozen? ⟨V.heap.size, 0, none⟩ = false ∧ W.frozen? ⟨V.heap.size, 1, none⟩ = false ∧ W.frozen? ⟨V.heap.size, 2, none⟩ = false := by
    intro W hb
    have g := hitb W hb
    exact ⟨by rw [cell_of_row _ _ _ _ _ _ g]; rfl, by rw [cell_of_row _ _ _ _ _ _ g]; rfl, by rw [cell_of_row _ _ _ _ _ _ g]; rfl, frozen_of_row _ _ _ _ _ g, frozen_of_row _ _ _ _ _ g, frozen_of_row _ _ _ _ _ g⟩
  have hbV : Below V2.heap.size V2 V2 := Below.refl _ _
  obtain ⟨q0, q1, q2, q3, q4, q5, q6, q7, q8, q9, q10⟩ := cells11 (hbox V2 hbV)
  clear hid hh hi hke hp hl hr hrt gA gZ
  cases hchk : chkW size id hs x with
  | false =>
    have HO : Hid (okW size rt id hs x = false) := by show _ = _; unfold okW; rw [hchk]; rfl
    have HF : Hid (foundW size rt id hs x = false) := by show _ = _; unfold foundW; rw [HO.out]; rfl
    have e : textsW size id hs x = [] := by unfold textsW; rw [hchk]; rfl
    rw [e] at hC
    clear e hchk
    obtain ⟨k, xid, key, si, d, pre, nw, l, r, n⟩ := x
    dsimp only at *
    generalize okW size rt id hs ⟨k, xid, key, si, d, pre, nw, l, r, n⟩ = OK at *
    generalize foundW size rt id hs ⟨k, xid, key, si, d, pre, nw, l, r, n⟩ = FD at *
    go_enter Tryz.func7, Tryz.ntmps7
    go_wp2_with fail
    refine (hC _ hid2 hh2 hi2 hk2 hp2 hl2 hr2).mono ?_
    rintro e w3 ⟨p3, c3, rfl, _, hb3⟩
    clear hC q0 q1 q2 q3 q4 q5 q6 q7 q8 q9 q10
    have hHeld : True := trivial
    go_wp2
    refine wp_region_heldN (by kernel_rfl) (fun _ => True) 14 rfl ?_
    refine tkY 0 ⟨some 16, .move (.tmp 11), 38, "ref.go:144", #[], none⟩ ?v0z1 hHeld ?y0z1 ?r0z1
    case y0z1 => (intro w hSw; (try dsimp only at hSw); go_simp) <;> with_reducible rfl
    try simp only [Act.put, List.setIfInBounds_toArray, List.set_cons_zero, List.set_cons_succ]
    refine tkY 1 ⟨some 17, .call { callee := .builtin .len, args := #[.tmp 16], argTypes := #[38] }, 3, "ref.go:144", #[⟨0, .data⟩], none⟩ ?v1z2 hHeld ?y1z2 ?r1z2
    case y1z2 => (intro w hSw; (try dsimp only at hSw); go_simp) <;> with_reducible rfl
    try simp only [Act.put, List.setIfInBounds_toArray, List.set_cons_zero, List.set_cons_succ]
    refine tkY 2 ⟨some 18, .binOp .eql 3 (.tmp 17) (.const (.int .i64 0)) 3, 4, "ref.go:144", #[⟨1, .data⟩], none⟩ ?v2z3 hHeld ?y2z3 ?r2z3
    case y2z3 => (intro w hSw; (try dsimp only at hSw); go_simp) <;> with_reducible rfl
    try simp only [Act.put, List.setIfInBounds_toArray, List.set_cons_zero, List.set_cons_succ]
    refine tkY 3 ⟨some 19, .move (.tmp 18), 4, "ref.go:144", #[⟨2, .data⟩], none⟩ ?v3z4 hHeld ?y3z4 ?r3z4
    case y3z4 => (intro w hSw; (try dsimp only at hSw); go_simp) <;> with_reducible rfl
    try simp only [Act.put, List.setIfInBounds_toArray, List.set_cons_zero, List.set_cons_succ]
    refine tkN 4 ⟨some 20, .move (.tmp 0), 3, "ref.go:144", #[⟨3, .guard⟩], some (3, false)⟩ hHeld ?_
    try simp only [Act.put, List.setIfInBounds_toArray, List.set_cons_zero, List.set_cons_succ]
    refine tkN 5 ⟨some 21, .move (.tmp 11), 38, "ref.go:144", #[⟨3, .guard⟩], some (3, false)⟩ hHeld ?_
    try simp only [Act.put, List.setIfInBounds_toArray, List.set_cons_zero, List.set_cons_succ]
    refine tkN 6 ⟨some 22, .indexAddr 38 (.tmp 21) (.const (.int .i64 0)), 0, "ref.go:144", #[⟨5, .data⟩, ⟨3, .guard⟩], some (3, false)⟩ hHeld ?_
    try simp only [Act.put, List.setIfInBounds_toArray, List.set_cons_zero, List.set_cons_succ]
    refine tkN 7 ⟨some 23, .load 22 (.tmp 22), 22, "ref.go:144", #[⟨6, .data⟩, ⟨3, .guard⟩], some (3, false)⟩ hHeld ?_
    try simp only [Act.put, List.setIfInBounds_toArray, List.set_cons_zero, List.set_cons_succ]
    refine tkN 8 ⟨some 24, .call { callee := .value (.func 19), args := #[.tmp 20, .tmp 23], argTypes := #[3, 22] }, 22, "ref.go:144", #[⟨4, .data⟩, ⟨7, .data⟩, ⟨3, .chain⟩, ⟨3, .guard⟩], some (3, false)⟩ hHeld ?_
    try simp only [Act.put, List.setIfInBounds_toArray, List.set_cons_zero, List.set_cons_succ]
    refine tkN 9 ⟨some 25, .convert 22 9 (.tmp 24), 9, "ref.go:144", #[⟨8, .data⟩, ⟨3, .guard⟩], some (3, false)⟩ hHeld ?_
    try simp only [Act.put, List.setIfInBounds_toArray, List.set_cons_zero, List.set_cons_succ]
    refine tkN 10 ⟨some 26, .move (.tmp 1), 22, "ref.go:144", #[⟨3, .guard⟩], some (3, false)⟩ hHeld ?_
    try simp only [Act.put, List.setIfInBounds_toArray, List.set_cons_zero, List.set_cons_succ]
    refine tkN 11 ⟨some 27, .convert 22 9 (.tmp 26), 9, "ref.go:144", #[⟨10, .data⟩, ⟨3, .guard⟩], some (3, false)⟩ hHeld ?_
    try simp only [Act.put, List.setIfInBounds_toArray, List.set_cons_zero, List.set_cons_succ]
    refine tkN 12 ⟨some 28, .binOp .neq 9 (.tmp 25) (.tmp 27) 9, 4, "ref.go:144", #[⟨9, .data⟩, ⟨11, .data⟩, ⟨3, .guard⟩], some (3, false)⟩ hHeld ?_
    try simp only [Act.put, List.setIfInBounds_toArray, List.set_cons_zero, List.set_cons_succ]
    refine tkY 13 ⟨some 29, .pick (.tmp 19) (.const (.bool true)) (.tmp 28), 4, "ref.go:144", #[⟨3, .data⟩, ⟨12, .data⟩], none⟩ ?v13z5 hHeld ?y13z5 ?r13z5
    case y13z5 => (intro w hSw; (try dsimp only at hSw); go_simp) <;> with_reducible rfl
    try simp only [Act.put, List.setIfInBounds_toArray, List.set_cons_zero, List.set_cons_succ]
    refine wpAnyH_done (by kernel_rfl) ?_ _
    clear hHeld
    obtain ⟨y0, y1, y2, f0, f1, f2⟩ := hit w3 hb3
    have gI := hitb w3 hb3
    have hon : Only V.heap.size w3 (((w3.setCell ⟨V.heap.size, 0, none⟩ (.slice none 0 0)).setCell ⟨V.heap.size, 1, none⟩ (.slice none 0 0)).setCell ⟨V.heap.size, 2, none⟩ (.int .i64 0)) := (((Only.refl _ w3).setCell 0 _).setCell 1 _).setCell 2 _
    have HW : Below w.heap.size w (((w3.setCell ⟨V.heap.size, 0, none⟩ (.slice none 0 0)).setCell ⟨V.heap.size, 1, none⟩ (.slice none 0 0)).setCell ⟨V.heap.size, 2, none⟩ (.int .i64 0)) := bA.trans ((bV2.trans (hb3.mono bV2.size)).mono bA.size |>.trans (hon.below bA.size))
    have g1 := heap_setCell_same w3 V.heap.size 0 _ _ (.slice none 0 0) gI
    have g2 := heap_setCell_same _ V.heap.size 1 _ _ (.slice none 0 0) g1
    have g3 := heap_setCell_same _ V.heap.size 2 _ _ (.int .i64 0) g2
    clear hit hitb hbox hb3 hbV hon bA bV2 bA2 gI g1 g2
    go_wp2
    refine bodyPost_ret (v := .tuple #[.agg #[.slice none 0 0, .slice none 0 0, .int .i64 0], .bool false, .int .i64 95]) ?_ rfl ?_
    · simp only [results, Tryz.results7]
      go_simp
    · rw [HO.out, HF.out]
      exact ⟨none, 0, none, 0, rfl, HB.nil _, HB.nil _, by first | exact HW | exact HW.drew⟩
  | true =>
    obtain ⟨T, L, hTL, hTn⟩ := textsW_head size id hs x hchk
    have HO : Hid (okW size rt id hs x = (cutT size T == rt)) := by show _ = _; unfold okW; rw [hchk, hTL]; rfl
    have HF0 : Hid (foundW size rt id hs x = (okW size rt id hs x && (decide (x.k = 1) && decide (x.id = id)))) := rfl
    rw [hTL] at hC
    have hsl := shaped_le (chkW_shaped hchk) (chkW_facts hchk).2.1
    have mi := hsl.1
    have mk := hsl.2.1
    clear hTL hchk hsl
    obtain ⟨k, xid, key, si, d, pre, nw, l, r, n⟩ := x
    dsimp only at *
    generalize okW size rt id hs ⟨k, xid, key, si, d, pre, nw, l, r, n⟩ = OK at *
    generalize foundW size rt id hs ⟨k, xid, key, si, d, pre, nw, l, r, n⟩ = FD at *
    go_enter Tryz.func7, Tryz.ntmps7
    go_wp2_with fail
    refine (hC _ hid2 hh2 hi2 hk2 hp2 hl2 hr2).mono ?_
    rintro e w3 ⟨p3, c3, rfl, hpa, hb3⟩
    clear hC q0 q1 q2 q3 q4 q5 q6 q7 q8 q9 q10 hbV
    obtain ⟨bl, bo, rfl⟩ := hpa.addr (by simp)
    obtain ⟨qT, kT, T', hT', cT, hbT⟩ := hpa.get 0 (by simp)
    obtain rfl : T = T' := by have := hT'.out; simpa using this
    have hn0 : (((T :: L).length : Int) == 0) = false := by simp; omega
    have hn1 : 0 < (T :: L).length := by simp
    obtain ⟨N, hNN⟩ : ∃ N, (T :: L).length = N := ⟨_, rfl⟩
    rw [hNN] at hn0 hn1
    rw [hNN]
    have cT' : w3.cell? ⟨bl, bo, none⟩ = some (.slice qT T.length kT) := by simpa using cT
    clear hpa hNN hT' cT
    have bD : Below w3.heap.size w3 w3.drew := (Below.refl _ w3).drew
    have hCT := fun W h1 => rcutT_any size (.slice qT T.length kT) T W h1 (by omega)
    generalize cutT size T = CT at *
    have hHeld : w3.drew.cell? ⟨bl, bo, none⟩ = some (.slice qT T.length kT) ∧ HB w3.drew (.slice prt rt.length crt) rt := ⟨cell_later bD cT', (hrt2.later hb3).later bD⟩
    go_wp2
    refine wp_region_heldN (by kernel_rfl) (fun W => W.cell? ⟨bl, bo, none⟩ = some (.slice qT T.length kT) ∧ HB W (.slice prt rt.length crt) rt) 14 rfl ?_
    refine tkY 0 ⟨some 16, .move (.tmp 11), 38, "ref.go:144", #[], none⟩ ?v0z6 hHeld ?y0z6 ?r0z6
    case y0z6 => (intro w hSw; (try dsimp only at hSw); go_simp) <;> with_reducible rfl
    try simp only [Act.put, List.setIfInBounds_toArray, List.set_cons_zero, List.set_cons_succ]
    refine tkY 1 ⟨some 17, .call { callee := .builtin .len, args := #[.tmp 16], argTypes := #[38] }, 3, "ref.go:144", #[⟨0, .data⟩], none⟩ ?v1z7 hHeld ?y1z7 ?r1z7
    case y1z7 => (intro w hSw; (try dsimp only at hSw); go_simp) <;> with_reducible rfl
    try simp only [Act.put, List.setIfInBounds_toArray, List.set_cons_zero, List.set_cons_succ]
    refine tkY 2 ⟨some 18, .binOp .eql 3 (.tmp 17) (.const (.int .i64 0)) 3, 4, "ref.go:144", #[⟨1, .data⟩], none⟩ ?v2z8 hHeld ?y2z8 ?r2z8
    case y2z8 => (intro w hSw; (try dsimp only at hSw); go_simp) <;> with_reducible rfl
    try simp only [Act.put, List.setIfInBounds_toArray, List.set_cons_zero, List.set_cons_succ]
    refine tkY 3 ⟨some 19, .move (.tmp 18), 4, "ref.go:144", #[⟨2, .data⟩], none⟩ ?v3z9 hHeld ?y3z9 ?r3z9
    case y3z9 => (intro w hSw; (try dsimp only at hSw); go_simp) <;> with_reducible rfl
    try simp only [Act.put, List.setIfInBounds_toArray, List.set_cons_zero, List.set_cons_succ]
    refine tkY 4 ⟨some 20, .move (.tmp 0), 3, "ref.go:144", #[⟨3, .guard⟩], some (3, false)⟩ ?v4z10 hHeld ?y4z10 ?r4z10
    case y4z10 => (intro w hSw; (try dsimp only at hSw); go_simp) <;> with_reducible rfl
    try simp only [Act.put, List.setIfInBounds_toArray, List.set_cons_zero, List.set_cons_succ]
    refine tkY 5 ⟨some 21, .move (.tmp 11), 38, "ref.go:144", #[⟨3, .guard⟩], some (3, false)⟩ ?v5z11 hHeld ?y5z11 ?r5z11
    case y5z11 => (intro w hSw; (try dsimp only at hSw); go_simp) <;> with_reducible rfl
    try simp only [Act.put, List.setIfInBounds_toArray, List.set_cons_zero, List.set_cons_succ]
    refine tkY 6 ⟨some 22, .indexAddr 38 (.tmp 21) (.const (.int .i64 0)), 0, "ref.go:144", #[⟨5, .data⟩, ⟨3, .guard⟩], some (3, false)⟩ ?v6z12 hHeld ?y6z12 ?r6z12
    case y6z12 => (intro w hSw; (try dsimp only at hSw); go_simp) <;> with_reducible rfl
    try simp only [Act.put, List.setIfInBounds_toArray, List.set_cons_zero, List.set_cons_succ]
    refine tkY 7 ⟨some 23, .load 22 (.tmp 22), 22, "ref.go:144", #[⟨6, .data⟩, ⟨3, .guard⟩], some (3, false)⟩ ?v7z13 hHeld ?y7z13 ?r7z13
    case y7z13 => (intro w hSw; (try dsimp only at hSw); go_simp) <;> with_reducible rfl
    try simp only [Act.put, List.setIfInBounds_toArray, List.set_cons_zero, List.set_cons_succ]
    refine tkY 10 ⟨some 26, .move (.tmp 1), 22, "ref.go:144", #[⟨3, .guard⟩], some (3, false)⟩ ?v10z14 hHeld ?y10z14 ?r10z14
    case y10z14 => (intro w hSw; (try dsimp only at hSw); go_simp) <;> with_reducible rfl
    try simp only [Act.put, List.setIfInBounds_toArray, List.set_cons_zero, List.set_cons_succ]
    refine tkY 11 ⟨some 27, .convert 22 9 (.tmp 26), 9, "ref.go:144", #[⟨10, .data⟩, ⟨3, .guard⟩], some (3, false)⟩ ?v11z15 hHeld ?y11z15 ?r11z15
    case y11z15 => (intro w hSw; (try dsimp only at hSw); obtain ⟨_, qq⟩ := hSw; have qs := qq.str (P := Tryz.prog) 22 5 9 Tryz.underlying22 Tryz.underlying5 Tryz.underlying9; go_simp) <;> with_reducible rfl
    try simp only [Act.put, List.setIfInBounds_toArray, List.set_cons_zero, List.set_cons_succ]
    refine wpAnyH_ready (rs := [8]) (by kernel_rfl) (by simp) ?_
    refine AllReadyH.cons (o := ⟨some 24, .call { callee := .value (.func 19), args := #[.tmp 20, .tmp 23], argTypes := #[3, 22] }, 22, "ref.go:144", #[⟨4, .data⟩, ⟨7, .data⟩, ⟨3, .chain⟩, ⟨3, .guard⟩], some (3, false)⟩) rfl (fun K hK => ?_) AllReadyH.nil
    go_simp
    refine (hCT _ (hbT.later bD)).mono ?_
    rintro z w4 ⟨p4, c4, rfl, k4, hb4', t4⟩
    have b34 := bD.trans (hb4'.mono bD.size)
    have hb4 := hb3.trans (b34.mono hb3.size)
    have hHeld : w4.cell? ⟨bl, bo, none⟩ = some (.slice qT T.length kT) ∧ HB w4 (.slice prt rt.length crt) rt := ⟨cell_later b34 cT', (hrt2.later hb3).later b34⟩
    have qs4 := k4.str (P := Tryz.prog) 22 5 9 Tryz.underlying22 Tryz.underlying5 Tryz.underlying9
    refine hK.out _ _ ?_ (fun _ => ?_)
    · exact hHeld
    clear hK K
    try simp only [Act.put, List.setIfInBounds_toArray, List.set_cons_zero, List.set_cons_succ]
    refine wpAnyH_ready (rs := [9]) (by kernel_rfl) (by simp) ?_
    refine AllReadyH.cons (o := ⟨some 25, .convert 22 9 (.tmp 24), 9, "ref.go:144", #[⟨8, .data⟩, ⟨3, .guard⟩], some (3, false)⟩) rfl (fun K hK => ?_) AllReadyH.nil
    go_simp
    refine hK.out _ _ ?_ (fun _ => ?_)
    · exact hHeld
    clear hK K
    try simp only [Act.put, List.setIfInBounds_toArray, List.set_cons_zero, List.set_cons_succ]
    by_cases hc12 : CT = rt
    · have n1 : (CT != rt) = false := by simpa using hc12
      have n2 : decide (CT = rt) = true := by simpa using hc12
      have n3 : (CT == rt) = true := by simpa using hc12
      refine tkY 12 ⟨some 28, .binOp .neq 9 (.tmp 25) (.tmp 27) 9, 4, "ref.go:144", #[⟨9, .data⟩, ⟨11, .data⟩, ⟨3, .guard⟩], some (3, false)⟩ ?v12z16 hHeld ?y12z16 ?r12z16
      case y12z16 => (intro w hSw; (try dsimp only at hSw); go_simp) <;> with_reducible rfl
      try simp only [Act.put, List.setIfInBounds_toArray, List.set_cons_zero, List.set_cons_succ]
      refine tkY 13 ⟨some 29, .pick (.tmp 19) (.const (.bool true)) (.tmp 28), 4, "ref.go:144", #[⟨3, .data⟩, ⟨12, .data⟩], none⟩ ?v13z17 hHeld ?y13z17 ?r13z17
      case y13z17 => (intro w hSw; (try dsimp only at hSw); go_simp) <;> with_reducible rfl
      try simp only [Act.put, List.setIfInBounds_toArray, List.set_cons_zero, List.set_cons_succ]
      refine wpAnyH_done (by kernel_rfl) ?_ _
      clear hHeld qs4 hb4' b34 k4 t4 hbT cT' bD hCT
      have HO' : Hid (OK = true) := by show _ = _; rw [HO.out]; exact n3
      clear HO
      have HO := HO'
      clear HO' n1 n2 n3
      obtain ⟨q0, q1, q2, q3, q4, q5, q6, q7, q8, q9, q10⟩ := cells11 (hbox w4 hb4)
      by_cases hk1 : k = 1
      · have t1 : (k != 1) = false := by simpa using hk1
        have s1 := (hi2.later hb4).str (P := Tryz.prog) 22 5 9 Tryz.underlying22 Tryz.underlying5 Tryz.underlying9
        have s2 := (hid2.later hb4).str (P := Tryz.prog) 22 5 9 Tryz.underlying22 Tryz.underlying5 Tryz.underlying9
        have HF1 : Hid (FD = decide (xid = id)) := by
          show _ = _
          rw [HF0.out, HO.out]
          simp [hk1]
        clear HF0
        by_cases hxi : xid = id
        · have HF : Hid (FD = true) := by show _ = _; rw [HF1.out, hxi]; simp
          clear HF1
          subst hxi
          have hc4 : ∀ W, Below V2.heap.size V2 W → W.cell? ⟨w.heap.size, 2, none⟩ = some (.slice pi xid.length ci) ∧ W.cell? ⟨w.heap.size, 3, none⟩ = some (.slice pk key.length ck) ∧ W.cell? ⟨w.heap.size, 4, none⟩ = some (.int .i64 si) := by
            intro W hb
            have g := hbox W hb
            exact ⟨by rw [cell_of_row _ _ _ _ _ _ g]; rfl, by rw [cell_of_row _ _ _ _ _ _ g]; rfl, by rw [cell_of_row _ _ _ _ _ _ g]; rfl⟩
          have hst : ∀ (W : World) (a b c : Value), Below V2.heap.size V2 W → (((W.setCell ⟨V.heap.size, 0, none⟩ a).setCell ⟨V.heap.size, 1, none⟩ b).setCell ⟨V.heap.size, 2, none⟩ c).cell? ⟨w.heap.size, 2, none⟩ = some (.slice pi xid.length ci) ∧ (((W.setCell ⟨V.heap.size, 0, none⟩ a).setCell ⟨V.heap.size, 1, none⟩ b).setCell ⟨V.heap.size, 2, none⟩ c).cell? ⟨w.heap.size, 3, none⟩ = some (.slice pk key.length ck) ∧ (((W.setCell ⟨V.heap.size, 0, none⟩ a).setCell ⟨V.heap.size, 1, none⟩ b).setCell ⟨V.heap.size, 2, none⟩ c).cell? ⟨w.heap.size, 4, none⟩ = some (.int .i64 si) := by
            intro W a b c hb
            have hon : Only V.heap.size W (((W.setCell ⟨V.heap.size, 0, none⟩ a).setCell ⟨V.heap.size, 1, none⟩ b).setCell ⟨V.heap.size, 2, none⟩ c) := (((Only.refl _ W).setCell 0 _).setCell 1 _).setCell 2 _
            have gb := (hon.block w.heap.size (by omega) (by have := hb.size; have := bV2.size; omega)).trans (hbox W hb)
            exact ⟨by rw [cell_of_row _ _ _ _ _ _ gb]; rfl, by rw [cell_of_row _ _ _ _ _ _ gb]; rfl, by rw [cell_of_row _ _ _ _ _ _ gb]; rfl⟩
          have hd : Below w4.heap.size w4 w4.drew := (Below.refl _ w4).drew
          have bE := (Below.refl _ w4).alloc (Nat.le_refl _) (.cells #[] 5)
          have bEd : Below w4.heap.size w4 (w4.alloc (.cells #[] 5)).drew := bE.drew
          have bEE := bE.alloc bE.size (.cells #[] 5)
          have bEEd : Below w4.heap.size w4 ((w4.alloc (.cells #[] 5)).alloc (.cells #[] 5)).drew := bEE.drew
          have gE := heap_alloc_new w4 (.cells #[] 5)
          have gEE1 : ((w4.alloc (.cells #[] 5)).alloc (.cells #[] 5)).heap[w4.heap.size + 1]? = some (.cells #[] 5 (0, 0)) := by
            have := heap_alloc_new (w4.alloc (.cells #[] 5)) (.cells #[] 5)
            simpa using this
          have gEE0 : ((w4.alloc (.cells #[] 5)).alloc (.cells #[] 5)).heap[w4.heap.size]? = some (.cells #[] 5 (0, 0)) := by
            rw [Below.heap_alloc _ _ _ (by simp)]
            exact gE
          have oE : (w4.alloc (.cells #[] 5)).drew.ownsRow w4.heap.size 5 1 (.slice (some ⟨w4.heap.size, 0, none⟩) 0 0) 0 [] := owns_empty (Nat.le_refl _) gE
          have oEE0 : ((w4.alloc (.cells #[] 5)).alloc (.cells #[] 5)).drew.ownsRow w4.heap.size 5 1 (.slice (some ⟨w4.heap.size, 0, none⟩) 0 0) 0 [] := owns_empty (Nat.le_refl _) gEE0
          have oEE1 : ((w4.alloc (.cells #[] 5)).alloc (.cells #[] 5)).drew.ownsRow w4.heap.size 5 1 (.slice (some ⟨w4.heap.size + 1, 0, none⟩) 0 0) 0 [] := owns_empty (Nat.le_succ _) gEE1
          have hid4 := hid2.later hb4
          have hk4 := hk2.later hb4
          have hid1 := hid4.later bEd
          have hid2e := hid4.later bEEd
          have szEE : ((w4.alloc (.cells #[] 5)).alloc (.cells #[] 5)).drew.heap.size = w4.heap.size + 1 + 1 := by simp
          have hid0 := hid4
          go_wp2
          go_region_held3 (fun W' => W'.cell? ⟨w.heap.size, 2, none⟩ = some (.slice pi xid.length ci) ∧ W'.cell? ⟨w.heap.size, 3, none⟩ = some (.slice pk key.length ck) ∧ W'.cell? ⟨w.heap.size, 4, none⟩ = some (.int .i64 si)) (first | exact hc4 _ hb4 | exact hc4 _ (hb4.trans (hd.mono hb4.size)) | exact hc4 _ (hb4.trans (bE.mono hb4.size)) | exact hc4 _ (hb4.trans (bEE.mono hb4.size)) | exact hc4 _ (hb4.trans (bEd.mono hb4.size)) | exact hc4 _ (hb4.trans (bEEd.mono hb4.size)) | exact hst _ _ _ _ (hb4.trans (bBw.mono hb4.size)) | exact hc4 _ (hb4.trans (bBw.mono hb4.size)) | exact hc4 _ (hb4.trans (bAw.mono hb4.size)) | exact hc4 _ (hb4.trans (bAE.mono hb4.size))) (first
            | (refine step_append_at (by rfl) _ _ _ (by rfl) w4.heap.size 5 Tryz.underlying22 i_u8 _ 0 [] (by rfl) oE _ _ _ xid (by rfl) hid1 (by omega) bEd.size ?_; intro vA wA oA hgA lcA; rw [Nat.zero_add] at oA; have bAw : Below w4.heap.size w4 wA := bEd.grown hgA bEd.size (fun k hk => by cases hk; exact Nat.le_refl _); obtain ⟨pA, cA, rfl⟩ := owns_shape oA; have bAE := bAw.alloc bAw.size (.cells #[] 5); have oA1 := owns_later oA ((Below.refl _ wA).alloc (Nat.le_refl _) (.cells #[] 5)); have hneA : Value.ownBlock (.slice pA xid.length cA) ≠ some wA.heap.size := fun h => absurd (oA.lt _ h).2 (Nat.lt_irrefl _))
            | (refine step_append_at (by rfl) _ _ _ (by rfl) w4.heap.size 5 Tryz.underlying22 i_u8 _ 0 [] (by rfl) oEE0 _ _ _ xid (by rfl) hid2e (by omega) bEEd.size ?_; intro vA wA oA hgA lcA; rw [Nat.zero_add] at oA; have bAw : Below w4.heap.size w4 wA := bEEd.grown hgA bEEd.size (fun k hk => by cases hk; exact Nat.le_refl _); obtain ⟨pA, cA, rfl⟩ := owns_shape oA; have gBb := (hgA.block (w4.heap.size + 1) (by rw [szEE]; omega) (fun e => absurd (Option.some.inj (show some (w4.heap.size + 1) = some w4.heap.size from e)) (by omega))).trans gEE1; have oA1 := oA; have hneA : Value.ownBlock (.slice pA xid.length cA) ≠ some (w4.heap.size + 1) := fun h => by { rw [h, szEE] at lcA; rcases lcA with q | q; exact absurd (Option.some.inj (show some (w4.heap.size + 1) = some w4.heap.size from q)) (by omega); exact absurd (Option.some.inj q) (by omega) })
            | (refine step_append_at (by rfl) _ _ _ (by rfl) w4.heap.size 5 Tryz.underlying22 i_u8 _ 0 [] (by rfl) oEE1 _ _ _ xid (by rfl) hid2e (by omega) bEEd.size ?_; intro vA wA oA hgA lcA; rw [Nat.zero_add] at oA; have bAw : Below w4.heap.size w4 wA := bEEd.grown hgA bEEd.size (fun k hk => by cases hk; exact Nat.le_succ _); obtain ⟨pA, cA, rfl⟩ := owns_shape oA; have gBc := (hgA.block w4.heap.size (by rw [szEE]; omega) (fun e => absurd (Option.some.inj (show some w4.heap.size = some (w4.heap.size + 1) from e)) (by omega))).trans gEE0; have oA1 := oA; have hneA : Value.ownBlock (.slice pA xid.length cA) ≠ some w4.heap.size := fun h => by { rw [h, szEE] at lcA; rcases lcA with q | q; exact absurd (Option.some.inj (show some w4.heap.size = some (w4.heap.size + 1) from q)) (by omega); exact absurd (Option.some.inj q) (by omega) })
            | (refine step_append_at (by rfl) _ _ _ (by rfl) w4.heap.size 5 Tryz.underlying22 i_u8 _ 0 [] (by rfl) (owns_empty bAw.size (heap_alloc_new wA _)) _ _ _ key (by rfl) (hk4.later bAE) (by omega) bAE.size ?_; intro vB wB oB hgB lcB; rw [Nat.zero_add] at oB; have bBw : Below w4.heap.size w4 wB := bAE.grown hgB bAE.size (fun k hk => by cases hk; exact bAw.size); obtain ⟨pB, cB, rfl⟩ := owns_shape oB; have oA2 := oA1.kept hgB (.inr hneA); have hbB := hb4.trans (bBw.mono hb4.size); obtain ⟨y0, y1, y2, f0, f1, f2⟩ := hit wB hbB)
            | (refine step_append_at (by rfl) _ _ _ (by rfl) w4.heap.size 5 Tryz.underlying22 i_u8 _ 0 [] (by rfl) (owns_empty (Nat.le_succ _) gBb) _ _ _ key (by rfl) (hk4.later bAw) (by omega) bAw.size ?_; intro vB wB oB hgB lcB; rw [Nat.zero_add] at oB; have bBw : Below w4.heap.size w4 wB := bAw.grown hgB bAw.size (fun k hk => by cases hk; exact Nat.le_succ _); obtain ⟨pB, cB, rfl⟩ := owns_shape oB; have oA2 := oA1.kept hgB (.inr hneA); have hbB := hb4.trans (bBw.mono hb4.size); obtain ⟨y0, y1, y2, f0, f1, f2⟩ := hit wB hbB)
            | (refine step_append_at (by rfl) _ _ _ (by rfl) w4.heap.size 5 Tryz.underlying22 i_u8 _ 0 [] (by rfl) (owns_empty (Nat.le_refl _) gBc) _ _ _ key (by rfl) (hk4.later bAw) (by omega) bAw.size ?_; intro vB wB oB hgB lcB; rw [Nat.zero_add] at oB; have bBw : Below w4.heap.size w4 wB := bAw.grown hgB bAw.size (fun k hk => by cases hk; exact Nat.le_refl _); obtain ⟨pB, cB, rfl⟩ := owns_shape oB; have oA2 := oA1.kept hgB (.inr hneA); have hbB := hb4.trans (bBw.mono hb4.size); obtain ⟨y0, y1, y2, f0, f1, f2⟩ := hit wB hbB))
          all_goals
            have gI := hitb wB hbB
            have g1 := heap_setCell_same wB V.heap.size 0 _ _ (.slice pA xid.length cA) gI
            have g2 := heap_setCell_same _ V.heap.size 1 _ _ (.slice pB key.length cB) g1
            have g3 := heap_setCell_same _ V.heap.size 2 _ _ (.int .i64 si) g2
            have hon : Only V.heap.size wB (((wB.setCell ⟨V.heap.size, 0, none⟩ (.slice pA xid.length cA)).setCell ⟨V.heap.size, 1, none⟩ (.slice pB key.length cB)).setCell ⟨V.heap.size, 2, none⟩ (.int .i64 si)) := (((Only.refl _ wB).setCell 0 _).setCell 1 _).setCell 2 _
            have k6 := (HB.of_owns oA2).aside (TB.of_owns oA2) gI (by decide) hon
            have k7 := (HB.of_owns oB).aside (TB.of_owns oB) gI (by decide) hon
            have HW : Below w.heap.size w (((wB.setCell ⟨V.heap.size, 0, none⟩ (.slice pA xid.length cA)).setCell ⟨V.heap.size, 1, none⟩ (.slice pB key.length cB)).setCell ⟨V.heap.size, 2, none⟩ (.int .i64 si)) := bA.trans ((bV2.trans (hbB.mono bV2.size)).mono bA.size |>.trans (hon.below bA.size))
            obtain ⟨W9', hW9⟩ : ∃ W9', (((wB.setCell ⟨V.heap.size, 0, none⟩ (.slice pA xid.length cA)).setCell ⟨V.heap.size, 1, none⟩ (.slice pB key.length cB)).setCell ⟨V.heap.size, 2, none⟩ (.int .i64 si)) = W9' := ⟨_, rfl⟩
            rw [hW9] at k6 k7 HW g3
            have r0 : W9'.cell? ⟨V.heap.size, 0, none⟩ = some (.slice pA xid.length cA) := by rw [cell_of_row _ _ _ _ _ _ g3]; rfl
            have r1 : W9'.cell? ⟨V.heap.size, 1, none⟩ = some (.slice pB key.length cB) := by rw [cell_of_row _ _ _ _ _ _ g3]; rfl
            have r2 : W9'.cell? ⟨V.heap.size, 2, none⟩ = some (.int .i64 si) := by rw [cell_of_row _ _ _ _ _ _ g3]; rfl
            clear hit hitb hbox hc4 hst hd bE bEd bEE bEEd gE gEE1 gEE0 oE oEE0 oEE1 hid1 hid2e hid4 hk4 szEE hid0 gI g1 g2 g3 hon y0 y1 y2 f0 f1 f2 oA oB oA2 oA1 hgA hgB lcA lcB hneA bAw bBw hbB bA bV2
            go_wp2
            refine bodyPost_ret (v := .tuple #[.agg #[.slice pA xid.length cA, .slice pB key.length cB, .int .i64 si], .bool true, .int .i64 0]) ?_ rfl ?_
            · simp only [results, Tryz.results7]
              go_simp
            · rw [HO.out, HF.out]
              first | exact ⟨pA, cA, pB, cB, rfl, k6, k7, HW⟩ | (rw [hW9]; exact ⟨pA, cA, pB, cB, rfl, k6, k7, HW⟩) | (simp only [hW9]; exact ⟨pA, cA, pB, cB, rfl, k6, k7, HW⟩)
        · have HF : Hid (FD = false) := by show _ = _; rw [HF1.out]; simpa using hxi
          have m1 : (xid != id) = true := by simpa using hxi
          have m2 : decide (xid = id) = false := by simpa using hxi
          have m3 : (xid == id) = false := by simpa using hxi
          clear HF1 hxi
          obtain ⟨y0, y1, y2, f0, f1, f2⟩ := hit w4 hb4
          have gI := hitb w4 hb4
          have hon : Only V.heap.size w4 (((w4.setCell ⟨V.heap.size, 0, none⟩ (.slice none 0 0)).setCell ⟨V.heap.size, 1, none⟩ (.slice none 0 0)).setCell ⟨V.heap.size, 2, none⟩ (.int .i64 0)) := (((Only.refl _ w4).setCell 0 _).setCell 1 _).setCell 2 _
          have HW : Below w.heap.size w (((w4.setCell ⟨V.heap.size, 0, none⟩ (.slice none 0 0)).setCell ⟨V.heap.size, 1, none⟩ (.slice none 0 0)).setCell ⟨V.heap.size, 2, none⟩ (.int .i64 0)) := bA.trans ((bV2.trans (hb4.mono bV2.size)).mono bA.size |>.trans (hon.below bA.size))
          have g1 := heap_setCell_same w4 V.heap.size 0 _ _ (.slice none 0 0) gI
          have g2 := heap_setCell_same _ V.heap.size 1 _ _ (.slice none 0 0) g1
          have g3 := heap_setCell_same _ V.heap.size 2 _ _ (.int .i64 0) g2
          clear hit hitb hbox hb4 hon bA bV2 bA2 gI g1 g2
          go_wp2
          refine bodyPost_ret (v := .tuple #[.agg #[.slice none 0 0, .slice none 0 0, .int .i64 0], .bool false, .int .i64 0]) ?_ rfl ?_
          · simp only [results, Tryz.results7]
            go_simp
          · rw [HO.out, HF.out]
            exact ⟨none, 0, none, 0, rfl, HB.nil _, HB.nil _, by first | exact HW | exact HW.drew⟩
      · have t1 : (k != 1) = true := by simpa using hk1
        have HF : Hid (FD = false) := by show _ = _; rw [HF0.out, HO.out]; simp [hk1]
        clear HF0 q2 q3 q4 q5 q6 q7 q8 q9 q10
        obtain ⟨y0, y1, y2, f0, f1, f2⟩ := hit w4 hb4
        have gI := hitb w4 hb4
        have hon : Only V.heap.size w4 (((w4.setCell ⟨V.heap.size, 0, none⟩ (.slice none 0 0)).setCell ⟨V.heap.size, 1, none⟩ (.slice none 0 0)).setCell ⟨V.heap.size, 2, none⟩ (.int .i64 0)) := (((Only.refl _ w4).setCell 0 _).setCell 1 _).setCell 2 _
        have HW : Below w.heap.size w (((w4.setCell ⟨V.heap.size, 0, none⟩ (.slice none 0 0)).setCell ⟨V.heap.size, 1, none⟩ (.slice none 0 0)).setCell ⟨V.heap.size, 2, none⟩ (.int .i64 0)) := bA.trans ((bV2.trans (hb4.mono bV2.size)).mono bA.size |>.trans (hon.below bA.size))
        have g1 := heap_setCell_same w4 V.heap.size 0 _ _ (.slice none 0 0) gI
        have g2 := heap_setCell_same _ V.heap.size 1 _ _ (.slice none 0 0) g1
        have g3 := heap_setCell_same _ V.heap.size 2 _ _ (.int .i64 0) g2
        clear hit hitb hbox hb4 hon bA bV2 bA2 gI g1 g2
        go_wp2
        refine bodyPost_ret (v := .tuple #[.agg #[.slice none 0 0, .slice none 0 0, .int .i64 0], .bool false, .int .i64 0]) ?_ rfl ?_
        · simp only [results, Tryz.results7]
          go_simp
        · rw [HO.out, HF.out]
          exact ⟨none, 0, none, 0, rfl, HB.nil _, HB.nil _, by first | exact HW | exact HW.drew⟩
    · have n1 : (CT != rt) = true := by simpa using hc12
      have n2 : decide (CT = rt) = false := by simpa using hc12
      have n3 : (CT == rt) = false := by simpa using hc12
      refine tkY 12 ⟨some 28, .binOp .neq 9 (.tmp 25) (.tmp 27) 9, 4, "ref.go:144", #[⟨9, .data⟩, ⟨11, .data⟩, ⟨3, .guard⟩], some (3, false)⟩ ?v12z18 hHeld ?y12z18 ?r12z18
      case y12z18 => (intro w hSw; (try dsimp only at hSw); go_simp) <;> with_reducible rfl
      try simp only [Act.put, List.setIfInBounds_toArray, List.set_cons_zero, List.set_cons_succ]
      refine tkY 13 ⟨some 29, .pick (.tmp 19) (.const (.bool true)) (.tmp 28), 4, "ref.go:144", #[⟨3, .data⟩, ⟨12, .data⟩], none⟩ ?v13z19 hHeld ?y13z19 ?r13z19
      case y13z19 => (intro w hSw; (try dsimp only at hSw); go_simp) <;> with_reducible rfl
      try simp only [Act.put, List.setIfInBounds_toArray, List.set_cons_zero, List.set_cons_succ]
      refine wpAnyH_done (by kernel_rfl) ?_ _
      clear hHeld qs4 hb4' b34 k4 t4 hbT cT' bD hCT
      have HO' : Hid (OK = false) := by show _ = _; rw [HO.out]; exact n3
      clear HO
      have HO := HO'
      have HF : Hid (FD = false) := by show _ = _; rw [HF0.out, HO.out]; rfl
      clear HF0 HO' n1 n2 n3
      obtain ⟨y0, y1, y2, f0, f1, f2⟩ := hit w4 hb4
      have gI := hitb w4 hb4
      have hon : Only V.heap.size w4 (((w4.setCell ⟨V.heap.size, 0, none⟩ (.slice none 0 0)).setCell ⟨V.heap.size, 1, none⟩ (.slice none 0 0)).setCell ⟨V.heap.size, 2, none⟩ (.int .i64 0)) := (((Only.refl _ w4).setCell 0 _).setCell 1 _).setCell 2 _
      have HW : Below w.heap.size w (((w4.setCell ⟨V.heap.size, 0, none⟩ (.slice none 0 0)).setCell ⟨V.heap.size, 1, none⟩ (.slice none 0 0)).setCell ⟨V.heap.size, 2, none⟩ (.int .i64 0)) := bA.trans ((bV2.trans (hb4.mono bV2.size)).mono bA.size |>.trans (hon.below bA.size))
      have g1 := heap_setCell_same w4 V.heap.size 0 _ _ (.slice none 0 0) gI
      have g2 := heap_setCell_same _ V.heap.size 1 _ _ (.slice none 0 0) g1
      have g3 := heap_setCell_same _ V.heap.size 2 _ _ (.int .i64 0) g2
      clear hit hitb hbox hb4 hon bA bV2 bA2 gI g1 g2
      go_wp2
      refine bodyPost_ret (v := .tuple #[.agg #[.slice none 0 0, .slice none 0 0, .int .i64 0], .bool false, .int .i64 95]) ?_ rfl ?_
      · simp only [results, Tryz.results7]
        go_simp
      · rw [HO.out, HF.out]
        exact ⟨none, 0, none, 0, rfl, HB.nil _, HB.nil _, by first | exact HW | exact HW.drew⟩

end Go.Proofs.YtahfjemllkbpgaaGreatDoor
