/- What this text proves: the walk of annalslaw17.PathAny over this program: it answers true. (By program: held.py, mkpaany.py.) What this text proves: annalslaw17.PathAny answers true for every input: any way of any identity under any hash: whether it may be, its texts, what it shows, or the error, as the document has them (the tied card). -/
import Derived.Test.YtahfjemllkbpgaaGreatDoorJF1
import Derived.Test.YtahfjemllkbpgaaGreatDoorJRPaFind
import Derived.Test.YtahfjemllkbpgaaGreatDoorJT1
import Derived.Test.YtahfjemllkbpgaaGreatDoorSame
import Derived.Test.YtahfjemllkbpgaaGreatDoorJOpenPath
namespace Go.Proofs.YtahfjemllkbpgaaGreatDoor
open Go.RowKit

theorem cells3p {W : World} {g : Nat} {t : TypeId} {c0 c1 c2 : Value} (h : W.heap[g]? = some (.cells #[c0, c1, c2] t (0, 0))) :
    W.cell? ⟨g, 0, none⟩ = some c0 ∧ W.cell? ⟨g, 1, none⟩ = some c1 ∧ W.cell? ⟨g, 2, none⟩ = some c2 := by
  refine ⟨?_, ?_, ?_⟩ <;> (rw [cell_of_row _ _ _ _ _ _ h]; rfl)

set_option maxRecDepth 100000 in
set_option maxHeartbeats 16000000 in
theorem pathAny_any (size : Int) (rv iv hv : Value) (rt id : List UInt8) (hs : List Hp) (x : Pt) (pi pk pp pl pr pq : Option Addr) (ci ck cp cl cr cq : Nat) (w : World) (hrt : HB w rv rt) (hid : HB w iv id)
    (hh : HA w hv hs) (h1 : HB w (.slice pi x.id.length ci) x.id) (h2 : HB w (.slice pk x.key.length ck) x.key) (h3 : HB w (.slice pp x.pre.length cp) x.pre) (h4 : HB w (.slice pl x.l.length cl) x.l) (h5 : HB w (.slice pr x.r.length cr) x.r) (hT : Tabs w) :
    Calls Tryz.prog 3 #[.int .i64 size, rv, iv, .agg #[hv, .int .i64 x.k, .slice pi x.id.length ci, .slice pk x.key.length ck, .int .i64 x.si, .int .i64 x.d, .slice pp x.pre.length cp, .int .i64 x.nw, .slice pl x.l.length cl, .slice pr x.r.length cr, .slice pq x.kids cq]] w fun e w' => e = .returned (.bool true) ∧ Below w.heap.size w w' := by
  obtain ⟨prt, crt, rfl⟩ := hrt.shape
  obtain ⟨pv, cv, rfl⟩ := hid.shape
  obtain ⟨ph, ch, rfl⟩ := hh.shape
  have hAw := fun W h => paAwake_any W h
  have bV := (Below.refl w.heap.size w).alloc (Nat.le_refl _) (.cells #[.slice ph hs.length ch, .int .i64 x.k, .slice pi x.id.length ci, .slice pk x.key.length ck, .int .i64 x.si, .int .i64 x.d, .slice pp x.pre.length cp, .int .i64 x.nw, .slice pl x.l.length cl, .slice pr x.r.length cr, .slice pq x.kids cq] 28)
  have gV := heap_alloc_new w (.cells #[.slice ph hs.length ch, .int .i64 x.k, .slice pi x.id.length ci, .slice pk x.key.length ck, .int .i64 x.si, .int .i64 x.d, .slice pp x.pre.length cp, .int .i64 x.nw, .slice pl x.l.length cl, .slice pr x.r.length cr, .slice pq x.kids cq] 28)
  obtain ⟨V, hV⟩ : ∃ V, w.alloc (.cells #[.slice ph hs.length ch, .int .i64 x.k, .slice pi x.id.length ci, .slice pk x.key.length ck, .int .i64 x.si, .int .i64 x.d, .slice pp x.pre.length cp, .int .i64 x.nw, .slice pl x.l.length cl, .slice pr x.r.length cr, .slice pq x.kids cq] 28) = V := ⟨_, rfl⟩
  rw [hV] at bV gV
  have hbP : ∀ W, Below V.heap.size V W → W.heap[w.heap.size]? = some (.cells #[.slice ph hs.length ch, .int .i64 x.k, .slice pi x.id.length ci, .slice pk x.key.length ck, .int .i64 x.si, .int .i64 x.d, .slice pp x.pre.length cp, .int .i64 x.nw, .slice pl x.l.length cl, .slice pr x.r.length cr, .slice pq x.kids cq] 28 (0, 0)) := fun W hb => (hb.block _ (Array.getElem?_eq_some_iff.1 gV).1).trans gV
  obtain ⟨p0, p1, p2, p3, p4, p5, p6, p7, p8, p9, p10⟩ := cells11 gV
  have ml := h4.len_le
  have mr := h5.len_le
  have hC1' := fun W (hb : Below V.heap.size V W) => check_any17 size (.slice pv id.length cv) (.slice ph hs.length ch) id hs x pi pk pp pl pr pq ci ck cp cl cr cq W (hid.later (bV.trans (hb.mono bV.size))) (hh.later (bV.trans (hb.mono bV.size))) (h1.later (bV.trans (hb.mono bV.size))) (h3.later (bV.trans (hb.mono bV.size))) ml mr
  have hC2' := fun W (hb : Below V.heap.size V W) => rcheck_any17 size (.slice pv id.length cv) (.slice ph hs.length ch) id hs x pi pk pp pl pr pq ci ck cp cl cr cq W (hid.later (bV.trans (hb.mono bV.size))) (hh.later (bV.trans (hb.mono bV.size))) (h1.later (bV.trans (hb.mono bV.size))) (h3.later (bV.trans (hb.mono bV.size)))
  have hT1' := fun W (hb : Below V.heap.size V W) (hN : hs.length ≤ 1000) => texts_any17 size (.slice pv id.length cv) (.slice ph hs.length ch) id hs x pi pk pp pl pr pq ci ck cp cl cr cq W (hid.later (bV.trans (hb.mono bV.size))) (hh.later (bV.trans (hb.mono bV.size))) (h1.later (bV.trans (hb.mono bV.size))) (h2.later (bV.trans (hb.mono bV.size))) (h3.later (bV.trans (hb.mono bV.size))) (h4.later (bV.trans (hb.mono bV.size))) (h5.later (bV.trans (hb.mono bV.size))) hN (hT.later (bV.trans (hb.mono bV.size)))
  have hT2' := fun W (hb : Below V.heap.size V W) (hN : hs.length ≤ 1000) => rtexts_any17 size (.slice pv id.length cv) (.slice ph hs.length ch) id hs x pi pk pp pl pr pq ci ck cp cl cr cq W (hid.later (bV.trans (hb.mono bV.size))) (hh.later (bV.trans (hb.mono bV.size))) (h1.later (bV.trans (hb.mono bV.size))) (h2.later (bV.trans (hb.mono bV.size))) (h3.later (bV.trans (hb.mono bV.size))) (h4.later (bV.trans (hb.mono bV.size))) (h5.later (bV.trans (hb.mono bV.size))) hN
  have hF1 := fun W (hb : Below V.heap.size V W) (hN : hs.length ≤ 1000) => find_any17 size (.slice prt rt.length crt) (.slice pv id.length cv) (.slice ph hs.length ch) rt id hs x pi pk pp pl pr pq ci ck cp cl cr cq W (hrt.later (bV.trans (hb.mono bV.size))) (hid.later (bV.trans (hb.mono bV.size))) (hh.later (bV.trans (hb.mono bV.size))) (h1.later (bV.trans (hb.mono bV.size))) (h2.later (bV.trans (hb.mono bV.size))) (h3.later (bV.trans (hb.mono bV.size))) (h4.later (bV.trans (hb.mono bV.size))) (h5.later (bV.trans (hb.mono bV.size))) hN (hT.later (bV.trans (hb.mono bV.size)))
  have hF2 := fun W (hb : Below V.heap.size V W) (hN : hs.length ≤ 1000) => rfind_any17 size (.slice prt rt.length crt) (.slice pv id.length cv) (.slice ph hs.length ch) rt id hs x pi pk pp pl pr pq ci ck cp cl cr cq W (hrt.later (bV.trans (hb.mono bV.size))) (hid.later (bV.trans (hb.mono bV.size))) (hh.later (bV.trans (hb.mono bV.size))) (h1.later (bV.trans (hb.mono bV.size))) (h2.later (bV.trans (hb.mono bV.size))) (h3.later (bV.trans (hb.mono bV.size))) (h4.later (bV.trans (hb.mono bV.size))) (h5.later (bV.trans (hb.mono bV.size))) hN
  generalize textsW size id hs x = L at *
  generalize chkW size id hs x = CK at *
  generalize itW (foundW size rt id hs x) x = IT at *
  generalize foundW size rt id hs x = F at *
  generalize okW size rt id hs x = O at *
  obtain ⟨I, K, S⟩ := IT
  dsimp only at *
  clear gV hrt hid hh h1 h2 h3 h4 h5 ml mr
  by_cases n1 : hs.length ≤ 300
  · have t1 : decide ((300 : Int) < (hs.length : Int)) = false := by simp; omega
    replace hT1' := fun W hb => hT1' W hb (by omega)
    replace hT2' := fun W hb => hT2' W hb (by omega)
    replace hF1 := fun W hb => hF1 W hb (by omega)
    replace hF2 := fun W hb => hF2 W hb (by omega)
    go_enter Tryz.func3, Tryz.ntmps3
    go_wp2_with fail
    refine (hF1 _ (Below.refl _ _)).mono ?_
    rintro e w1 ⟨pa, ca, pb, cb, rfl, kI1, kK1, hb1⟩
    clear hF1 p0 p1 p2 p3 p4 p5 p6 p7 p8 p9 p10
    have bU1 : Below w1.heap.size w1 (w1.alloc (.cells #[.slice pa I.length ca, .slice pb K.length cb, .int .i64 S] 31)) := (Below.refl _ w1).alloc (Nat.le_refl _) _
    have gU1 := heap_alloc_new w1 (.cells #[.slice pa I.length ca, .slice pb K.length cb, .int .i64 S] 31)
    obtain ⟨U1, hU1⟩ : ∃ U1, w1.alloc (.cells #[.slice pa I.length ca, .slice pb K.length cb, .int .i64 S] 31) = U1 := ⟨_, rfl⟩
    rw [hU1] at bU1 gU1
    have lU1 : w1.heap.size < U1.heap.size := (Array.getElem?_eq_some_iff.1 gU1).1
    have b1 := hb1.trans (bU1.mono hb1.size)
    obtain ⟨q0, q1, q2, q3, q4, q5, q6, q7, q8, q9, q10⟩ := cells11 (hbP U1 b1)
    go_wp2_with fail
    refine (hF2 _ b1).mono ?_
    rintro e w2 ⟨pc, cc, pd, cd, rfl, kI2, kK2, hb2⟩
    clear hF2 q0 q1 q2 q3 q4 q5 q6 q7 q8 q9 q10 hU1
    have bU2 : Below w2.heap.size w2 (w2.alloc (.cells #[.slice pc I.length cc, .slice pd K.length cd, .int .i64 S] 31)) := (Below.refl _ w2).alloc (Nat.le_refl _) _
    have gU2 := heap_alloc_new w2 (.cells #[.slice pc I.length cc, .slice pd K.length cd, .int .i64 S] 31)
    obtain ⟨U2, hU2⟩ : ∃ U2, w2.alloc (.cells #[.slice pc I.length cc, .slice pd K.length cd, .int .i64 S] 31) = U2 := ⟨_, rfl⟩
    rw [hU2] at bU2 gU2
    have lU2 : w2.heap.size < U2.heap.size := (Array.getElem?_eq_some_iff.1 gU2).1
    have bU12 := hb2.trans (bU2.mono hb2.size)
    have gU1' := (bU12.block _ lU1).trans gU1
    have lU1' : w1.heap.size < U2.heap.size := (Array.getElem?_eq_some_iff.1 gU1').1
    have bVU := b1.trans (bU12.mono b1.size)
    have bWU := bV.trans (bVU.mono bV.size)
    replace kI1 := kI1.later (bU1.trans (bU12.mono bU1.size))
    replace kK1 := kK1.later (bU1.trans (bU12.mono bU1.size))
    replace kI2 := kI2.later bU2
    replace kK2 := kK2.later bU2
    have hheld : ∀ W, Below U2.heap.size U2 W → W.heap[w.heap.size]? = some (.cells #[.slice ph hs.length ch, .int .i64 x.k, .slice pi x.id.length ci, .slice pk x.key.length ck, .int .i64 x.si, .int .i64 x.d, .slice pp x.pre.length cp, .int .i64 x.nw, .slice pl x.l.length cl, .slice pr x.r.length cr, .slice pq x.kids cq] 28 (0, 0)) ∧ W.heap[w1.heap.size]? = some (.cells #[.slice pa I.length ca, .slice pb K.length cb, .int .i64 S] 31 (0, 0)) ∧ W.heap[w2.heap.size]? = some (.cells #[.slice pc I.length cc, .slice pd K.length cd, .int .i64 S] 31 (0, 0)) := fun W hb => ⟨hbP W (bVU.trans (hb.mono bVU.size)), (hb.block _ lU1').trans gU1', (hb.block _ lU2).trans gU2⟩
    have hSI : ∀ W, Below U2.heap.size U2 W → Calls Tryz.prog 8 #[.agg #[.slice pa I.length ca, .slice pb K.length cb, .int .i64 S], .agg #[.slice pc I.length cc, .slice pd K.length cd, .int .i64 S]] W fun e w' => e = .returned (.bool true) ∧ Below W.heap.size W w' := by
      intro W hb
      have h := sameItem_any pa pb pc pd ca cb cc cd I K I K S S W (kI1.later hb) (kK1.later hb) (kI2.later hb) (kK2.later hb)
      rwa [decide_eq_true rfl] at h
    have hC1 := fun W (hb : Below U2.heap.size U2 W) => hC1' W (bVU.trans (hb.mono bVU.size))
    have hC2 := fun W (hb : Below U2.heap.size U2 W) => hC2' W (bVU.trans (hb.mono bVU.size))
    have hT1 := fun W (hb : Below U2.heap.size U2 W) => hT1' W (bVU.trans (hb.mono bVU.size))
    have hT2 := fun W (hb : Below U2.heap.size U2 W) => hT2' W (bVU.trans (hb.mono bVU.size))
    have hTU := hT.later bWU
    have bD : Below U2.heap.size U2 U2.drew := (Below.refl _ U2).drew
    have hHeld := hheld _ bD
    clear gU1 gU2 gU1' bU1 bU2 hb1 hb2 b1 bU12 lU1 lU1' lU2 hbP hC1' hC2' hT1' hT2' kI1 kK1 kI2 kK2
    go_wp2
    refine wp_region_heldN (by kernel_rfl) (fun W => W.heap[w.heap.size]? = some (.cells #[.slice ph hs.length ch, .int .i64 x.k, .slice pi x.id.length ci, .slice pk x.key.length ck, .int .i64 x.si, .int .i64 x.d, .slice pp x.pre.length cp, .int .i64 x.nw, .slice pl x.l.length cl, .slice pr x.r.length cr, .slice pq x.kids cq] 28 (0, 0)) ∧ W.heap[w1.heap.size]? = some (.cells #[.slice pa I.length ca, .slice pb K.length cb, .int .i64 S] 31 (0, 0)) ∧ W.heap[w2.heap.size]? = some (.cells #[.slice pc I.length cc, .slice pd K.length cd, .int .i64 S] 31 (0, 0))) 39 rfl ?_
    refine tkY 0 ⟨some 38, .load 31 (.tmp 9), 31, "law.go:69", #[], none⟩ ?v0z1 hHeld ?y0z1 ?r0z1
    case y0z1 => (intro w hSw; (try dsimp only at hSw); obtain ⟨a0, a1, a2⟩ := cells3p hSw.2.1; go_simp) <;> with_reducible rfl
    try simp only [Act.put, List.setIfInBounds_toArray, List.set_cons_zero, List.set_cons_succ]
    refine tkY 1 ⟨some 39, .load 31 (.tmp 12), 31, "law.go:69", #[], none⟩ ?v1z2 hHeld ?y1z2 ?r1z2
    case y1z2 => (intro w hSw; (try dsimp only at hSw); obtain ⟨a0, a1, a2⟩ := cells3p hSw.2.2; go_simp) <;> with_reducible rfl
    try simp only [Act.put, List.setIfInBounds_toArray, List.set_cons_zero, List.set_cons_succ]
    refine wpAnyH_ready (rs := [2]) (by kernel_rfl) (by simp) ?_
    refine AllReadyH.cons (o := ⟨some 40, .call { callee := .value (.func 8), args := #[.tmp 38, .tmp 39], argTypes := #[31, 31] }, 4, "law.go:69", #[⟨0, .data⟩, ⟨1, .data⟩], none⟩) rfl (fun K hK => ?_) AllReadyH.nil
    go_simp
    refine (hSI _ bD).mono ?_
    rintro z w4 ⟨rfl, hb4'⟩
    have hb4 := bD.trans (hb4'.mono bD.size)
    replace hHeld := hheld w4 hb4
    refine hK.out _ _ ?_ (fun _ => ?_)
    · exact hHeld
    clear hK K
    try simp only [Act.put, List.setIfInBounds_toArray, List.set_cons_zero, List.set_cons_succ]
    refine tkY 3 ⟨some 41, .move (.tmp 40), 4, "law.go:69", #[⟨2, .data⟩, ⟨2, .chain⟩], none⟩ ?v3z3 hHeld ?y3z3 ?r3z3
    case y3z3 => (intro w hSw; (try dsimp only at hSw); go_simp) <;> with_reducible rfl
    try simp only [Act.put, List.setIfInBounds_toArray, List.set_cons_zero, List.set_cons_succ]
    refine tkY 4 ⟨some 42, .move (.tmp 10), 4, "law.go:69", #[⟨3, .guard⟩], some (3, true)⟩ ?v4z4 hHeld ?y4z4 ?r4z4
    case y4z4 => (intro w hSw; (try dsimp only at hSw); go_simp) <;> with_reducible rfl
    try simp only [Act.put, List.setIfInBounds_toArray, List.set_cons_zero, List.set_cons_succ]
    refine tkY 5 ⟨some 43, .move (.tmp 13), 4, "law.go:69", #[⟨3, .guard⟩], some (3, true)⟩ ?v5z5 hHeld ?y5z5 ?r5z5
    case y5z5 => (intro w hSw; (try dsimp only at hSw); go_simp) <;> with_reducible rfl
    try simp only [Act.put, List.setIfInBounds_toArray, List.set_cons_zero, List.set_cons_succ]
    refine tkY 6 ⟨some 44, .binOp .eql 4 (.tmp 42) (.tmp 43) 4, 4, "law.go:69", #[⟨4, .data⟩, ⟨5, .data⟩, ⟨3, .guard⟩], some (3, true)⟩ ?v6z6 hHeld ?y6z6 ?r6z6
    case y6z6 => (intro w hSw; (try dsimp only at hSw); go_simp) <;> with_reducible rfl
    try simp only [Act.put, List.setIfInBounds_toArray, List.set_cons_zero, List.set_cons_succ]
    refine tkY 7 ⟨some 45, .pick (.tmp 41) (.tmp 44) (.const (.bool false)), 4, "law.go:69", #[⟨3, .data⟩, ⟨6, .data⟩], none⟩ ?v7z7 hHeld ?y7z7 ?r7z7
    case y7z7 => (intro w hSw; (try dsimp only at hSw); go_simp) <;> with_reducible rfl
    try simp only [Act.put, List.setIfInBounds_toArray, List.set_cons_zero, List.set_cons_succ]
    refine tkY 8 ⟨some 46, .move (.tmp 45), 4, "law.go:69", #[⟨7, .data⟩, ⟨3, .chain⟩], none⟩ ?v8z8 hHeld ?y8z8 ?r8z8
    case y8z8 => (intro w hSw; (try dsimp only at hSw); go_simp) <;> with_reducible rfl
    try simp only [Act.put, List.setIfInBounds_toArray, List.set_cons_zero, List.set_cons_succ]
    refine tkY 9 ⟨some 47, .move (.tmp 11), 32, "law.go:69", #[⟨8, .guard⟩], some (8, true)⟩ ?v9z9 hHeld ?y9z9 ?r9z9
    case y9z9 => (intro w hSw; (try dsimp only at hSw); go_simp) <;> with_reducible rfl
    try simp only [Act.put, List.setIfInBounds_toArray, List.set_cons_zero, List.set_cons_succ]
    refine tkY 10 ⟨some 48, .move (.tmp 14), 32, "law.go:69", #[⟨8, .guard⟩], some (8, true)⟩ ?v10z10 hHeld ?y10z10 ?r10z10
    case y10z10 => (intro w hSw; (try dsimp only at hSw); go_simp) <;> with_reducible rfl
    try simp only [Act.put, List.setIfInBounds_toArray, List.set_cons_zero, List.set_cons_succ]
    refine tkY 11 ⟨some 49, .binOp .eql 32 (.tmp 47) (.tmp 48) 32, 4, "law.go:69", #[⟨9, .data⟩, ⟨10, .data⟩, ⟨8, .guard⟩], some (8, true)⟩ ?v11z11 hHeld ?y11z11 ?r11z11
    case y11z11 => (intro w hSw; (try dsimp only at hSw); go_simp) <;> with_reducible rfl
    try simp only [Act.put, List.setIfInBounds_toArray, List.set_cons_zero, List.set_cons_succ]
    refine tkY 12 ⟨some 50, .pick (.tmp 46) (.tmp 49) (.const (.bool false)), 4, "law.go:69", #[⟨8, .data⟩, ⟨11, .data⟩], none⟩ ?v12z12 hHeld ?y12z12 ?r12z12
    case y12z12 => (intro w hSw; (try dsimp only at hSw); go_simp) <;> with_reducible rfl
    try simp only [Act.put, List.setIfInBounds_toArray, List.set_cons_zero, List.set_cons_succ]
    refine tkY 13 ⟨some 51, .move (.tmp 50), 4, "law.go:69", #[⟨12, .data⟩, ⟨8, .chain⟩], none⟩ ?v13z13 hHeld ?y13z13 ?r13z13
    case y13z13 => (intro w hSw; (try dsimp only at hSw); go_simp) <;> with_reducible rfl
    try simp only [Act.put, List.setIfInBounds_toArray, List.set_cons_zero, List.set_cons_succ]
    refine tkY 14 ⟨some 52, .move (.tmp 0), 3, "law.go:69", #[⟨13, .guard⟩], some (13, true)⟩ ?v14z14 hHeld ?y14z14 ?r14z14
    case y14z14 => (intro w hSw; (try dsimp only at hSw); go_simp) <;> with_reducible rfl
    try simp only [Act.put, List.setIfInBounds_toArray, List.set_cons_zero, List.set_cons_succ]
    refine tkY 15 ⟨some 53, .move (.tmp 2), 22, "law.go:69", #[⟨13, .guard⟩], some (13, true)⟩ ?v15z15 hHeld ?y15z15 ?r15z15
    case y15z15 => (intro w hSw; (try dsimp only at hSw); go_simp) <;> with_reducible rfl
    try simp only [Act.put, List.setIfInBounds_toArray, List.set_cons_zero, List.set_cons_succ]
    refine tkY 16 ⟨some 54, .load 28 (.tmp 7), 28, "law.go:69", #[⟨13, .guard⟩], some (13, true)⟩ ?v16z16 hHeld ?y16z16 ?r16z16
    case y16z16 => (intro w hSw; (try dsimp only at hSw); obtain ⟨a0, a1, a2, a3, a4, a5, a6, a7, a8, a9, a10⟩ := cells11 hSw.1; go_simp) <;> with_reducible rfl
    try simp only [Act.put, List.setIfInBounds_toArray, List.set_cons_zero, List.set_cons_succ]
    refine tkY 18 ⟨some 56, .move (.tmp 0), 3, "law.go:69", #[⟨13, .guard⟩], some (13, true)⟩ ?v18z17 hHeld ?y18z17 ?r18z17
    case y18z17 => (intro w hSw; (try dsimp only at hSw); go_simp) <;> with_reducible rfl
    try simp only [Act.put, List.setIfInBounds_toArray, List.set_cons_zero, List.set_cons_succ]
    refine tkY 19 ⟨some 57, .move (.tmp 2), 22, "law.go:69", #[⟨13, .guard⟩], some (13, true)⟩ ?v19z18 hHeld ?y19z18 ?r19z18
    case y19z18 => (intro w hSw; (try dsimp only at hSw); go_simp) <;> with_reducible rfl
    try simp only [Act.put, List.setIfInBounds_toArray, List.set_cons_zero, List.set_cons_succ]
    refine tkY 20 ⟨some 58, .load 28 (.tmp 7), 28, "law.go:69", #[⟨13, .guard⟩], some (13, true)⟩ ?v20z19 hHeld ?y20z19 ?r20z19
    case y20z19 => (intro w hSw; (try dsimp only at hSw); obtain ⟨a0, a1, a2, a3, a4, a5, a6, a7, a8, a9, a10⟩ := cells11 hSw.1; go_simp) <;> with_reducible rfl
    try simp only [Act.put, List.setIfInBounds_toArray, List.set_cons_zero, List.set_cons_succ]
    refine wpAnyH_ready (rs := [17]) (by kernel_rfl) (by simp) ?_
    refine AllReadyH.cons (o := ⟨some 55, .call { callee := .value (.func 9), args := #[.tmp 52, .tmp 53, .tmp 54], argTypes := #[3, 22, 28] }, 32, "law.go:69", #[⟨14, .data⟩, ⟨15, .data⟩, ⟨16, .data⟩, ⟨13, .chain⟩, ⟨13, .guard⟩], some (13, true)⟩) rfl (fun K hK => ?_) AllReadyH.nil
    go_simp
    refine (hC1 _ hb4).mono ?_
    rintro z w5 ⟨rfl, hb5'⟩
    have hb5 := hb4.trans (hb5'.mono hb4.size)
    replace hHeld := hheld w5 hb5
    refine hK.out _ _ ?_ (fun _ => ?_)
    · exact hHeld
    clear hK K
    try simp only [Act.put, List.setIfInBounds_toArray, List.set_cons_zero, List.set_cons_succ]
    refine wpAnyH_ready (rs := [21]) (by kernel_rfl) (by simp) ?_
    refine AllReadyH.cons (o := ⟨some 59, .call { callee := .value (.func 10), args := #[.tmp 56, .tmp 57, .tmp 58], argTypes := #[3, 22, 28] }, 32, "law.go:69", #[⟨18, .data⟩, ⟨19, .data⟩, ⟨20, .data⟩, ⟨17, .chain⟩, ⟨13, .guard⟩], some (13, true)⟩) rfl (fun K hK => ?_) AllReadyH.nil
    go_simp
    refine (hC2 _ hb5).mono ?_
    rintro z w6 ⟨rfl, hb6'⟩
    have hb6 := hb5.trans (hb6'.mono hb5.size)
    replace hHeld := hheld w6 hb6
    refine hK.out _ _ ?_ (fun _ => ?_)
    · exact hHeld
    clear hK K
    try simp only [Act.put, List.setIfInBounds_toArray, List.set_cons_zero, List.set_cons_succ]
    refine tkY 22 ⟨some 60, .binOp .eql 32 (.tmp 55) (.tmp 59) 32, 4, "law.go:69", #[⟨17, .data⟩, ⟨21, .data⟩, ⟨13, .guard⟩], some (13, true)⟩ ?v22z20 hHeld ?y22z20 ?r22z20
    case y22z20 => (intro w hSw; (try dsimp only at hSw); go_simp) <;> with_reducible rfl
    try simp only [Act.put, List.setIfInBounds_toArray, List.set_cons_zero, List.set_cons_succ]
    refine tkY 23 ⟨some 61, .pick (.tmp 51) (.tmp 60) (.const (.bool false)), 4, "law.go:69", #[⟨13, .data⟩, ⟨22, .data⟩], none⟩ ?v23z21 hHeld ?y23z21 ?r23z21
    case y23z21 => (intro w hSw; (try dsimp only at hSw); go_simp) <;> with_reducible rfl
    try simp only [Act.put, List.setIfInBounds_toArray, List.set_cons_zero, List.set_cons_succ]
    refine tkY 24 ⟨some 62, .move (.tmp 61), 4, "law.go:69", #[⟨23, .data⟩, ⟨21, .chain⟩], none⟩ ?v24z22 hHeld ?y24z22 ?r24z22
    case y24z22 => (intro w hSw; (try dsimp only at hSw); go_simp) <;> with_reducible rfl
    try simp only [Act.put, List.setIfInBounds_toArray, List.set_cons_zero, List.set_cons_succ]
    refine tkY 25 ⟨some 63, .move (.tmp 0), 3, "law.go:69", #[⟨24, .guard⟩], some (24, true)⟩ ?v25z23 hHeld ?y25z23 ?r25z23
    case y25z23 => (intro w hSw; (try dsimp only at hSw); go_simp) <;> with_reducible rfl
    try simp only [Act.put, List.setIfInBounds_toArray, List.set_cons_zero, List.set_cons_succ]
    refine tkY 26 ⟨some 64, .move (.tmp 2), 22, "law.go:69", #[⟨24, .guard⟩], some (24, true)⟩ ?v26z24 hHeld ?y26z24 ?r26z24
    case y26z24 => (intro w hSw; (try dsimp only at hSw); go_simp) <;> with_reducible rfl
    try simp only [Act.put, List.setIfInBounds_toArray, List.set_cons_zero, List.set_cons_succ]
    refine tkY 27 ⟨some 65, .load 28 (.tmp 7), 28, "law.go:69", #[⟨24, .guard⟩], some (24, true)⟩ ?v27z25 hHeld ?y27z25 ?r27z25
    case y27z25 => (intro w hSw; (try dsimp only at hSw); obtain ⟨a0, a1, a2, a3, a4, a5, a6, a7, a8, a9, a10⟩ := cells11 hSw.1; go_simp) <;> with_reducible rfl
    try simp only [Act.put, List.setIfInBounds_toArray, List.set_cons_zero, List.set_cons_succ]
    refine tkY 29 ⟨some 67, .move (.tmp 0), 3, "law.go:69", #[⟨24, .guard⟩], some (24, true)⟩ ?v29z26 hHeld ?y29z26 ?r29z26
    case y29z26 => (intro w hSw; (try dsimp only at hSw); go_simp) <;> with_reducible rfl
    try simp only [Act.put, List.setIfInBounds_toArray, List.set_cons_zero, List.set_cons_succ]
    refine tkY 30 ⟨some 68, .move (.tmp 2), 22, "law.go:69", #[⟨24, .guard⟩], some (24, true)⟩ ?v30z27 hHeld ?y30z27 ?r30z27
    case y30z27 => (intro w hSw; (try dsimp only at hSw); go_simp) <;> with_reducible rfl
    try simp only [Act.put, List.setIfInBounds_toArray, List.set_cons_zero, List.set_cons_succ]
    refine tkY 31 ⟨some 69, .load 28 (.tmp 7), 28, "law.go:69", #[⟨24, .guard⟩], some (24, true)⟩ ?v31z28 hHeld ?y31z28 ?r31z28
    case y31z28 => (intro w hSw; (try dsimp only at hSw); obtain ⟨a0, a1, a2, a3, a4, a5, a6, a7, a8, a9, a10⟩ := cells11 hSw.1; go_simp) <;> with_reducible rfl
    try simp only [Act.put, List.setIfInBounds_toArray, List.set_cons_zero, List.set_cons_succ]
    refine wpAnyH_ready (rs := [28]) (by kernel_rfl) (by simp) ?_
    refine AllReadyH.cons (o := ⟨some 66, .call { callee := .value (.func 12), args := #[.tmp 63, .tmp 64, .tmp 65], argTypes := #[3, 22, 28] }, 38, "law.go:69", #[⟨25, .data⟩, ⟨26, .data⟩, ⟨27, .data⟩, ⟨24, .chain⟩, ⟨24, .guard⟩], some (24, true)⟩) rfl (fun K hK => ?_) AllReadyH.nil
    go_simp
    refine (hT1 _ hb6).mono ?_
    rintro z w7 ⟨p7, c7, rfl, k7, hb7'⟩
    have hb7 := hb6.trans (hb7'.mono hb6.size)
    replace hHeld := hheld w7 hb7
    refine hK.out _ _ ?_ (fun _ => ?_)
    · exact hHeld
    clear hK K
    try simp only [Act.put, List.setIfInBounds_toArray, List.set_cons_zero, List.set_cons_succ]
    refine wpAnyH_ready (rs := [32]) (by kernel_rfl) (by simp) ?_
    refine AllReadyH.cons (o := ⟨some 70, .call { callee := .value (.func 13), args := #[.tmp 67, .tmp 68, .tmp 69], argTypes := #[3, 22, 28] }, 38, "law.go:69", #[⟨29, .data⟩, ⟨30, .data⟩, ⟨31, .data⟩, ⟨28, .chain⟩, ⟨24, .guard⟩], some (24, true)⟩) rfl (fun K hK => ?_) AllReadyH.nil
    go_simp
    refine (hT2 _ hb7).mono ?_
    rintro z w8 ⟨p8, c8, rfl, k8, hb8'⟩
    have hb8 := hb7.trans (hb8'.mono hb7.size)
    replace hHeld := hheld w8 hb8
    have k7' := k7.later hb8'
    refine hK.out _ _ ?_ (fun _ => ?_)
    · exact hHeld
    clear hK K
    try simp only [Act.put, List.setIfInBounds_toArray, List.set_cons_zero, List.set_cons_succ]
    refine wpAnyH_ready (rs := [33]) (by kernel_rfl) (by simp) ?_
    refine AllReadyH.cons (o := ⟨some 71, .call { callee := .value (.func 11), args := #[.tmp 66, .tmp 70], argTypes := #[38, 38] }, 4, "law.go:69", #[⟨28, .data⟩, ⟨32, .data⟩, ⟨32, .chain⟩, ⟨24, .guard⟩], some (24, true)⟩) rfl (fun K hK => ?_) AllReadyH.nil
    go_simp
    refine (same_t _ _ _ _ _ k7' k8 rfl).mono ?_
    rintro z w9 ⟨rfl, hw9⟩
    rw [hw9]
    clear hw9
    refine hK.out _ _ ?_ (fun _ => ?_)
    · exact hHeld
    clear hK K
    try simp only [Act.put, List.setIfInBounds_toArray, List.set_cons_zero, List.set_cons_succ]
    refine tkY 34 ⟨some 72, .pick (.tmp 62) (.tmp 71) (.const (.bool false)), 4, "law.go:69", #[⟨24, .data⟩, ⟨33, .data⟩], none⟩ ?v34z29 hHeld ?y34z29 ?r34z29
    case y34z29 => (intro w hSw; (try dsimp only at hSw); go_simp) <;> with_reducible rfl
    try simp only [Act.put, List.setIfInBounds_toArray, List.set_cons_zero, List.set_cons_succ]
    refine tkY 35 ⟨some 73, .move (.tmp 72), 4, "law.go:69", #[⟨34, .data⟩, ⟨33, .chain⟩], none⟩ ?v35z30 hHeld ?y35z30 ?r35z30
    case y35z30 => (intro w hSw; (try dsimp only at hSw); go_simp) <;> with_reducible rfl
    try simp only [Act.put, List.setIfInBounds_toArray, List.set_cons_zero, List.set_cons_succ]
    refine wpAnyH_ready (rs := [36]) (by kernel_rfl) (by simp) ?_
    refine AllReadyH.cons (o := ⟨some 74, .call { callee := .value (.func 5), args := #[], argTypes := #[] }, 4, "law.go:69", #[⟨35, .chain⟩, ⟨35, .guard⟩], some (35, true)⟩) rfl (fun K hK => ?_) AllReadyH.nil
    go_simp
    refine (hAw _ (hTU.later hb8)).mono ?_
    rintro z w10 ⟨rfl, hb10'⟩
    have hb10 := hb8.trans (hb10'.mono hb8.size)
    replace hHeld := hheld w10 hb10
    refine hK.out _ _ ?_ (fun _ => ?_)
    · exact hHeld
    clear hK K
    try simp only [Act.put, List.setIfInBounds_toArray, List.set_cons_zero, List.set_cons_succ]
    refine tkY 37 ⟨some 75, .pick (.tmp 73) (.tmp 74) (.const (.bool false)), 4, "law.go:69", #[⟨35, .data⟩, ⟨36, .data⟩], none⟩ ?v37z31 hHeld ?y37z31 ?r37z31
    case y37z31 => (intro w hSw; (try dsimp only at hSw); go_simp) <;> with_reducible rfl
    try simp only [Act.put, List.setIfInBounds_toArray, List.set_cons_zero, List.set_cons_succ]
    refine tkY 38 ⟨some 8, .assign (.tmp 75), 4, "law.go:69", #[⟨37, .data⟩, ⟨36, .chain⟩, ⟨0, .phase⟩, ⟨1, .phase⟩, ⟨2, .phase⟩, ⟨3, .phase⟩, ⟨4, .phase⟩, ⟨5, .phase⟩, ⟨6, .phase⟩, ⟨7, .phase⟩, ⟨8, .phase⟩, ⟨9, .phase⟩, ⟨10, .phase⟩, ⟨11, .phase⟩, ⟨12, .phase⟩, ⟨13, .phase⟩, ⟨14, .phase⟩, ⟨15, .phase⟩, ⟨16, .phase⟩, ⟨17, .phase⟩, ⟨18, .phase⟩, ⟨19, .phase⟩, ⟨20, .phase⟩, ⟨21, .phase⟩, ⟨22, .phase⟩, ⟨23, .phase⟩, ⟨24, .phase⟩, ⟨25, .phase⟩, ⟨26, .phase⟩, ⟨27, .phase⟩, ⟨28, .phase⟩, ⟨29, .phase⟩, ⟨30, .phase⟩, ⟨31, .phase⟩, ⟨32, .phase⟩, ⟨33, .phase⟩, ⟨34, .phase⟩, ⟨35, .phase⟩, ⟨36, .phase⟩, ⟨37, .phase⟩], none⟩ ?v38z32 hHeld ?y38z32 ?r38z32
    case y38z32 => (intro w hSw; (try dsimp only at hSw); go_simp) <;> with_reducible rfl
    try simp only [Act.put, List.setIfInBounds_toArray, List.set_cons_zero, List.set_cons_succ]
    refine wpAnyH_done (by kernel_rfl) ?_ _
    have HW := bWU.trans (hb10.mono bWU.size)
    clear hHeld hheld hSI hC1 hC2 hT1 hT2 hAw bD hb4 hb5 hb6 hb7 hb8 hb4' hb5' hb6' hb7' hb8' hb10' hb10 k7 k7' k8
    go_wp2
    go_ret
    exact ⟨rfl, HW⟩
  · have t1 : decide ((300 : Int) < (hs.length : Int)) = true := by simp; omega
    clear hC1' hC2' hT1' hT2' hF1 hF2 hbP
    go_enter Tryz.func3, Tryz.ntmps3
    go_wp2_with (first | (go_at_call 5; refine (hAw _ (hT.later bV)).mono ?_; rintro e wa ⟨rfl, hba⟩))
    have HW := bV.trans (hba.mono bV.size)
    clear hba
    go_wp2
    go_ret
    exact ⟨rfl, HW⟩

end Go.Proofs.YtahfjemllkbpgaaGreatDoor

namespace Go.Proofs.YtahfjemllkbpgaaGreatDoor
open Go.ChangeShapes Go.WideShapes Go.ChangeAt Go.RowKit

set_option maxRecDepth 100000 in
theorem pathAnyContract (H : Type) (enc : TypeId × Value → H) (W : World) (base : Nat) (args : Array Value) (ds gs : List (DataW H)) (before : List MemPlace)
    (hval : ∀ (j : Nat) t v, Tryz.f3.params[j]? = some t → args[j]? = some v → Value.okWide Tryz.prog W .any base t v)
    (hW : DataW.Whole enc Tryz.prog Tryz.f3.params.toList Rows.pathAnySpec.vars false W args.toList ds gs before) (hsz0 : (DataW.weightsEach Tryz.prog (Tryz.f3.params.toList ++ (OpenSpec.ofChange Rows.pathAnySpec).bare.plain.varTypes Tryz.prog) (ds ++ gs)).all (· ≤ reachBytes) = true) (hL : laidMetH Tryz.prog Rows.pathAnyRow.laid W) :
    Calls Tryz.prog 3 args W fun e W' => ∃ v, e = .returned v ∧ Rows.pathAnySpec.post enc Tryz.prog Tryz.f3 false true false false W args v W' := by
  have hT : Tabs W := tabs_of hL
  have hW' := hW
  obtain ⟨p, q, hA0, hV, rfl, hfz, hnd⟩ := hW
  have hA : DataW.TrodAll enc Tryz.prog W 0 (fun _ => true) true Tryz.f3.params.toList args.toList ds p := hA0
  rw [Tryz.params3] at hA hval hsz0
  obtain ⟨v0, vs0, d0, ds0, p0, q0, hargs, rfl, rfl, h0, r0⟩ := trodAll_cons hA
  obtain ⟨v1, vs1, d1, ds1, p1, q1, rfl, rfl, rfl, h1, r1⟩ := trodAll_cons r0
  obtain ⟨v2, vs2, d2, ds2, p2, q2, rfl, rfl, rfl, h2, r2⟩ := trodAll_cons r1
  obtain ⟨v3, vs3, d3, ds3, p3, q3, rfl, rfl, rfl, h3, r3⟩ := trodAll_cons r2
  obtain ⟨rfl, rfl, rfl⟩ := trodAll_nil r3
  obtain rfl : args = #[v0, v1, v2, v3] := by cases args; simp_all
  obtain ⟨rfl, rfl⟩ := trodVars_none hV
  obtain ⟨a0, rfl, rfl, rfl, w0⟩ := open_int Tryz.underlying3 (hval 0 3 v0 rfl rfl) h0
  have k1 := h1
  have lt1 : ∀ x ∈ p1, x.block < W.heap.size := by obtain ⟨m, hm⟩ := k1; exact DataW.trod_lt m _ _ _ hm
  obtain ⟨l1, hl1, he1⟩ := open_hb (hval 1 22 v1 rfl rfl) h1
  have hr1 : l1.length ≤ 140737488351232 := hb_reach hsz0 1 rfl rfl he1
  have k2 := h2
  have lt2 : ∀ x ∈ p2, x.block < W.heap.size := by obtain ⟨m, hm⟩ := k2; exact DataW.trod_lt m _ _ _ hm
  obtain ⟨l2, hl2, he2⟩ := open_hb (hval 2 22 v2 rfl rfl) h2
  have hr2 : l2.length ≤ 140737488351232 := hb_reach hsz0 2 rfl rfl he2
  have k3 := h3
  have lt3 : ∀ x ∈ p3, x.block < W.heap.size := by obtain ⟨m, hm⟩ := k3; exact DataW.trod_lt m _ _ _ hm
  obtain ⟨hs3, x3, hv3, pi3, pk3, pp3, pl3, pr3, pq3, ci3, ck3, cp3, cl3, cr3, cq3, rfl, ha3, hb3, hc3, hd3, he3, hf3⟩ := open_path (hval 3 28 v3 rfl rfl) h3
  clear hA0
  simp only [List.append_nil] at hW'
  refine (pathAny_any a0 v1 v2 hv3 l1 l2 hs3 x3 pi3 pk3 pp3 pl3 pr3 pq3 ci3 ck3 cp3 cl3 cr3 cq3 W hl1 hl2 ha3 hb3 hc3 hd3 he3 hf3 hT).mono fun e W' ⟨he, bel⟩ => ?_
  subst he
  exact ⟨_, rfl, _, _, _, [], _, [], hW', trodAll_mk1 (shut_bool Tryz.underlying4 _), (trodAll_cons_mk (shut_int Tryz.underlying3 w0) (trodAll_cons_mk (Below.trod laidOut (by kernel_rfl) (of_decide_eq_true (by kernel_rfl)) k1 bel lt1) (trodAll_cons_mk (Below.trod laidOut (by kernel_rfl) (of_decide_eq_true (by kernel_rfl)) k2 bel lt2) (trodAll_cons_mk (Below.trod laidOut (by kernel_rfl) (of_decide_eq_true (by kernel_rfl)) k3 bel lt3) trodAll_mk0)))), rfl, bel.frame _, fun h => by cases h⟩

theorem pathAnyMet (os : Os) : laidMet Tryz.prog Rows.pathAnyRow.laid (({ World.holding Tryz.prog os ⟨#[], #[], []⟩ with heap := ((World.holding Tryz.prog os ⟨#[], #[], []⟩).heap.modify 0 fun | .cells _ t frozen => .cells startCells t frozen | o => o).modify 1 fun | .cells _ t frozen => .cells roundsCells t frozen | o => o } : World).forCall (fun _ _ => 0) ⟨#[], #[.int .i64 0, .slice none 0 0, .slice none 0 0, .agg #[.slice none 0 0, .int .i64 0, .slice none 0 0, .slice none 0 0, .int .i64 0, .int .i64 0, .slice none 0 0, .int .i64 0, .slice none 0 0, .slice none 0 0, .slice none 0 0]], []⟩).memory :=
  laidMet_of_run' 8 (by kernel_rfl) (by kernel_rfl)
theorem pathAnyReads (os : Os) {H : Type} (enc : TypeId × Value → H) : ∃ places, DataW.whole enc Tryz.prog (({ World.holding Tryz.prog os ⟨#[], #[], []⟩ with heap := ((World.holding Tryz.prog os ⟨#[], #[], []⟩).heap.modify 0 fun | .cells _ t frozen => .cells startCells t frozen | o => o).modify 1 fun | .cells _ t frozen => .cells roundsCells t frozen | o => o } : World).forCall (fun _ _ => 0) ⟨#[], #[.int .i64 0, .slice none 0 0, .slice none 0 0, .agg #[.slice none 0 0, .int .i64 0, .slice none 0 0, .slice none 0 0, .int .i64 0, .int .i64 0, .slice none 0 0, .int .i64 0, .slice none 0 0, .slice none 0 0, .slice none 0 0]], []⟩).memory Tryz.f3.params.toList Rows.pathAnySpec.vars false (#[.int .i64 0, .slice none 0 0, .slice none 0 0, .agg #[.slice none 0 0, .int .i64 0, .slice none 0 0, .slice none 0 0, .int .i64 0, .int .i64 0, .slice none 0 0, .int .i64 0, .slice none 0 0, .slice none 0 0, .slice none 0 0]] : Array Value).toList 8 = some ([.lit (.int .i64 0), .nil, .nil, .agg [.nil, .agg [.lit (.int .i64 0), .nil, .nil, .lit (.int .i64 0), .lit (.int .i64 0), .nil, .lit (.int .i64 0), .nil, .nil, .nil]]], [], places) :=
  ⟨[], by kernel_rfl⟩

set_option maxRecDepth 100000 in
theorem pathAnyLifted (os : Os) (started : os.Started) (H : Type) (enc : TypeId × Value → H) (F : Stop.Interp) :
    ReturnsInHanded {} Tryz.checked os 3 .any ((OpenSpec.ofChange Rows.pathAnySpec).preRow enc Tryz.prog Tryz.f3 Rows.pathAnyRow.domain false Rows.pathAnyRow.laid) (((OpenSpec.ofChange Rows.pathAnySpec).at F).post enc Tryz.prog Tryz.f3 false true false false) := by
  obtain ⟨places, hx⟩ := pathAnyReads os enc
  refine returnsInHanded_of_row (C := Tryz.checked) (s := OpenSpec.ofChange Rows.pathAnySpec) own started (by kernel_rfl) Tryz.func3
    (witness_row_at (enc := enc) (C := Tryz.checked) false ({ World.holding Tryz.prog os ⟨#[], #[], []⟩ with heap := ((World.holding Tryz.prog os ⟨#[], #[], []⟩).heap.modify 0 fun | .cells _ t frozen => .cells startCells t frozen | o => o).modify 1 fun | .cells _ t frozen => .cells roundsCells t frozen | o => o } : World) #[.int .i64 0, .slice none 0 0, .slice none 0 0, .agg #[.slice none 0 0, .int .i64 0, .slice none 0 0, .slice none 0 0, .int .i64 0, .int .i64 0, .slice none 0 0, .int .i64 0, .slice none 0 0, .slice none 0 0, .slice none 0 0]] rfl (by kernel_rfl) (by kernel_rfl) (by kernel_rfl)
      (OpenSpec.preRow_of_cond 8 hx (by kernel_rfl) (fun k hk => by cases hk) (by kernel_rfl) (pathAnyMet os))) ?_
  intro W base args ds gs before hval hW _ _ hsz hL _ _
  exact pathAnyContract H enc W base args ds gs before hval hW hsz hL

theorem pathAnySaid_holds : Rows.PathAnySaid :=
  OpenClaim.holds_of_cond 3 Tryz.f3 rfl rfl rfl rfl rfl rfl rfl ⟨rfl, rfl, rfl, rfl, rfl⟩ rfl rfl rfl rfl rfl (by kernel_rfl) Tryz.func3 (by kernel_rfl)
    (of_decide_eq_true (by kernel_rfl)) (by unfold Func.isWrapper; first | (rw [if_pos (by decide +kernel)]; kernel_rfl) | (rw [if_neg (by decide +kernel)]; exact ⟨rfl, rfl⟩))
    (fun os started H enc _ F => by rw [OpenClaim.pre_eq_preRow]; exact pathAnyLifted os started H enc F)

theorem pathAnyPlain (f : FuncId) (fn : Func) (hf : Tryz.pinned.checked.prog.funcNamed "annals/annalslaw17.PathAny" = some f) (hfn : Tryz.pinned.checked.prog.funcs[f]? = some fn) :
    true = Tryz.pinned.checked.prog.looks [] ∧ ∀ (j : Nat) t, fn.params[j]? = some t → Tryz.pinned.checked.prog.wantsStandIn t = false := by
  obtain rfl : f = 3 := Option.some.inj ((show Tryz.prog.funcNamed "annals/annalslaw17.PathAny" = some 3 by kernel_rfl).symm.trans hf) |>.symm
  obtain rfl : fn = Tryz.f3 := (Option.some.inj (Tryz.func3.symm.trans hfn)).symm
  refine ⟨by kernel_rfl, fun j t ht => ?_⟩
  rw [Tryz.params3] at ht
  have hm : t = 3 ∨ t = 22 ∨ t = 22 ∨ t = 28 := by simpa using Array.mem_of_getElem? ht
  rcases hm with rfl | rfl | rfl | rfl
  · exact (show Tryz.prog.wantsStandIn 3 = false by kernel_rfl)
  · exact (show Tryz.prog.wantsStandIn 22 = false by kernel_rfl)
  · exact (show Tryz.prog.wantsStandIn 22 = false by kernel_rfl)
  · exact (show Tryz.prog.wantsStandIn 28 = false by kernel_rfl)

theorem pathAny_holds : Rows.PathAnyCardSaid :=
  Claim7.holds_tied_plain_at .later [] _ _ _ _ pathAnySaid_holds (fun _ h => by cases h) (by kernel_rfl) (fun _ h => by cases h) pathAny_row_tie rfl ⟨rfl, rfl⟩ (by kernel_rfl) rfl pathAnyPlain (by kernel_rfl)

#print axioms pathAny_holds
end Go.Proofs.YtahfjemllkbpgaaGreatDoor
