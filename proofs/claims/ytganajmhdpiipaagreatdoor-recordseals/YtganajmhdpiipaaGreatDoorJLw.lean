/- What this text proves: the walk of the statement RecordSeals over this program: it answers true for any arguments, and writes nothing that was there. (By program: held.py, mkseals.py.) Proved here: Rows.RecordSealsCardSaid: for every size, height, public key, signed record and slice of bytes the Go function annalslaw13.RecordSeals returns true (both Seals, both Opens and both Checks answer alike). No condition; the tables of packages math/bits and sha start as the program's text lays them. -/
import Derived.Test.YtganajmhdpiipaaGreatDoorJW1
import Derived.Test.YtganajmhdpiipaaGreatDoorJR3
import Derived.Test.YtganajmhdpiipaaGreatDoorJCk
import Derived.Test.YtganajmhdpiipaaGreatDoorJSm
namespace Go.Proofs.YtganajmhdpiipaaGreatDoor
open Go.RowKit

set_option maxRecDepth 100000 in
set_option maxHeartbeats 8000000 in
theorem recordSeals_walk (size height e t c idx : Int) (pb tv lv kv cv pv v : Value) (PB tr li b : List UInt8) (lk ls ps : List (List UInt8)) (w : World) (h0 : HB w pb PB) (h1 : HB w tv tr) (h2 : HB w lv li) (h3 : PA w kv lk) (h4 : PA w cv ls) (h5 : PA w pv ps) (hv : HB w v b) (hsz : b.length ≤ 140737488351232) (hTD : TD w) (hT : Tabs w) :
    Calls Tryz.prog 3 #[.int .i64 size, .int .i64 height, pb, .agg #[.int .i64 e, .int .i64 t, tv, .int .i64 c, lv, kv, .int .i64 idx, cv, pv], v] w fun x w' => x = .returned (.bool true) ∧ Below w.heap.size w w' := by
  obtain ⟨bp, bc', rfl⟩ := h0.shape
  obtain ⟨tp, tc, rfl⟩ := h1.shape
  obtain ⟨lp, lc, rfl⟩ := h2.shape
  obtain ⟨kp, kc, rfl⟩ := h3.shape
  obtain ⟨cp, cc, rfl⟩ := h4.shape
  obtain ⟨pp, pc, rfl⟩ := h5.shape
  obtain ⟨vp, vc, rfl⟩ := hv.shape
  have bA := (Below.refl w.heap.size w).alloc (Nat.le_refl _) (.cells #[.int .i64 e, .int .i64 t, .slice tp tr.length tc, .int .i64 c, .slice lp li.length lc, .slice kp lk.length kc, .int .i64 idx, .slice cp ls.length cc, .slice pp ps.length pc] 29)
  have gA := heap_alloc_new w (.cells #[.int .i64 e, .int .i64 t, .slice tp tr.length tc, .int .i64 c, .slice lp li.length lc, .slice kp lk.length kc, .int .i64 idx, .slice cp ls.length cc, .slice pp ps.length pc] 29)
  obtain ⟨V, hV⟩ : ∃ V, V = w.alloc (.cells #[.int .i64 e, .int .i64 t, .slice tp tr.length tc, .int .i64 c, .slice lp li.length lc, .slice kp lk.length kc, .int .i64 idx, .slice cp ls.length cc, .slice pp ps.length pc] 29) := ⟨_, rfl⟩
  rw [← hV] at bA gA
  have hg : w.heap.size < V.heap.size := (Array.getElem?_eq_some_iff.1 gA).1
  have kP := h0.later bA
  have k1 := h1.later bA
  have k2 := h2.later bA
  have k3 := h3.later bA
  have k4 := h4.later bA
  have k5 := h5.later bA
  have kb := hv.later bA
  have tV := hTD.later bA
  have sV := hT.later bA
  clear h0 h1 h2 h3 h4 h5 hv hTD hT
  have hr : ∀ W, Below V.heap.size V W → W.cell? ⟨w.heap.size, 0, none⟩ = some (.int .i64 e) ∧ W.cell? ⟨w.heap.size, 1, none⟩ = some (.int .i64 t) ∧ W.cell? ⟨w.heap.size, 2, none⟩ = some (.slice tp tr.length tc) ∧ W.cell? ⟨w.heap.size, 3, none⟩ = some (.int .i64 c) ∧ W.cell? ⟨w.heap.size, 4, none⟩ = some (.slice lp li.length lc) ∧ W.cell? ⟨w.heap.size, 5, none⟩ = some (.slice kp lk.length kc) ∧ W.cell? ⟨w.heap.size, 6, none⟩ = some (.int .i64 idx) ∧ W.cell? ⟨w.heap.size, 7, none⟩ = some (.slice cp ls.length cc) ∧ W.cell? ⟨w.heap.size, 8, none⟩ = some (.slice pp ps.length pc) := by
    intro W hB
    have g1 := (hB.block _ hg).trans gA
    refine ⟨?_, ?_, ?_, ?_, ?_, ?_, ?_, ?_, ?_⟩ <;> (rw [cell_of_row _ _ _ _ _ _ g1]; rfl)
  obtain ⟨SE, SZ, hS1, hS2⟩ := seals_two size e t c idx (.slice tp tr.length tc) (.slice lp li.length lc) (.slice kp lk.length kc) (.slice cp ls.length cc) (.slice pp ps.length pc) tr li lk ls ps
  obtain ⟨OE, r, ix, Ls, Ps, hO1, hO2⟩ := opens_two size height b (by omega)
  obtain ⟨B, hC1, hC2⟩ := checks_two size height e t c idx PB tr li lk ls ps
  have hE1 := hS1 V k1 k2 k3 k4 k5 tV
  have hE2 := fun W (hB : Below V.heap.size V W) => hS2 W (k1.later hB) (k2.later hB) (k3.later hB) (k4.later hB) (k5.later hB)
  have hD1 := fun W (hB : Below V.heap.size V W) => hO1 _ W (kb.later hB) (tV.later hB)
  have hD2 := fun W (hB : Below V.heap.size V W) => hO2 _ W (kb.later hB)
  have HC1 : Hid (∀ W, Below V.heap.size V W → Calls Tryz.prog 11 #[.int .i64 size, .int .i64 height, .slice bp PB.length bc', .agg #[.int .i64 e, .int .i64 t, .slice tp tr.length tc, .int .i64 c, .slice lp li.length lc, .slice kp lk.length kc, .int .i64 idx, .slice cp ls.length cc, .slice pp ps.length pc]] W fun x w' => x = .returned (.bool B) ∧ Below W.heap.size W w') := fun W hB => hC1 _ _ _ _ _ _ W (kP.later hB) (k1.later hB) (k2.later hB) (k3.later hB) (k4.later hB) (k5.later hB) (tV.later hB) (sV.later hB)
  have HC2 : Hid (∀ W, Below V.heap.size V W → Calls Tryz.prog 12 #[.int .i64 size, .int .i64 height, .slice bp PB.length bc', .agg #[.int .i64 e, .int .i64 t, .slice tp tr.length tc, .int .i64 c, .slice lp li.length lc, .slice kp lk.length kc, .int .i64 idx, .slice cp ls.length cc, .slice pp ps.length pc]] W fun x w' => x = .returned (.bool B) ∧ Below W.heap.size W w') := fun W hB => hC2 _ _ _ _ _ _ W (kP.later hB) (k1.later hB) (k2.later hB) (k3.later hB) (k4.later hB) (k5.later hB)
  clear k1 k2 k3 k4 k5 kP kb gA hS1 hS2 hO1 hO2 hC1 hC2 sV
  obtain ⟨c0, c1, c2, c3, c4, c5, c6, c7, c8⟩ := hr V (Below.refl _ _)
  go_enter Tryz.func3, Tryz.ntmps3
  go_wp2_with fail
  rw [← hV]
  refine hE1.mono ?_
  rintro x w2 ⟨xp, xc, rfl, hx, b2⟩
  clear hE1 c0 c1 c2 c3 c4 c5 c6 c7 c8 hV
  obtain ⟨c0, c1, c2, c3, c4, c5, c6, c7, c8⟩ := hr w2 b2
  go_wp2_with fail
  refine (hE2 _ b2).mono ?_
  rintro x w3 ⟨yp, yc, rfl, hy, b3'⟩
  have b3 := b2.trans (b3'.mono b2.size)
  have hx3 := hx.later b3'
  clear hE2 hx c0 c1 c2 c3 c4 c5 c6 c7 c8 b2 b3'
  go_wp2_with fail
  refine (hD1 _ b3).mono ?_
  rintro x w4 ⟨au1, bu1, au2, bu2, au3, bu3, au4, bu4, au5, bu5, rfl, u1, u2, u3, u4, u5, b4'⟩
  have b4 := b3.trans (b4'.mono b3.size)
  have hx4 := hx3.later b4'
  have hy4 := hy.later b4'
  clear hD1 hx3 hy b3 b4'
  obtain ⟨U, hU⟩ : ∃ U, U = w4.alloc (.cells #[.int .i64 r.e, .int .i64 r.t, .slice au1 r.tr.length bu1, .int .i64 r.c, .slice au2 r.li.length bu2, .slice au3 r.lk.length bu3, .int .i64 ix, .slice au4 Ls.length bu4, .slice au5 Ps.length bu5] 29) := ⟨_, rfl⟩
  have bU' : Below w4.heap.size w4 U := by rw [hU]; exact (Below.refl _ w4).alloc (Nat.le_refl _) _
  have gU : U.heap[w4.heap.size]? = some (.cells #[.int .i64 r.e, .int .i64 r.t, .slice au1 r.tr.length bu1, .int .i64 r.c, .slice au2 r.li.length bu2, .slice au3 r.lk.length bu3, .int .i64 ix, .slice au4 Ls.length bu4, .slice au5 Ps.length bu5] 29 (0, 0)) := by rw [hU]; exact heap_alloc_new w4 _
  have bU := b4.trans (bU'.mono b4.size)
  go_wp2_with fail
  rw [← hU]
  refine (hD2 _ bU).mono ?_
  rintro x w5 ⟨av1, bv1, av2, bv2, av3, bv3, av4, bv4, av5, bv5, rfl, v1, v2, v3, v4, v5, b5'⟩
  have b5 := bU.trans (b5'.mono bU.size)
  have b45 := bU'.trans (b5'.mono bU'.size)
  have gu5 := (b5'.block _ (Array.getElem?_eq_some_iff.1 gU).1).trans gU
  clear hD2 hU gU bU' bU b5'
  obtain ⟨X, hX⟩ : ∃ X, X = w5.alloc (.cells #[.int .i64 r.e, .int .i64 r.t, .slice av1 r.tr.length bv1, .int .i64 r.c, .slice av2 r.li.length bv2, .slice av3 r.lk.length bv3, .int .i64 ix, .slice av4 Ls.length bv4, .slice av5 Ps.length bv5] 29) := ⟨_, rfl⟩
  have bX' : Below w5.heap.size w5 X := by rw [hX]; exact (Below.refl _ w5).alloc (Nat.le_refl _) _
  have gvX : X.heap[w5.heap.size]? = some (.cells #[.int .i64 r.e, .int .i64 r.t, .slice av1 r.tr.length bv1, .int .i64 r.c, .slice av2 r.li.length bv2, .slice av3 r.lk.length bv3, .int .i64 ix, .slice av4 Ls.length bv4, .slice av5 Ps.length bv5] 29 (0, 0)) := by rw [hX]; exact heap_alloc_new w5 _
  have guX := (bX'.block _ (Array.getElem?_eq_some_iff.1 gu5).1).trans gu5
  have bVX := b5.trans (bX'.mono b5.size)
  have b4X := b45.trans (bX'.mono b45.size)
  go_wp2
  rw [← hX]
  clear hX
  replace u1 := u1.later b4X
  replace u2 := u2.later b4X
  replace u3 := u3.later b4X
  replace u4 := u4.later b4X
  replace u5 := u5.later b4X
  replace v1 := v1.later bX'
  replace v2 := v2.later bX'
  replace v3 := v3.later bX'
  replace v4 := v4.later bX'
  replace v5 := v5.later bX'
  have hx := hx4.later b4X
  have hy := hy4.later b4X
  have tX := tV.later bVX
  have bX := bA.trans (bVX.mono bA.size)
  have lu : w4.heap.size < X.heap.size := (Array.getElem?_eq_some_iff.1 guX).1
  have lv2 : w5.heap.size < X.heap.size := (Array.getElem?_eq_some_iff.1 gvX).1
  replace HC1 : Hid (∀ W, Below X.heap.size X W → Calls Tryz.prog 11 #[.int .i64 size, .int .i64 height, .slice bp PB.length bc', .agg #[.int .i64 e, .int .i64 t, .slice tp tr.length tc, .int .i64 c, .slice lp li.length lc, .slice kp lk.length kc, .int .i64 idx, .slice cp ls.length cc, .slice pp ps.length pc]] W fun x w' => x = .returned (.bool B) ∧ Below W.heap.size W w') := fun W hB => HC1.out W (bVX.trans (hB.mono bVX.size))
  replace HC2 : Hid (∀ W, Below X.heap.size X W → Calls Tryz.prog 12 #[.int .i64 size, .int .i64 height, .slice bp PB.length bc', .agg #[.int .i64 e, .int .i64 t, .slice tp tr.length tc, .int .i64 c, .slice lp li.length lc, .slice kp lk.length kc, .int .i64 idx, .slice cp ls.length cc, .slice pp ps.length pc]] W fun x w' => x = .returned (.bool B) ∧ Below W.heap.size W w') := fun W hB => HC2.out W (bVX.trans (hB.mono bVX.size))
  obtain ⟨gu, hgu⟩ : ∃ gu, gu = w4.heap.size := ⟨_, rfl⟩
  obtain ⟨gv, hgv⟩ : ∃ gv, gv = w5.heap.size := ⟨_, rfl⟩
  rw [← hgu] at guX lu ⊢
  rw [← hgv] at gvX lv2 ⊢
  have hcells : ∀ W, Below X.heap.size X W → W.cell? ⟨w.heap.size, 0, none⟩ = some (.int .i64 e) ∧ W.cell? ⟨w.heap.size, 1, none⟩ = some (.int .i64 t) ∧ W.cell? ⟨w.heap.size, 2, none⟩ = some (.slice tp tr.length tc) ∧ W.cell? ⟨w.heap.size, 3, none⟩ = some (.int .i64 c) ∧ W.cell? ⟨w.heap.size, 4, none⟩ = some (.slice lp li.length lc) ∧ W.cell? ⟨w.heap.size, 5, none⟩ = some (.slice kp lk.length kc) ∧ W.cell? ⟨w.heap.size, 6, none⟩ = some (.int .i64 idx) ∧ W.cell? ⟨w.heap.size, 7, none⟩ = some (.slice cp ls.length cc) ∧ W.cell? ⟨w.heap.size, 8, none⟩ = some (.slice pp ps.length pc) ∧ W.cell? ⟨gu, 0, none⟩ = some (.int .i64 r.e) ∧ W.cell? ⟨gu, 1, none⟩ = some (.int .i64 r.t) ∧ W.cell? ⟨gu, 2, none⟩ = some (.slice au1 r.tr.length bu1) ∧ W.cell? ⟨gu, 3, none⟩ = some (.int .i64 r.c) ∧ W.cell? ⟨gu, 4, none⟩ = some (.slice au2 r.li.length bu2) ∧ W.cell? ⟨gu, 5, none⟩ = some (.slice au3 r.lk.length bu3) ∧ W.cell? ⟨gu, 6, none⟩ = some (.int .i64 ix) ∧ W.cell? ⟨gu, 7, none⟩ = some (.slice au4 Ls.length bu4) ∧ W.cell? ⟨gu, 8, none⟩ = some (.slice au5 Ps.length bu5) ∧ W.cell? ⟨gv, 0, none⟩ = some (.int .i64 r.e) ∧ W.cell? ⟨gv, 1, none⟩ = some (.int .i64 r.t) ∧ W.cell? ⟨gv, 2, none⟩ = some (.slice av1 r.tr.length bv1) ∧ W.cell? ⟨gv, 3, none⟩ = some (.int .i64 r.c) ∧ W.cell? ⟨gv, 4, none⟩ = some (.slice av2 r.li.length bv2) ∧ W.cell? ⟨gv, 5, none⟩ = some (.slice av3 r.lk.length bv3) ∧ W.cell? ⟨gv, 6, none⟩ = some (.int .i64 ix) ∧ W.cell? ⟨gv, 7, none⟩ = some (.slice av4 Ls.length bv4) ∧ W.cell? ⟨gv, 8, none⟩ = some (.slice av5 Ps.length bv5) := by
    intro W hB
    have g1 := (hB.block _ lu).trans guX
    have g2 := (hB.block _ lv2).trans gvX
    obtain ⟨a0, a1, a2, a3, a4, a5, a6, a7, a8⟩ := hr W (bVX.trans (hB.mono bVX.size))
    refine ⟨a0, a1, a2, a3, a4, a5, a6, a7, a8, ?_, ?_, ?_, ?_, ?_, ?_, ?_, ?_, ?_, ?_, ?_, ?_, ?_, ?_, ?_, ?_, ?_, ?_⟩
    all_goals first | (rw [cell_of_row _ _ _ _ _ _ g1]; rfl) | (rw [cell_of_row _ _ _ _ _ _ g2]; rfl)
  clear hr hgu hgv hx4 hy4 tV b4X bVX bX' b4 b5 b45 gu5 guX gvX bA
  have bD : Below X.heap.size X X.drew := (Below.refl _ X).drew
  have hHeld := hcells X.drew bD
  refine wp_region_heldN (by kernel_rfl) (fun W => W.cell? ⟨w.heap.size, 0, none⟩ = some (.int .i64 e) ∧ W.cell? ⟨w.heap.size, 1, none⟩ = some (.int .i64 t) ∧ W.cell? ⟨w.heap.size, 2, none⟩ = some (.slice tp tr.length tc) ∧ W.cell? ⟨w.heap.size, 3, none⟩ = some (.int .i64 c) ∧ W.cell? ⟨w.heap.size, 4, none⟩ = some (.slice lp li.length lc) ∧ W.cell? ⟨w.heap.size, 5, none⟩ = some (.slice kp lk.length kc) ∧ W.cell? ⟨w.heap.size, 6, none⟩ = some (.int .i64 idx) ∧ W.cell? ⟨w.heap.size, 7, none⟩ = some (.slice cp ls.length cc) ∧ W.cell? ⟨w.heap.size, 8, none⟩ = some (.slice pp ps.length pc) ∧ W.cell? ⟨gu, 0, none⟩ = some (.int .i64 r.e) ∧ W.cell? ⟨gu, 1, none⟩ = some (.int .i64 r.t) ∧ W.cell? ⟨gu, 2, none⟩ = some (.slice au1 r.tr.length bu1) ∧ W.cell? ⟨gu, 3, none⟩ = some (.int .i64 r.c) ∧ W.cell? ⟨gu, 4, none⟩ = some (.slice au2 r.li.length bu2) ∧ W.cell? ⟨gu, 5, none⟩ = some (.slice au3 r.lk.length bu3) ∧ W.cell? ⟨gu, 6, none⟩ = some (.int .i64 ix) ∧ W.cell? ⟨gu, 7, none⟩ = some (.slice au4 Ls.length bu4) ∧ W.cell? ⟨gu, 8, none⟩ = some (.slice au5 Ps.length bu5) ∧ W.cell? ⟨gv, 0, none⟩ = some (.int .i64 r.e) ∧ W.cell? ⟨gv, 1, none⟩ = some (.int .i64 r.t) ∧ W.cell? ⟨gv, 2, none⟩ = some (.slice av1 r.tr.length bv1) ∧ W.cell? ⟨gv, 3, none⟩ = some (.int .i64 r.c) ∧ W.cell? ⟨gv, 4, none⟩ = some (.slice av2 r.li.length bv2) ∧ W.cell? ⟨gv, 5, none⟩ = some (.slice av3 r.lk.length bv3) ∧ W.cell? ⟨gv, 6, none⟩ = some (.int .i64 ix) ∧ W.cell? ⟨gv, 7, none⟩ = some (.slice av4 Ls.length bv4) ∧ W.cell? ⟨gv, 8, none⟩ = some (.slice av5 Ps.length bv5)) 44 rfl ?_
  refine tkY 0 ⟨some 45, .move (.tmp 11), 22, "law.go:34", #[], none⟩ ?v0z1 hHeld ?y0z1 ?r0z1
  case y0z1 => (intro w hSw; (try dsimp only at hSw); go_simp) <;> with_reducible rfl
  try simp only [Act.put, List.setIfInBounds_toArray, List.set_cons_zero, List.set_cons_succ]
  refine tkY 1 ⟨some 46, .move (.tmp 13), 22, "law.go:34", #[], none⟩ ?v1z2 hHeld ?y1z2 ?r1z2
  case y1z2 => (intro w hSw; (try dsimp only at hSw); go_simp) <;> with_reducible rfl
  try simp only [Act.put, List.setIfInBounds_toArray, List.set_cons_zero, List.set_cons_succ]
  refine wpAnyH_ready (rs := [2]) (by kernel_rfl) (by simp) ?_
  refine AllReadyH.cons (o := ⟨some 47, .call { callee := .value (.func 8), args := #[.tmp 45, .tmp 46], argTypes := #[22, 22] }, 4, "law.go:34", #[⟨0, .data⟩, ⟨1, .data⟩], none⟩) rfl (fun K hK => ?_) AllReadyH.nil
  go_simp
  refine (equal_t _ _ SZ SZ _ (hx.later bD) (hy.later bD) rfl).mono ?_
  rintro x wz ⟨rfl, hwz⟩
  subst hwz
  refine hK.out _ _ ?_ (fun _ => ?_)
  · exact hHeld
  clear hK K
  try simp only [Act.put, List.setIfInBounds_toArray, List.set_cons_zero, List.set_cons_succ]
  refine tkY 3 ⟨some 48, .move (.tmp 47), 4, "law.go:34", #[⟨2, .data⟩, ⟨2, .chain⟩], none⟩ ?v3z3 hHeld ?y3z3 ?r3z3
  case y3z3 => (intro w hSw; (try dsimp only at hSw); go_simp) <;> with_reducible rfl
  try simp only [Act.put, List.setIfInBounds_toArray, List.set_cons_zero, List.set_cons_succ]
  refine tkY 4 ⟨some 49, .move (.tmp 12), 30, "law.go:34", #[⟨3, .guard⟩], some (3, true)⟩ ?v4z4 hHeld ?y4z4 ?r4z4
  case y4z4 => (intro w hSw; (try dsimp only at hSw); go_simp) <;> with_reducible rfl
  try simp only [Act.put, List.setIfInBounds_toArray, List.set_cons_zero, List.set_cons_succ]
  refine tkY 5 ⟨some 50, .move (.tmp 14), 30, "law.go:34", #[⟨3, .guard⟩], some (3, true)⟩ ?v5z5 hHeld ?y5z5 ?r5z5
  case y5z5 => (intro w hSw; (try dsimp only at hSw); go_simp) <;> with_reducible rfl
  try simp only [Act.put, List.setIfInBounds_toArray, List.set_cons_zero, List.set_cons_succ]
  refine tkY 6 ⟨some 51, .binOp .eql 30 (.tmp 49) (.tmp 50) 30, 4, "law.go:34", #[⟨4, .data⟩, ⟨5, .data⟩, ⟨3, .guard⟩], some (3, true)⟩ ?v6z6 hHeld ?y6z6 ?r6z6
  case y6z6 => (intro w hSw; (try dsimp only at hSw); go_simp) <;> with_reducible rfl
  try simp only [Act.put, List.setIfInBounds_toArray, List.set_cons_zero, List.set_cons_succ]
  refine tkY 7 ⟨some 52, .pick (.tmp 48) (.tmp 51) (.const (.bool false)), 4, "law.go:34", #[⟨3, .data⟩, ⟨6, .data⟩], none⟩ ?v7z7 hHeld ?y7z7 ?r7z7
  case y7z7 => (intro w hSw; (try dsimp only at hSw); go_simp) <;> with_reducible rfl
  try simp only [Act.put, List.setIfInBounds_toArray, List.set_cons_zero, List.set_cons_succ]
  refine tkY 8 ⟨some 53, .move (.tmp 52), 4, "law.go:34", #[⟨7, .data⟩, ⟨3, .chain⟩], none⟩ ?v8z8 hHeld ?y8z8 ?r8z8
  case y8z8 => (intro w hSw; (try dsimp only at hSw); go_simp) <;> with_reducible rfl
  try simp only [Act.put, List.setIfInBounds_toArray, List.set_cons_zero, List.set_cons_succ]
  refine tkY 9 ⟨some 54, .fieldAddr 29 (.tmp 15) 0, 0, "law.go:34", #[⟨8, .guard⟩], some (8, true)⟩ ?v9z9 hHeld ?y9z9 ?r9z9
  case y9z9 => (intro w hSw; (try dsimp only at hSw); go_simp) <;> with_reducible rfl
  try simp only [Act.put, List.setIfInBounds_toArray, List.set_cons_zero, List.set_cons_succ]
  refine tkY 10 ⟨some 55, .load 25 (.tmp 54), 25, "law.go:34", #[⟨9, .data⟩, ⟨8, .guard⟩], some (8, true)⟩ ?v10z10 hHeld ?y10z10 ?r10z10
  case y10z10 => (intro w hSw; (try dsimp only at hSw); go_simp) <;> with_reducible rfl
  try simp only [Act.put, List.setIfInBounds_toArray, List.set_cons_zero, List.set_cons_succ]
  refine tkY 11 ⟨some 56, .fieldAddr 29 (.tmp 17) 0, 0, "law.go:34", #[⟨8, .guard⟩], some (8, true)⟩ ?v11z11 hHeld ?y11z11 ?r11z11
  case y11z11 => (intro w hSw; (try dsimp only at hSw); go_simp) <;> with_reducible rfl
  try simp only [Act.put, List.setIfInBounds_toArray, List.set_cons_zero, List.set_cons_succ]
  refine tkY 12 ⟨some 57, .load 25 (.tmp 56), 25, "law.go:34", #[⟨11, .data⟩, ⟨8, .guard⟩], some (8, true)⟩ ?v12z12 hHeld ?y12z12 ?r12z12
  case y12z12 => (intro w hSw; (try dsimp only at hSw); go_simp) <;> with_reducible rfl
  try simp only [Act.put, List.setIfInBounds_toArray, List.set_cons_zero, List.set_cons_succ]
  refine wpAnyH_ready (rs := [13]) (by kernel_rfl) (by simp) ?_
  refine AllReadyH.cons (o := ⟨some 58, .call { callee := .value (.func 9), args := #[.tmp 55, .tmp 57], argTypes := #[25, 25] }, 4, "law.go:34", #[⟨10, .data⟩, ⟨12, .data⟩, ⟨8, .chain⟩, ⟨8, .guard⟩], some (8, true)⟩) rfl (fun K hK => ?_) AllReadyH.nil
  go_simp
  refine (same13_true r.e r.t r.c _ _ _ _ _ _ r.tr r.li r.lk _ (u1.later bD) (v1.later bD) (u2.later bD) (v2.later bD) (u3.later bD) (v3.later bD)).mono ?_
  rintro x w11 ⟨rfl, b11'⟩
  have b11 := bD.trans (b11'.mono bD.size)
  replace hHeld := hcells w11 b11
  refine hK.out _ _ ?_ (fun _ => ?_)
  · exact hHeld
  clear hK K
  try simp only [Act.put, List.setIfInBounds_toArray, List.set_cons_zero, List.set_cons_succ]
  refine tkY 14 ⟨some 59, .pick (.tmp 53) (.tmp 58) (.const (.bool false)), 4, "law.go:34", #[⟨8, .data⟩, ⟨13, .data⟩], none⟩ ?v14z13 hHeld ?y14z13 ?r14z13
  case y14z13 => (intro w hSw; (try dsimp only at hSw); go_simp) <;> with_reducible rfl
  try simp only [Act.put, List.setIfInBounds_toArray, List.set_cons_zero, List.set_cons_succ]
  refine tkY 15 ⟨some 60, .move (.tmp 59), 4, "law.go:34", #[⟨14, .data⟩, ⟨13, .chain⟩], none⟩ ?v15z14 hHeld ?y15z14 ?r15z14
  case y15z14 => (intro w hSw; (try dsimp only at hSw); go_simp) <;> with_reducible rfl
  try simp only [Act.put, List.setIfInBounds_toArray, List.set_cons_zero, List.set_cons_succ]
  refine tkY 16 ⟨some 61, .fieldAddr 29 (.tmp 15) 1, 0, "law.go:34", #[⟨15, .guard⟩], some (15, true)⟩ ?v16z15 hHeld ?y16z15 ?r16z15
  case y16z15 => (intro w hSw; (try dsimp only at hSw); go_simp) <;> with_reducible rfl
  try simp only [Act.put, List.setIfInBounds_toArray, List.set_cons_zero, List.set_cons_succ]
  refine tkY 17 ⟨some 62, .load 27 (.tmp 61), 27, "law.go:34", #[⟨16, .data⟩, ⟨15, .guard⟩], some (15, true)⟩ ?v17z16 hHeld ?y17z16 ?r17z16
  case y17z16 => (intro w hSw; (try dsimp only at hSw); go_simp) <;> with_reducible rfl
  try simp only [Act.put, List.setIfInBounds_toArray, List.set_cons_zero, List.set_cons_succ]
  refine tkY 18 ⟨some 63, .fieldAddr 29 (.tmp 17) 1, 0, "law.go:34", #[⟨15, .guard⟩], some (15, true)⟩ ?v18z17 hHeld ?y18z17 ?r18z17
  case y18z17 => (intro w hSw; (try dsimp only at hSw); go_simp) <;> with_reducible rfl
  try simp only [Act.put, List.setIfInBounds_toArray, List.set_cons_zero, List.set_cons_succ]
  refine tkY 19 ⟨some 64, .load 27 (.tmp 63), 27, "law.go:34", #[⟨18, .data⟩, ⟨15, .guard⟩], some (15, true)⟩ ?v19z18 hHeld ?y19z18 ?r19z18
  case y19z18 => (intro w hSw; (try dsimp only at hSw); go_simp) <;> with_reducible rfl
  try simp only [Act.put, List.setIfInBounds_toArray, List.set_cons_zero, List.set_cons_succ]
  refine wpAnyH_ready (rs := [20]) (by kernel_rfl) (by simp) ?_
  refine AllReadyH.cons (o := ⟨some 65, .call { callee := .value (.func 10), args := #[.tmp 62, .tmp 64], argTypes := #[27, 27] }, 4, "law.go:34", #[⟨17, .data⟩, ⟨19, .data⟩, ⟨15, .chain⟩, ⟨15, .guard⟩], some (15, true)⟩) rfl (fun K hK => ?_) AllReadyH.nil
  go_simp
  refine (rsame_true ix _ _ _ _ Ls Ps _ (u4.later b11) (v4.later b11) (u5.later b11) (v5.later b11)).mono ?_
  rintro x w12 ⟨rfl, b12'⟩
  have b12 := b11.trans (b12'.mono b11.size)
  replace hHeld := hcells w12 b12
  refine hK.out _ _ ?_ (fun _ => ?_)
  · exact hHeld
  clear hK K
  try simp only [Act.put, List.setIfInBounds_toArray, List.set_cons_zero, List.set_cons_succ]
  refine tkY 21 ⟨some 66, .pick (.tmp 60) (.tmp 65) (.const (.bool false)), 4, "law.go:34", #[⟨15, .data⟩, ⟨20, .data⟩], none⟩ ?v21z19 hHeld ?y21z19 ?r21z19
  case y21z19 => (intro w hSw; (try dsimp only at hSw); go_simp) <;> with_reducible rfl
  try simp only [Act.put, List.setIfInBounds_toArray, List.set_cons_zero, List.set_cons_succ]
  refine tkY 22 ⟨some 67, .move (.tmp 66), 4, "law.go:34", #[⟨21, .data⟩, ⟨20, .chain⟩], none⟩ ?v22z20 hHeld ?y22z20 ?r22z20
  case y22z20 => (intro w hSw; (try dsimp only at hSw); go_simp) <;> with_reducible rfl
  try simp only [Act.put, List.setIfInBounds_toArray, List.set_cons_zero, List.set_cons_succ]
  refine tkY 23 ⟨some 68, .move (.tmp 16), 30, "law.go:34", #[⟨22, .guard⟩], some (22, true)⟩ ?v23z21 hHeld ?y23z21 ?r23z21
  case y23z21 => (intro w hSw; (try dsimp only at hSw); go_simp) <;> with_reducible rfl
  try simp only [Act.put, List.setIfInBounds_toArray, List.set_cons_zero, List.set_cons_succ]
  refine tkY 24 ⟨some 69, .move (.tmp 18), 30, "law.go:34", #[⟨22, .guard⟩], some (22, true)⟩ ?v24z22 hHeld ?y24z22 ?r24z22
  case y24z22 => (intro w hSw; (try dsimp only at hSw); go_simp) <;> with_reducible rfl
  try simp only [Act.put, List.setIfInBounds_toArray, List.set_cons_zero, List.set_cons_succ]
  refine tkY 25 ⟨some 70, .binOp .eql 30 (.tmp 68) (.tmp 69) 30, 4, "law.go:34", #[⟨23, .data⟩, ⟨24, .data⟩, ⟨22, .guard⟩], some (22, true)⟩ ?v25z23 hHeld ?y25z23 ?r25z23
  case y25z23 => (intro w hSw; (try dsimp only at hSw); go_simp) <;> with_reducible rfl
  try simp only [Act.put, List.setIfInBounds_toArray, List.set_cons_zero, List.set_cons_succ]
  refine tkY 26 ⟨some 71, .pick (.tmp 67) (.tmp 70) (.const (.bool false)), 4, "law.go:34", #[⟨22, .data⟩, ⟨25, .data⟩], none⟩ ?v26z24 hHeld ?y26z24 ?r26z24
  case y26z24 => (intro w hSw; (try dsimp only at hSw); go_simp) <;> with_reducible rfl
  try simp only [Act.put, List.setIfInBounds_toArray, List.set_cons_zero, List.set_cons_succ]
  refine tkY 27 ⟨some 72, .move (.tmp 71), 4, "law.go:34", #[⟨26, .data⟩, ⟨22, .chain⟩], none⟩ ?v27z25 hHeld ?y27z25 ?r27z25
  case y27z25 => (intro w hSw; (try dsimp only at hSw); go_simp) <;> with_reducible rfl
  try simp only [Act.put, List.setIfInBounds_toArray, List.set_cons_zero, List.set_cons_succ]
  refine tkY 28 ⟨some 73, .move (.tmp 0), 3, "law.go:34", #[⟨27, .guard⟩], some (27, true)⟩ ?v28z26 hHeld ?y28z26 ?r28z26
  case y28z26 => (intro w hSw; (try dsimp only at hSw); go_simp) <;> with_reducible rfl
  try simp only [Act.put, List.setIfInBounds_toArray, List.set_cons_zero, List.set_cons_succ]
  refine tkY 29 ⟨some 74, .move (.tmp 1), 3, "law.go:34", #[⟨27, .guard⟩], some (27, true)⟩ ?v29z27 hHeld ?y29z27 ?r29z27
  case y29z27 => (intro w hSw; (try dsimp only at hSw); go_simp) <;> with_reducible rfl
  try simp only [Act.put, List.setIfInBounds_toArray, List.set_cons_zero, List.set_cons_succ]
  refine tkY 30 ⟨some 75, .move (.tmp 2), 22, "law.go:34", #[⟨27, .guard⟩], some (27, true)⟩ ?v30z28 hHeld ?y30z28 ?r30z28
  case y30z28 => (intro w hSw; (try dsimp only at hSw); go_simp) <;> with_reducible rfl
  try simp only [Act.put, List.setIfInBounds_toArray, List.set_cons_zero, List.set_cons_succ]
  refine tkY 31 ⟨some 76, .load 29 (.tmp 8), 29, "law.go:34", #[⟨27, .guard⟩], some (27, true)⟩ ?v31z29 hHeld ?y31z29 ?r31z29
  case y31z29 => (intro w hSw; (try dsimp only at hSw); go_simp) <;> with_reducible rfl
  try simp only [Act.put, List.setIfInBounds_toArray, List.set_cons_zero, List.set_cons_succ]
  refine tkY 33 ⟨some 78, .move (.tmp 0), 3, "law.go:34", #[⟨27, .guard⟩], some (27, true)⟩ ?v33z30 hHeld ?y33z30 ?r33z30
  case y33z30 => (intro w hSw; (try dsimp only at hSw); go_simp) <;> with_reducible rfl
  try simp only [Act.put, List.setIfInBounds_toArray, List.set_cons_zero, List.set_cons_succ]
  refine tkY 34 ⟨some 79, .move (.tmp 1), 3, "law.go:34", #[⟨27, .guard⟩], some (27, true)⟩ ?v34z31 hHeld ?y34z31 ?r34z31
  case y34z31 => (intro w hSw; (try dsimp only at hSw); go_simp) <;> with_reducible rfl
  try simp only [Act.put, List.setIfInBounds_toArray, List.set_cons_zero, List.set_cons_succ]
  refine tkY 35 ⟨some 80, .move (.tmp 2), 22, "law.go:34", #[⟨27, .guard⟩], some (27, true)⟩ ?v35z32 hHeld ?y35z32 ?r35z32
  case y35z32 => (intro w hSw; (try dsimp only at hSw); go_simp) <;> with_reducible rfl
  try simp only [Act.put, List.setIfInBounds_toArray, List.set_cons_zero, List.set_cons_succ]
  refine tkY 36 ⟨some 81, .load 29 (.tmp 8), 29, "law.go:34", #[⟨27, .guard⟩], some (27, true)⟩ ?v36z33 hHeld ?y36z33 ?r36z33
  case y36z33 => (intro w hSw; (try dsimp only at hSw); go_simp) <;> with_reducible rfl
  try simp only [Act.put, List.setIfInBounds_toArray, List.set_cons_zero, List.set_cons_succ]
  refine wpAnyH_ready (rs := [32]) (by kernel_rfl) (by simp) ?_
  refine AllReadyH.cons (o := ⟨some 77, .call { callee := .value (.func 11), args := #[.tmp 73, .tmp 74, .tmp 75, .tmp 76], argTypes := #[3, 3, 22, 29] }, 4, "law.go:34", #[⟨28, .data⟩, ⟨29, .data⟩, ⟨30, .data⟩, ⟨31, .data⟩, ⟨27, .chain⟩, ⟨27, .guard⟩], some (27, true)⟩) rfl (fun K hK => ?_) AllReadyH.nil
  go_simp
  refine (HC1.out _ b12).mono ?_
  rintro x w13 ⟨rfl, b13'⟩
  have b13 := b12.trans (b13'.mono b12.size)
  replace hHeld := hcells w13 b13
  refine hK.out _ _ ?_ (fun _ => ?_)
  · exact hHeld
  clear hK K
  try simp only [Act.put, List.setIfInBounds_toArray, List.set_cons_zero, List.set_cons_succ]
  refine wpAnyH_ready (rs := [37]) (by kernel_rfl) (by simp) ?_
  refine AllReadyH.cons (o := ⟨some 82, .call { callee := .value (.func 12), args := #[.tmp 78, .tmp 79, .tmp 80, .tmp 81], argTypes := #[3, 3, 22, 29] }, 4, "law.go:34", #[⟨33, .data⟩, ⟨34, .data⟩, ⟨35, .data⟩, ⟨36, .data⟩, ⟨32, .chain⟩, ⟨27, .guard⟩], some (27, true)⟩) rfl (fun K hK => ?_) AllReadyH.nil
  go_simp
  refine (HC2.out _ b13).mono ?_
  rintro x w14 ⟨rfl, b14'⟩
  have b14 := b13.trans (b14'.mono b13.size)
  replace hHeld := hcells w14 b14
  refine hK.out _ _ ?_ (fun _ => ?_)
  · exact hHeld
  clear hK K
  try simp only [Act.put, List.setIfInBounds_toArray, List.set_cons_zero, List.set_cons_succ]
  refine tkY 38 ⟨some 83, .binOp .eql 4 (.tmp 77) (.tmp 82) 4, 4, "law.go:34", #[⟨32, .data⟩, ⟨37, .data⟩, ⟨27, .guard⟩], some (27, true)⟩ ?v38z34 hHeld ?y38z34 ?r38z34
  case y38z34 => (intro w hSw; (try dsimp only at hSw); go_simp) <;> with_reducible rfl
  try simp only [Act.put, List.setIfInBounds_toArray, List.set_cons_zero, List.set_cons_succ]
  refine tkY 39 ⟨some 84, .pick (.tmp 72) (.tmp 83) (.const (.bool false)), 4, "law.go:34", #[⟨27, .data⟩, ⟨38, .data⟩], none⟩ ?v39z35 hHeld ?y39z35 ?r39z35
  case y39z35 => (intro w hSw; (try dsimp only at hSw); go_simp) <;> with_reducible rfl
  try simp only [Act.put, List.setIfInBounds_toArray, List.set_cons_zero, List.set_cons_succ]
  refine tkY 40 ⟨some 85, .move (.tmp 84), 4, "law.go:34", #[⟨39, .data⟩, ⟨37, .chain⟩], none⟩ ?v40z36 hHeld ?y40z36 ?r40z36
  case y40z36 => (intro w hSw; (try dsimp only at hSw); go_simp) <;> with_reducible rfl
  try simp only [Act.put, List.setIfInBounds_toArray, List.set_cons_zero, List.set_cons_succ]
  refine wpAnyH_ready (rs := [41]) (by kernel_rfl) (by simp) ?_
  refine AllReadyH.cons (o := ⟨some 86, .call { callee := .value (.func 13), args := #[], argTypes := #[] }, 4, "law.go:34", #[⟨40, .chain⟩, ⟨40, .guard⟩], some (40, true)⟩) rfl (fun K hK => ?_) AllReadyH.nil
  go_simp
  refine (rcAwake_any _ (tX.later b14)).mono ?_
  rintro x w15 ⟨rfl, b15'⟩
  have b15 := b14.trans (b15'.mono b14.size)
  replace hHeld := hcells w15 b15
  refine hK.out _ _ ?_ (fun _ => ?_)
  · exact hHeld
  clear hK K
  try simp only [Act.put, List.setIfInBounds_toArray, List.set_cons_zero, List.set_cons_succ]
  refine tkY 42 ⟨some 87, .pick (.tmp 85) (.tmp 86) (.const (.bool false)), 4, "law.go:34", #[⟨40, .data⟩, ⟨41, .data⟩], none⟩ ?v42z37 hHeld ?y42z37 ?r42z37
  case y42z37 => (intro w hSw; (try dsimp only at hSw); go_simp) <;> with_reducible rfl
  try simp only [Act.put, List.setIfInBounds_toArray, List.set_cons_zero, List.set_cons_succ]
  refine tkY 43 ⟨some 10, .assign (.tmp 87), 4, "law.go:34", #[⟨42, .data⟩, ⟨41, .chain⟩, ⟨0, .phase⟩, ⟨1, .phase⟩, ⟨2, .phase⟩, ⟨3, .phase⟩, ⟨4, .phase⟩, ⟨5, .phase⟩, ⟨6, .phase⟩, ⟨7, .phase⟩, ⟨8, .phase⟩, ⟨9, .phase⟩, ⟨10, .phase⟩, ⟨11, .phase⟩, ⟨12, .phase⟩, ⟨13, .phase⟩, ⟨14, .phase⟩, ⟨15, .phase⟩, ⟨16, .phase⟩, ⟨17, .phase⟩, ⟨18, .phase⟩, ⟨19, .phase⟩, ⟨20, .phase⟩, ⟨21, .phase⟩, ⟨22, .phase⟩, ⟨23, .phase⟩, ⟨24, .phase⟩, ⟨25, .phase⟩, ⟨26, .phase⟩, ⟨27, .phase⟩, ⟨28, .phase⟩, ⟨29, .phase⟩, ⟨30, .phase⟩, ⟨31, .phase⟩, ⟨32, .phase⟩, ⟨33, .phase⟩, ⟨34, .phase⟩, ⟨35, .phase⟩, ⟨36, .phase⟩, ⟨37, .phase⟩, ⟨38, .phase⟩, ⟨39, .phase⟩, ⟨40, .phase⟩, ⟨41, .phase⟩, ⟨42, .phase⟩], none⟩ ?v43z38 hHeld ?y43z38 ?r43z38
  case y43z38 => (intro w hSw; (try dsimp only at hSw); go_simp) <;> with_reducible rfl
  try simp only [Act.put, List.setIfInBounds_toArray, List.set_cons_zero, List.set_cons_succ]
  refine wpAnyH_done (by kernel_rfl) ?_ _
  have bF := bX.trans (b15.mono bX.size)
  clear hHeld hcells
  go_wp2
  go_ret
  exact ⟨rfl, bF⟩

end Go.Proofs.YtganajmhdpiipaaGreatDoor

namespace Go.Proofs.YtganajmhdpiipaaGreatDoor
open Go.ChangeShapes Go.WideShapes Go.ChangeAt Go.RowKit

set_option maxRecDepth 100000 in
theorem recordSealsContract (H : Type) (enc : TypeId × Value → H) (W : World) (base : Nat) (args : Array Value) (ds gs : List (DataW H)) (before : List MemPlace)
    (hval : ∀ (j : Nat) t v, Tryz.f3.params[j]? = some t → args[j]? = some v → Value.okWide Tryz.prog W .any base t v)
    (hW : DataW.Whole enc Tryz.prog Tryz.f3.params.toList Rows.recordSealsSpec.vars false W args.toList ds gs before) (hsz0 : (DataW.weightsEach Tryz.prog (Tryz.f3.params.toList ++ (OpenSpec.ofChange Rows.recordSealsSpec).bare.plain.varTypes Tryz.prog) (ds ++ gs)).all (· ≤ reachBytes) = true) (hL : laidMetH Tryz.prog Rows.recordSealsRow.laid W) :
    Calls Tryz.prog 3 args W fun e W' => ∃ v, e = .returned v ∧ Rows.recordSealsSpec.post enc Tryz.prog Tryz.f3 false true false false W args v W' := by
  have hT : Tabs W := tabs_of (laidMet.tail (laidMet.tail hL))
  have hD : TD W := td_of hL
  have hW' := hW
  obtain ⟨p, q, hA0, hV, rfl, hfz, hnd⟩ := hW
  have hA : DataW.TrodAll enc Tryz.prog W 0 (fun _ => true) true Tryz.f3.params.toList args.toList ds p := hA0
  rw [Tryz.params3] at hA hval hsz0
  obtain ⟨v0, vs0, d0, ds0, p0, q0, hargs, rfl, rfl, h0, r0⟩ := trodAll_cons hA
  obtain ⟨v1, vs1, d1, ds1, p1, q1, rfl, rfl, rfl, h1, r1⟩ := trodAll_cons r0
  obtain ⟨v2, vs2, d2, ds2, p2, q2, rfl, rfl, rfl, h2, r2⟩ := trodAll_cons r1
  obtain ⟨v3, vs3, d3, ds3, p3, q3, rfl, rfl, rfl, h3, r3⟩ := trodAll_cons r2
  obtain ⟨v4, vs4, d4, ds4, p4, q4, rfl, rfl, rfl, h4, r4⟩ := trodAll_cons r3
  obtain ⟨rfl, rfl, rfl⟩ := trodAll_nil r4
  obtain rfl : args = #[v0, v1, v2, v3, v4] := by cases args; simp_all
  obtain ⟨rfl, rfl⟩ := trodVars_none hV
  obtain ⟨a0, rfl, rfl, rfl, w0⟩ := open_int Tryz.underlying3 (hval 0 3 v0 rfl rfl) h0
  obtain ⟨a1, rfl, rfl, rfl, w1⟩ := open_int Tryz.underlying3 (hval 1 3 v1 rfl rfl) h1
  have k2 := h2
  have lt2 : ∀ x ∈ p2, x.block < W.heap.size := by obtain ⟨m, hm⟩ := k2; exact DataW.trod_lt m _ _ _ hm
  obtain ⟨l2, hl2, he2⟩ := open_hb (hval 2 22 v2 rfl rfl) h2
  have hr2 : l2.length ≤ 140737488351232 := hb_reach hsz0 2 rfl rfl he2
  have k3 := h3
  have lt3 : ∀ x ∈ p3, x.block < W.heap.size := by obtain ⟨m, hm⟩ := k3; exact DataW.trod_lt m _ _ _ hm
  obtain ⟨re3, rt3, rc3, ix3, tv3, lv3, kv3, cv3, pv3, tr3, li3, lk3, ls3, ps3, rfl, hl3, hm3, hn3, ho3, hp3⟩ := open_signed (hval 3 29 v3 rfl rfl) h3
  have k4 := h4
  have lt4 : ∀ x ∈ p4, x.block < W.heap.size := by obtain ⟨m, hm⟩ := k4; exact DataW.trod_lt m _ _ _ hm
  obtain ⟨l4, hl4, he4⟩ := open_hb (hval 4 22 v4 rfl rfl) h4
  have hr4 : l4.length ≤ 140737488351232 := hb_reach hsz0 4 rfl rfl he4
  clear hA0
  simp only [List.append_nil] at hW'
  refine (recordSeals_walk a0 a1 re3 rt3 rc3 ix3 v2 tv3 lv3 kv3 cv3 pv3 v4 l2 tr3 li3 l4 lk3 ls3 ps3 W hl2 hl3 hm3 hn3 ho3 hp3 hl4 hr4 hD hT).mono fun e W' ⟨he, bel⟩ => ?_
  subst he
  exact ⟨_, rfl, _, _, _, [], _, [], hW', trodAll_mk1 (shut_bool Tryz.underlying4 _), (trodAll_cons_mk (shut_int Tryz.underlying3 w0) (trodAll_cons_mk (shut_int Tryz.underlying3 w1) (trodAll_cons_mk (Below.trod laidOut (by kernel_rfl) (of_decide_eq_true (by kernel_rfl)) k2 bel lt2) (trodAll_cons_mk (Below.trod laidOut (by kernel_rfl) (of_decide_eq_true (by kernel_rfl)) k3 bel lt3) (trodAll_cons_mk (Below.trod laidOut (by kernel_rfl) (of_decide_eq_true (by kernel_rfl)) k4 bel lt4) trodAll_mk0))))), rfl, bel.frame _, fun h => by cases h⟩

theorem recordSealsMet (os : Os) : laidMet Tryz.prog Rows.recordSealsRow.laid (({ World.holding Tryz.prog os ⟨#[], #[], []⟩ with heap := (((((((((World.holding Tryz.prog os ⟨#[], #[], []⟩).heap).modify 0 fun | .cells _ t frozen => .cells tab32Cells t frozen | o => o)).modify 1 fun | .cells _ t frozen => .cells tab64Cells t frozen | o => o)).modify 2 fun | .cells _ t frozen => .cells startCells t frozen | o => o)).modify 3 fun | .cells _ t frozen => .cells roundsCells t frozen | o => o) } : World).forCall (fun _ _ => 0) ⟨#[], #[.int .i64 0, .int .i64 0, .slice none 0 0, .agg #[.int .i64 0, .int .i64 0, .slice none 0 0, .int .i64 0, .slice none 0 0, .slice none 0 0, .int .i64 0, .slice none 0 0, .slice none 0 0], .slice none 0 0], []⟩).memory :=
  laidMet_of_run' 8 (by kernel_rfl) (by kernel_rfl)
theorem recordSealsReads (os : Os) {H : Type} (enc : TypeId × Value → H) : ∃ places, DataW.whole enc Tryz.prog (({ World.holding Tryz.prog os ⟨#[], #[], []⟩ with heap := (((((((((World.holding Tryz.prog os ⟨#[], #[], []⟩).heap).modify 0 fun | .cells _ t frozen => .cells tab32Cells t frozen | o => o)).modify 1 fun | .cells _ t frozen => .cells tab64Cells t frozen | o => o)).modify 2 fun | .cells _ t frozen => .cells startCells t frozen | o => o)).modify 3 fun | .cells _ t frozen => .cells roundsCells t frozen | o => o) } : World).forCall (fun _ _ => 0) ⟨#[], #[.int .i64 0, .int .i64 0, .slice none 0 0, .agg #[.int .i64 0, .int .i64 0, .slice none 0 0, .int .i64 0, .slice none 0 0, .slice none 0 0, .int .i64 0, .slice none 0 0, .slice none 0 0], .slice none 0 0], []⟩).memory Tryz.f3.params.toList Rows.recordSealsSpec.vars false (#[.int .i64 0, .int .i64 0, .slice none 0 0, .agg #[.int .i64 0, .int .i64 0, .slice none 0 0, .int .i64 0, .slice none 0 0, .slice none 0 0, .int .i64 0, .slice none 0 0, .slice none 0 0], .slice none 0 0] : Array Value).toList 8 = some ([.lit (.int .i64 0), .lit (.int .i64 0), .nil, .agg [.agg [.lit (.int .i64 0), .lit (.int .i64 0), .nil, .lit (.int .i64 0), .nil, .nil], .agg [.lit (.int .i64 0), .nil, .nil]], .nil], [], places) :=
  ⟨[], by kernel_rfl⟩

set_option maxRecDepth 100000 in
theorem recordSealsLifted (os : Os) (started : os.Started) (H : Type) (enc : TypeId × Value → H) (F : Stop.Interp) :
    ReturnsInHanded {} Tryz.checked os 3 .any ((OpenSpec.ofChange Rows.recordSealsSpec).preRow enc Tryz.prog Tryz.f3 Rows.recordSealsRow.domain false Rows.recordSealsRow.laid) (((OpenSpec.ofChange Rows.recordSealsSpec).at F).post enc Tryz.prog Tryz.f3 false true false false) := by
  obtain ⟨places, hx⟩ := recordSealsReads os enc
  refine returnsInHanded_of_row (C := Tryz.checked) (s := OpenSpec.ofChange Rows.recordSealsSpec) own started (by kernel_rfl) Tryz.func3
    (witness_row_at (enc := enc) (C := Tryz.checked) false ({ World.holding Tryz.prog os ⟨#[], #[], []⟩ with heap := (((((((((World.holding Tryz.prog os ⟨#[], #[], []⟩).heap).modify 0 fun | .cells _ t frozen => .cells tab32Cells t frozen | o => o)).modify 1 fun | .cells _ t frozen => .cells tab64Cells t frozen | o => o)).modify 2 fun | .cells _ t frozen => .cells startCells t frozen | o => o)).modify 3 fun | .cells _ t frozen => .cells roundsCells t frozen | o => o) } : World) #[.int .i64 0, .int .i64 0, .slice none 0 0, .agg #[.int .i64 0, .int .i64 0, .slice none 0 0, .int .i64 0, .slice none 0 0, .slice none 0 0, .int .i64 0, .slice none 0 0, .slice none 0 0], .slice none 0 0] rfl (by kernel_rfl) (by kernel_rfl) (by kernel_rfl)
      (OpenSpec.preRow_of_cond 8 hx (by kernel_rfl) (fun k hk => by cases hk) (by kernel_rfl) (recordSealsMet os))) ?_
  intro W base args ds gs before hval hW _ _ hsz hL _ _
  exact recordSealsContract H enc W base args ds gs before hval hW hsz hL

theorem recordSealsSaid_holds : Rows.RecordSealsSaid :=
  OpenClaim.holds_of_cond 3 Tryz.f3 rfl rfl rfl rfl rfl rfl rfl ⟨rfl, rfl, rfl, rfl, rfl⟩ rfl rfl rfl rfl rfl (by kernel_rfl) Tryz.func3 (by kernel_rfl)
    (of_decide_eq_true (by kernel_rfl)) (by unfold Func.isWrapper; first | (rw [if_pos (by decide +kernel)]; kernel_rfl) | (rw [if_neg (by decide +kernel)]; exact ⟨rfl, rfl⟩))
    (fun os started H enc _ F => by rw [OpenClaim.pre_eq_preRow]; exact recordSealsLifted os started H enc F)

theorem recordSealsPlain (f : FuncId) (fn : Func) (hf : Tryz.pinned.checked.prog.funcNamed "annals/annalslaw13.RecordSeals" = some f) (hfn : Tryz.pinned.checked.prog.funcs[f]? = some fn) :
    false = Tryz.pinned.checked.prog.looks [] ∧ ∀ (j : Nat) t, fn.params[j]? = some t → Tryz.pinned.checked.prog.wantsStandIn t = false := by
  obtain rfl : f = 3 := Option.some.inj ((show Tryz.prog.funcNamed "annals/annalslaw13.RecordSeals" = some 3 by kernel_rfl).symm.trans hf) |>.symm
  obtain rfl : fn = Tryz.f3 := (Option.some.inj (Tryz.func3.symm.trans hfn)).symm
  refine ⟨by kernel_rfl, fun j t ht => ?_⟩
  rw [Tryz.params3] at ht
  have hm : t = 3 ∨ t = 3 ∨ t = 22 ∨ t = 29 ∨ t = 22 := by simpa using Array.mem_of_getElem? ht
  rcases hm with rfl | rfl | rfl | rfl | rfl
  · exact (show Tryz.prog.wantsStandIn 3 = false by kernel_rfl)
  · exact (show Tryz.prog.wantsStandIn 3 = false by kernel_rfl)
  · exact (show Tryz.prog.wantsStandIn 22 = false by kernel_rfl)
  · exact (show Tryz.prog.wantsStandIn 29 = false by kernel_rfl)
  · exact (show Tryz.prog.wantsStandIn 22 = false by kernel_rfl)

theorem recordSeals_holds : Rows.RecordSealsCardSaid :=
  Claim7.holds_tied_plain_at .later [] _ _ _ _ recordSealsSaid_holds (fun _ h => by cases h) (by kernel_rfl) (fun _ h => by cases h) recordSeals_row_tie rfl ⟨rfl, rfl⟩ (by kernel_rfl) rfl recordSealsPlain (by kernel_rfl)

#print axioms recordSeals_holds
end Go.Proofs.YtganajmhdpiipaaGreatDoor
