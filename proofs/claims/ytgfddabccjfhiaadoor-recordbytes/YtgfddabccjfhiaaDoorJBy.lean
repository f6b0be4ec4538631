/- What this text proves: the walk of the statement RecordBytes over this program: it answers true for any arguments, and writes nothing that was there. (By program: held.py, mkrbytes.py.) Proved here: Rows.RecordBytesCardSaid: for every number, record and slice of bytes the Go function annalslaw13.RecordBytes returns true (any record as bytes, any bytes as a record, or the errors; its hash, and whether it may be, are the document's). No condition; the tables of packages math/bits and sha start as the program's text lays them. -/
import Derived.Test.YtgfddabccjfhiaaDoorJRDc
import Derived.Test.YtgfddabccjfhiaaDoorJLw
import Derived.Test.YtgfddabccjfhiaaDoorClone
import Derived.Test.YtgfddabccjfhiaaDoorJOp
namespace Go.Proofs.YtgfddabccjfhiaaDoor
open Go.RowKit

/-- A record's bytes, or none. -/
def encZ (size : Int) (r : Rc) : List UInt8 := if canB size r = true then encL r else []
def encE (size : Int) (r : Rc) : Int := if canB size r = true then 0 else 1

theorem encode_all (size e t c : Int) (tv lv kv : Value) (tr li : List UInt8) (lk : List (List UInt8)) (w : World) (h1 : HB w tv tr) (h2 : HB w lv li) (h3 : PA w kv lk) (hTD : TD w) :
    Calls Tryd.prog 9 #[.int .i64 size, .agg #[.int .i64 e, .int .i64 t, tv, .int .i64 c, lv, kv]] w fun x w' => ∃ p q, x = .returned (.tuple #[.slice p (encZ size ⟨e, t, c, tr, li, lk⟩).length q, .int .i64 (encE size ⟨e, t, c, tr, li, lk⟩)]) ∧ HB w' (.slice p (encZ size ⟨e, t, c, tr, li, lk⟩).length q) (encZ size ⟨e, t, c, tr, li, lk⟩) ∧ Below w.heap.size w w' := by
  unfold encZ encE
  by_cases hcan : canB size ⟨e, t, c, tr, li, lk⟩ = true
  · rw [if_pos hcan, if_pos hcan]
    refine (encode_yes size e t c _ _ _ tr li lk w h1 h2 h3 hTD hcan).mono ?_
    rintro x w' ⟨v, rfl, hh, hb⟩
    obtain ⟨p, q, rfl⟩ := hh.shape
    exact ⟨p, q, rfl, hh, hb⟩
  · rw [if_neg hcan, if_neg hcan]
    refine (encode_no size e t c _ _ _ tr li lk w h1 h2 h3 hTD (by simpa using hcan)).mono ?_
    rintro x w' ⟨rfl, hb⟩
    exact ⟨none, 0, rfl, HB.nil _, hb⟩

theorem rencode_all (size e t c : Int) (tv lv kv : Value) (tr li : List UInt8) (lk : List (List UInt8)) (w : World) (h1 : HB w tv tr) (h2 : HB w lv li) (h3 : PA w kv lk) :
    Calls Tryd.prog 10 #[.int .i64 size, .agg #[.int .i64 e, .int .i64 t, tv, .int .i64 c, lv, kv]] w fun x w' => ∃ p q, x = .returned (.tuple #[.slice p (encZ size ⟨e, t, c, tr, li, lk⟩).length q, .int .i64 (encE size ⟨e, t, c, tr, li, lk⟩)]) ∧ HB w' (.slice p (encZ size ⟨e, t, c, tr, li, lk⟩).length q) (encZ size ⟨e, t, c, tr, li, lk⟩) ∧ Below w.heap.size w w' := by
  unfold encZ encE
  by_cases hcan : canB size ⟨e, t, c, tr, li, lk⟩ = true
  · rw [if_pos hcan, if_pos hcan]
    refine (rencode_yes size e t c _ _ _ tr li lk w h1 h2 h3 hcan).mono ?_
    rintro x w' ⟨v, rfl, hh, hb⟩
    obtain ⟨p, q, rfl⟩ := hh.shape
    exact ⟨p, q, rfl, hh, hb⟩
  · rw [if_neg hcan, if_neg hcan]
    refine (rencode_no size e t c _ _ _ tr li lk w h1 h2 h3 (by simpa using hcan)).mono ?_
    rintro x w' ⟨rfl, hb⟩
    exact ⟨none, 0, rfl, HB.nil _, hb⟩

/-- What Decode answers: the record, or the empty one. -/
def decZ (size : Int) (b : List UInt8) : Rc := if dcOk size b = true then dcR size b else ⟨0, 0, 0, [], [], []⟩
def decE (size : Int) (b : List UInt8) : Int := if dcOk size b = true then 0 else 5

theorem dec_told {size : Int} {b : List UInt8} {w w' : World} {x : Ending} (h : DecTold (dcOk size b) (dcR size b) w x w') : ∃ p q p2 q2 p3 q3, x = .returned (.tuple #[.agg #[.int .i64 (decZ size b).e, .int .i64 (decZ size b).t, .slice p (decZ size b).tr.length q, .int .i64 (decZ size b).c, .slice p2 (decZ size b).li.length q2, .slice p3 (decZ size b).lk.length q3], .int .i64 (decE size b)]) ∧ HB w' (.slice p (decZ size b).tr.length q) (decZ size b).tr ∧ HB w' (.slice p2 (decZ size b).li.length q2) (decZ size b).li ∧ PA w' (.slice p3 (decZ size b).lk.length q3) (decZ size b).lk ∧ Below w.heap.size w w' := by
  obtain ⟨h1, h2, h3⟩ := h
  unfold decZ decE
  cases hk : dcOk size b with
  | false =>
    rw [if_neg (by decide), if_neg (by decide)]
    exact ⟨none, 0, none, 0, none, 0, h1 hk, HB.nil _, HB.nil _, PA.nil _, h3⟩
  | true =>
    rw [if_pos rfl, if_pos rfl]
    obtain ⟨tv, lv, kv, rfl, g1, g2, g3⟩ := h2 hk
    obtain ⟨p, q, rfl⟩ := g1.shape
    obtain ⟨p2, q2, rfl⟩ := g2.shape
    obtain ⟨p3, q3, rfl⟩ := g3.shape
    exact ⟨p, q, p2, q2, p3, q3, rfl, g1, g2, g3, h3⟩

set_option maxRecDepth 100000 in
set_option maxHeartbeats 8000000 in
theorem recBytesWalk (size e t c : Int) (tv lv kv v : Value) (tr li : List UInt8) (lk : List (List UInt8)) (b : List UInt8) (w : World) (h1 : HB w tv tr) (h2 : HB w lv li) (h3 : PA w kv lk) (hv : HB w v b) (hsz : b.length ≤ 140737488351232) (hTD : TD w) (hT : Tabs w) :
    Calls Tryd.prog 3 #[.int .i64 size, .agg #[.int .i64 e, .int .i64 t, tv, .int .i64 c, lv, kv], v] w fun x w' => x = .returned (.bool true) ∧ Below w.heap.size w w' := by
  have bA := (Below.refl w.heap.size w).alloc (Nat.le_refl _) (.cells #[.int .i64 e, .int .i64 t, tv, .int .i64 c, lv, kv] 25)
  have gA := heap_alloc_new w (.cells #[.int .i64 e, .int .i64 t, tv, .int .i64 c, lv, kv] 25)
  obtain ⟨tp, tc, rfl⟩ := h1.shape
  obtain ⟨lp, lc, rfl⟩ := h2.shape
  obtain ⟨kp, kc, rfl⟩ := h3.shape
  obtain ⟨vp, vc, rfl⟩ := hv.shape
  obtain ⟨V, hV⟩ : ∃ V, V = w.alloc (.cells #[.int .i64 e, .int .i64 t, .slice tp tr.length tc, .int .i64 c, .slice lp li.length lc, .slice kp lk.length kc] 25) := ⟨_, rfl⟩
  rw [← hV] at bA gA
  have hg : w.heap.size < V.heap.size := (Array.getElem?_eq_some_iff.1 gA).1
  have k1 := h1.later bA
  have k2 := h2.later bA
  have k3 := h3.later bA
  have kb := hv.later bA
  have tV := hTD.later bA
  have sV := hT.later bA
  clear h1 h2 h3 hv hTD hT
  have hr : ∀ W, Below V.heap.size V W → W.cell? ⟨w.heap.size, 0, none⟩ = some (.int .i64 e) ∧ W.cell? ⟨w.heap.size, 1, none⟩ = some (.int .i64 t) ∧ W.cell? ⟨w.heap.size, 2, none⟩ = some (.slice tp tr.length tc) ∧ W.cell? ⟨w.heap.size, 3, none⟩ = some (.int .i64 c) ∧ W.cell? ⟨w.heap.size, 4, none⟩ = some (.slice lp li.length lc) ∧ W.cell? ⟨w.heap.size, 5, none⟩ = some (.slice kp lk.length kc) := by
    intro W hB
    have g1 := (hB.block _ hg).trans gA
    refine ⟨?_, ?_, ?_, ?_, ?_, ?_⟩ <;> (rw [cell_of_row _ _ _ _ _ _ g1]; rfl)
  have hK := clone_any _ b V kb (by omega)
  have hE1 := fun W (hB : Below V.heap.size V W) => encode_all size e t c _ _ _ tr li lk W (k1.later hB) (k2.later hB) (k3.later hB) (tV.later hB)
  have hE2 := fun W (hB : Below V.heap.size V W) => rencode_all size e t c _ _ _ tr li lk W (k1.later hB) (k2.later hB) (k3.later hB)
  have hD1 := fun W (hB : Below V.heap.size V W) v (h : HB W v b) => (decode_any size v b W h (by omega) (tV.later hB)).mono fun x w' h => dec_told h
  have hD2 := fun W (hB : Below V.heap.size V W) => (rdecode_as size _ b W (kb.later hB) (by omega)).mono fun x w' h => dec_told h
  have HH1 : Hid (∀ W, Below V.heap.size V W → Calls Tryd.prog 15 #[.int .i64 size, .agg #[.int .i64 e, .int .i64 t, .slice tp tr.length tc, .int .i64 c, .slice lp li.length lc, .slice kp lk.length kc]] W fun x w' => ∃ v, x = .returned v ∧ HB w' v (hshF size ⟨e, t, c, tr, li, lk⟩) ∧ Below W.heap.size W w') := fun W hB => hash13_any size e t c _ _ _ tr li lk W (k1.later hB) (k2.later hB) (k3.later hB) (tV.later hB) (sV.later hB)
  have HH2 : Hid (∀ W, Below V.heap.size V W → Calls Tryd.prog 16 #[.int .i64 size, .agg #[.int .i64 e, .int .i64 t, .slice tp tr.length tc, .int .i64 c, .slice lp li.length lc, .slice kp lk.length kc]] W fun x w' => ∃ v, x = .returned v ∧ HB w' v (hshF size ⟨e, t, c, tr, li, lk⟩) ∧ Below W.heap.size W w') := fun W hB => rhash13_any size e t c _ _ _ tr li lk W (k1.later hB) (k2.later hB) (k3.later hB)
  have HC1 : Hid (∀ W, Below V.heap.size V W → Calls Tryd.prog 17 #[.int .i64 size, .agg #[.int .i64 e, .int .i64 t, .slice tp tr.length tc, .int .i64 c, .slice lp li.length lc, .slice kp lk.length kc]] W fun x w' => x = .returned (.bool (canB size ⟨e, t, c, tr, li, lk⟩)) ∧ Below W.heap.size W w') := fun W hB => can_any size e t c _ _ _ tr li lk W (k1.later hB) (k2.later hB) (k3.later hB) (tV.later hB)
  have HC2 : Hid (∀ W, Below V.heap.size V W → Calls Tryd.prog 18 #[.int .i64 size, .agg #[.int .i64 e, .int .i64 t, .slice tp tr.length tc, .int .i64 c, .slice lp li.length lc, .slice kp lk.length kc]] W fun x w' => x = .returned (.bool (canB size ⟨e, t, c, tr, li, lk⟩)) ∧ Below W.heap.size W w') := fun W hB => rcan_any size e t c _ _ _ tr li lk W (k1.later hB) (k2.later hB) (k3.later hB)
  generalize hshF size ⟨e, t, c, tr, li, lk⟩ = HS at *
  generalize encZ size ⟨e, t, c, tr, li, lk⟩ = EN at *
  generalize encE size ⟨e, t, c, tr, li, lk⟩ = EE at *
  generalize canB size ⟨e, t, c, tr, li, lk⟩ = CB at *
  generalize decZ size b = Z at *
  generalize decE size b = ZE at *
  clear k1 k2 k3 gA
  go_enter Tryd.func3, Tryd.ntmps3
  go_wp2_with fail
  rw [← hV]
  refine hK.mono ?_
  rintro x w1 ⟨gp, gc, rfl, hgi, b1⟩
  clear hK hV
  have cr := hr w1 b1
  obtain ⟨c0, c1, c2, c3, c4, c5⟩ := cr
  go_wp2_with fail
  refine (hE1 _ b1).mono ?_
  rintro x w2 ⟨xp, xc, rfl, hx, b2'⟩
  have b2 := b1.trans (b2'.mono b1.size)
  have hgi2 := hgi.later b2'
  clear hE1 hgi c0 c1 c2 c3 c4 c5
  obtain ⟨c0, c1, c2, c3, c4, c5⟩ := hr w2 b2
  go_wp2_with fail
  refine (hE2 _ b2).mono ?_
  rintro x w3 ⟨yp, yc, rfl, hy, b3'⟩
  have b3 := b2.trans (b3'.mono b2.size)
  have hgi3 := hgi2.later b3'
  have hx3 := hx.later b3'
  clear hE2 hgi2 hx c0 c1 c2 c3 c4 c5 b2' b1 b2
  go_wp2_with fail
  refine (hD1 _ b3 _ hgi3).mono ?_
  rintro x w4 ⟨up, uc, mp, mc, np, nc, rfl, u1, u2, u3, b4'⟩
  have b4 := b3.trans (b4'.mono b3.size)
  have hgi4 := hgi3.later b4'
  have hx4 := hx3.later b4'
  have hy4 := hy.later b4'
  clear hD1 hgi3 hx3 hy b3' b3 b4'
  obtain ⟨U, hU⟩ : ∃ U, U = w4.alloc (.cells #[.int .i64 Z.e, .int .i64 Z.t, .slice up Z.tr.length uc, .int .i64 Z.c, .slice mp Z.li.length mc, .slice np Z.lk.length nc] 25) := ⟨_, rfl⟩
  have bU' : Below w4.heap.size w4 U := by rw [hU]; exact (Below.refl _ w4).alloc (Nat.le_refl _) _
  have gU : U.heap[w4.heap.size]? = some (.cells #[.int .i64 Z.e, .int .i64 Z.t, .slice up Z.tr.length uc, .int .i64 Z.c, .slice mp Z.li.length mc, .slice np Z.lk.length nc] 25 (0, 0)) := by rw [hU]; exact heap_alloc_new w4 _
  have bU := b4.trans (bU'.mono b4.size)
  go_wp2_with fail
  rw [← hU]
  refine (hD2 _ bU).mono ?_
  rintro x w5 ⟨up2, uc2, mp2, mc2, np2, nc2, rfl, v1, v2, v3, b5'⟩
  have b5 := bU.trans (b5'.mono bU.size)
  have b45 := bU'.trans (b5'.mono bU'.size)
  have gu5 := (b5'.block _ (Array.getElem?_eq_some_iff.1 gU).1).trans gU
  clear hD2 hU gU bU' bU b5'
  obtain ⟨X, hX⟩ : ∃ X, X = w5.alloc (.cells #[.int .i64 Z.e, .int .i64 Z.t, .slice up2 Z.tr.length uc2, .int .i64 Z.c, .slice mp2 Z.li.length mc2, .slice np2 Z.lk.length nc2] 25) := ⟨_, rfl⟩
  have bX' : Below w5.heap.size w5 X := by rw [hX]; exact (Below.refl _ w5).alloc (Nat.le_refl _) _
  have gvX : X.heap[w5.heap.size]? = some (.cells #[.int .i64 Z.e, .int .i64 Z.t, .slice up2 Z.tr.length uc2, .int .i64 Z.c, .slice mp2 Z.li.length mc2, .slice np2 Z.lk.length nc2] 25 (0, 0)) := by rw [hX]; exact heap_alloc_new w5 _
  have guX := (bX'.block _ (Array.getElem?_eq_some_iff.1 gu5).1).trans gu5
  have bVX := b5.trans (bX'.mono b5.size)
  have b4X := b45.trans (bX'.mono b45.size)
  go_wp2
  rw [← hX]
  clear hX
  replace u1 := u1.later b4X
  replace u2 := u2.later b4X
  replace u3 := u3.later b4X
  replace v1 := v1.later bX'
  replace v2 := v2.later bX'
  replace v3 := v3.later bX'
  have hx := hx4.later b4X
  have hy := hy4.later b4X
  have hgiv := hgi4.later b4X
  have hb := kb.later bVX
  have tX := tV.later bVX
  have bX := bA.trans (bVX.mono bA.size)
  have lu : w4.heap.size < X.heap.size := (Array.getElem?_eq_some_iff.1 guX).1
  have lv2 : w5.heap.size < X.heap.size := (Array.getElem?_eq_some_iff.1 gvX).1
  replace HH1 : Hid (∀ W, Below X.heap.size X W → Calls Tryd.prog 15 #[.int .i64 size, .agg #[.int .i64 e, .int .i64 t, .slice tp tr.length tc, .int .i64 c, .slice lp li.length lc, .slice kp lk.length kc]] W fun x w' => ∃ v, x = .returned v ∧ HB w' v HS ∧ Below W.heap.size W w') := fun W hB => HH1.out W (bVX.trans (hB.mono bVX.size))
  replace HH2 : Hid (∀ W, Below X.heap.size X W → Calls Tryd.prog 16 #[.int .i64 size, .agg #[.int .i64 e, .int .i64 t, .slice tp tr.length tc, .int .i64 c, .slice lp li.length lc, .slice kp lk.length kc]] W fun x w' => ∃ v, x = .returned v ∧ HB w' v HS ∧ Below W.heap.size W w') := fun W hB => HH2.out W (bVX.trans (hB.mono bVX.size))
  replace HC1 : Hid (∀ W, Below X.heap.size X W → Calls Tryd.prog 17 #[.int .i64 size, .agg #[.int .i64 e, .int .i64 t, .slice tp tr.length tc, .int .i64 c, .slice lp li.length lc, .slice kp lk.length kc]] W fun x w' => x = .returned (.bool CB) ∧ Below W.heap.size W w') := fun W hB => HC1.out W (bVX.trans (hB.mono bVX.size))
  replace HC2 : Hid (∀ W, Below X.heap.size X W → Calls Tryd.prog 18 #[.int .i64 size, .agg #[.int .i64 e, .int .i64 t, .slice tp tr.length tc, .int .i64 c, .slice lp li.length lc, .slice kp lk.length kc]] W fun x w' => x = .returned (.bool CB) ∧ Below W.heap.size W w') := fun W hB => HC2.out W (bVX.trans (hB.mono bVX.size))
  obtain ⟨gu, hgu⟩ : ∃ gu, gu = w4.heap.size := ⟨_, rfl⟩
  obtain ⟨gv, hgv⟩ : ∃ gv, gv = w5.heap.size := ⟨_, rfl⟩
  rw [← hgu] at guX lu ⊢
  rw [← hgv] at gvX lv2 ⊢
  have hcells : ∀ W, Below X.heap.size X W → W.cell? ⟨w.heap.size, 0, none⟩ = some (.int .i64 e) ∧ W.cell? ⟨w.heap.size, 1, none⟩ = some (.int .i64 t) ∧ W.cell? ⟨w.heap.size, 2, none⟩ = some (.slice tp tr.length tc) ∧ W.cell? ⟨w.heap.size, 3, none⟩ = some (.int .i64 c) ∧ W.cell? ⟨w.heap.size, 4, none⟩ = some (.slice lp li.length lc) ∧ W.cell? ⟨w.heap.size, 5, none⟩ = some (.slice kp lk.length kc) ∧ W.cell? ⟨gu, 0, none⟩ = some (.int .i64 Z.e) ∧ W.cell? ⟨gu, 1, none⟩ = some (.int .i64 Z.t) ∧ W.cell? ⟨gu, 2, none⟩ = some (.slice up Z.tr.length uc) ∧ W.cell? ⟨gu, 3, none⟩ = some (.int .i64 Z.c) ∧ W.cell? ⟨gu, 4, none⟩ = some (.slice mp Z.li.length mc) ∧ W.cell? ⟨gu, 5, none⟩ = some (.slice np Z.lk.length nc) ∧ W.cell? ⟨gv, 0, none⟩ = some (.int .i64 Z.e) ∧ W.cell? ⟨gv, 1, none⟩ = some (.int .i64 Z.t) ∧ W.cell? ⟨gv, 2, none⟩ = some (.slice up2 Z.tr.length uc2) ∧ W.cell? ⟨gv, 3, none⟩ = some (.int .i64 Z.c) ∧ W.cell? ⟨gv, 4, none⟩ = some (.slice mp2 Z.li.length mc2) ∧ W.cell? ⟨gv, 5, none⟩ = some (.slice np2 Z.lk.length nc2) := by
    intro W hB
    have g1 := (hB.block _ lu).trans guX
    have g2 := (hB.block _ lv2).trans gvX
    obtain ⟨a0, a1, a2, a3, a4, a5⟩ := hr W (bVX.trans (hB.mono bVX.size))
    refine ⟨a0, a1, a2, a3, a4, a5, ?_, ?_, ?_, ?_, ?_, ?_, ?_, ?_, ?_, ?_, ?_, ?_⟩
    all_goals first | (rw [cell_of_row _ _ _ _ _ _ g1]; rfl) | (rw [cell_of_row _ _ _ _ _ _ g2]; rfl)
  clear hr hgu hgv hgi4 hx4 hy4 kb tV sV b4X bVX bX' b4 b5 b45 gu5 guX gvX bA
  have bD : Below X.heap.size X X.drew := (Below.refl _ X).drew
  have hHeld := hcells X.drew bD
  refine wp_region_heldN (by kernel_rfl) (fun W => W.cell? ⟨w.heap.size, 0, none⟩ = some (.int .i64 e) ∧ W.cell? ⟨w.heap.size, 1, none⟩ = some (.int .i64 t) ∧ W.cell? ⟨w.heap.size, 2, none⟩ = some (.slice tp tr.length tc) ∧ W.cell? ⟨w.heap.size, 3, none⟩ = some (.int .i64 c) ∧ W.cell? ⟨w.heap.size, 4, none⟩ = some (.slice lp li.length lc) ∧ W.cell? ⟨w.heap.size, 5, none⟩ = some (.slice kp lk.length kc) ∧ W.cell? ⟨gu, 0, none⟩ = some (.int .i64 Z.e) ∧ W.cell? ⟨gu, 1, none⟩ = some (.int .i64 Z.t) ∧ W.cell? ⟨gu, 2, none⟩ = some (.slice up Z.tr.length uc) ∧ W.cell? ⟨gu, 3, none⟩ = some (.int .i64 Z.c) ∧ W.cell? ⟨gu, 4, none⟩ = some (.slice mp Z.li.length mc) ∧ W.cell? ⟨gu, 5, none⟩ = some (.slice np Z.lk.length nc) ∧ W.cell? ⟨gv, 0, none⟩ = some (.int .i64 Z.e) ∧ W.cell? ⟨gv, 1, none⟩ = some (.int .i64 Z.t) ∧ W.cell? ⟨gv, 2, none⟩ = some (.slice up2 Z.tr.length uc2) ∧ W.cell? ⟨gv, 3, none⟩ = some (.int .i64 Z.c) ∧ W.cell? ⟨gv, 4, none⟩ = some (.slice mp2 Z.li.length mc2) ∧ W.cell? ⟨gv, 5, none⟩ = some (.slice np2 Z.lk.length nc2)) 45 rfl ?_
  refine wpAnyH_take (i := 0) (oi := { dst := some 42, op := Go.Op.move (Go.Operand.tmp 8), type := 22, pos := "law.go:25", after := #[], guard := none }) (v := ?v0z1) rfl (by kernel_rfl) (by kernel_rfl) (by kernel_rfl) (fun _ _ _ h => h) (Or.inl ⟨by rfl, ?y0z1⟩) hHeld ?r0z1
  case y0z1 => (intro w hSw; (try dsimp only at hSw); go_simp) <;> with_reducible rfl
  try simp only [Act.put, List.setIfInBounds_toArray, List.set_cons_zero, List.set_cons_succ]
  refine wpAnyH_take (i := 1) (oi := { dst := some 43, op := Go.Op.move (Go.Operand.tmp 10), type := 22, pos := "law.go:25", after := #[], guard := none }) (v := ?v1z2) rfl (by kernel_rfl) (by kernel_rfl) (by kernel_rfl) (fun _ _ _ h => h) (Or.inl ⟨by rfl, ?y1z2⟩) hHeld ?r1z2
  case y1z2 => (intro w hSw; (try dsimp only at hSw); go_simp) <;> with_reducible rfl
  try simp only [Act.put, List.setIfInBounds_toArray, List.set_cons_zero, List.set_cons_succ]
  refine wpAnyH_ready (rs := [2]) (by kernel_rfl) (by simp) ?_
  refine AllReadyH.cons (o := { dst := some 44, op := Go.Op.call { callee := Go.Callee.value (Go.Operand.func 13), args := #[Go.Operand.tmp 42, Go.Operand.tmp 43], argTypes := #[22, 22] }, type := 4, pos := "law.go:25", after := #[{ on := 0, ground := Go.Ground.data }, { on := 1, ground := Go.Ground.data }], guard := none }) rfl (fun K hK => ?_) AllReadyH.nil
  go_simp
  refine (equal_t _ _ EN EN _ (hx.later bD) (hy.later bD) rfl).mono ?_
  rintro x wz ⟨rfl, hwz⟩
  subst hwz
  refine hK.out _ _ ?_ (fun _ => ?_)
  · exact hHeld
  clear hK K
  try simp only [Act.put, List.setIfInBounds_toArray, List.set_cons_zero, List.set_cons_succ]
  refine wpAnyH_take (i := 3) (oi := { dst := some 45, op := Go.Op.move (Go.Operand.tmp 44), type := 4, pos := "law.go:25", after := #[{ on := 2, ground := Go.Ground.data }, { on := 2, ground := Go.Ground.chain }], guard := none }) (v := ?v3z3) rfl (by kernel_rfl) (by kernel_rfl) (by kernel_rfl) (fun _ _ _ h => h) (Or.inl ⟨by rfl, ?y3z3⟩) hHeld ?r3z3
  case y3z3 => (intro w hSw; (try dsimp only at hSw); go_simp) <;> with_reducible rfl
  try simp only [Act.put, List.setIfInBounds_toArray, List.set_cons_zero, List.set_cons_succ]
  refine wpAnyH_take (i := 4) (oi := { dst := some 46, op := Go.Op.move (Go.Operand.tmp 9), type := 27, pos := "law.go:25", after := #[{ on := 3, ground := Go.Ground.guard }], guard := some (3, true) }) (v := ?v4z4) rfl (by kernel_rfl) (by kernel_rfl) (by kernel_rfl) (fun _ _ _ h => h) (Or.inl ⟨by rfl, ?y4z4⟩) hHeld ?r4z4
  case y4z4 => (intro w hSw; (try dsimp only at hSw); go_simp) <;> with_reducible rfl
  try simp only [Act.put, List.setIfInBounds_toArray, List.set_cons_zero, List.set_cons_succ]
  refine wpAnyH_take (i := 5) (oi := { dst := some 47, op := Go.Op.move (Go.Operand.tmp 11), type := 27, pos := "law.go:25", after := #[{ on := 3, ground := Go.Ground.guard }], guard := some (3, true) }) (v := ?v5z5) rfl (by kernel_rfl) (by kernel_rfl) (by kernel_rfl) (fun _ _ _ h => h) (Or.inl ⟨by rfl, ?y5z5⟩) hHeld ?r5z5
  case y5z5 => (intro w hSw; (try dsimp only at hSw); go_simp) <;> with_reducible rfl
  try simp only [Act.put, List.setIfInBounds_toArray, List.set_cons_zero, List.set_cons_succ]
  refine wpAnyH_take (i := 6) (oi := { dst := some 48, op := Go.Op.binOp Go.BinOp.eql 27 (Go.Operand.tmp 46) (Go.Operand.tmp 47) 27, type := 4, pos := "law.go:25", after := #[{ on := 4, ground := Go.Ground.data }, { on := 5, ground := Go.Ground.data }, { on := 3, ground := Go.Ground.guard }], guard := some (3, true) }) (v := ?v6z6) rfl (by kernel_rfl) (by kernel_rfl) (by kernel_rfl) (fun _ _ _ h => h) (Or.inl ⟨by rfl, ?y6z6⟩) hHeld ?r6z6
  case y6z6 => (intro w hSw; (try dsimp only at hSw); go_simp) <;> with_reducible rfl
  try simp only [Act.put, List.setIfInBounds_toArray, List.set_cons_zero, List.set_cons_succ]
  refine wpAnyH_take (i := 7) (oi := { dst := some 49, op := Go.Op.pick (Go.Operand.tmp 45) (Go.Operand.tmp 48) (Go.Operand.const (Go.Value.bool false)), type := 4, pos := "law.go:25", after := #[{ on := 3, ground := Go.Ground.data }, { on := 6, ground := Go.Ground.data }], guard := none }) (v := ?v7z7) rfl (by kernel_rfl) (by kernel_rfl) (by kernel_rfl) (fun _ _ _ h => h) (Or.inl ⟨by rfl, ?y7z7⟩) hHeld ?r7z7
  case y7z7 => (intro w hSw; (try dsimp only at hSw); go_simp) <;> with_reducible rfl
  try simp only [Act.put, List.setIfInBounds_toArray, List.set_cons_zero, List.set_cons_succ]
  refine wpAnyH_take (i := 8) (oi := { dst := some 50, op := Go.Op.move (Go.Operand.tmp 49), type := 4, pos := "law.go:25", after := #[{ on := 7, ground := Go.Ground.data }, { on := 3, ground := Go.Ground.chain }], guard := none }) (v := ?v8z8) rfl (by kernel_rfl) (by kernel_rfl) (by kernel_rfl) (fun _ _ _ h => h) (Or.inl ⟨by rfl, ?y8z8⟩) hHeld ?r8z8
  case y8z8 => (intro w hSw; (try dsimp only at hSw); go_simp) <;> with_reducible rfl
  try simp only [Act.put, List.setIfInBounds_toArray, List.set_cons_zero, List.set_cons_succ]
  refine wpAnyH_take (i := 9) (oi := { dst := some 51, op := Go.Op.load 25 (Go.Operand.tmp 12), type := 25, pos := "law.go:25", after := #[{ on := 8, ground := Go.Ground.guard }], guard := some (8, true) }) (v := ?v9z9) rfl (by kernel_rfl) (by kernel_rfl) (by kernel_rfl) (fun _ _ _ h => h) (Or.inl ⟨by rfl, ?y9z9⟩) hHeld ?r9z9
  case y9z9 => (intro w hSw; (try dsimp only at hSw); go_simp) <;> with_reducible rfl
  try simp only [Act.put, List.setIfInBounds_toArray, List.set_cons_zero, List.set_cons_succ]
  refine wpAnyH_take (i := 10) (oi := { dst := some 52, op := Go.Op.load 25 (Go.Operand.tmp 14), type := 25, pos := "law.go:25", after := #[{ on := 8, ground := Go.Ground.guard }], guard := some (8, true) }) (v := ?v10z10) rfl (by kernel_rfl) (by kernel_rfl) (by kernel_rfl) (fun _ _ _ h => h) (Or.inl ⟨by rfl, ?y10z10⟩) hHeld ?r10z10
  case y10z10 => (intro w hSw; (try dsimp only at hSw); go_simp) <;> with_reducible rfl
  try simp only [Act.put, List.setIfInBounds_toArray, List.set_cons_zero, List.set_cons_succ]
  refine wpAnyH_ready (rs := [11]) (by kernel_rfl) (by simp) ?_
  refine AllReadyH.cons (o := { dst := some 53, op := Go.Op.call { callee := Go.Callee.value (Go.Operand.func 14), args := #[Go.Operand.tmp 51, Go.Operand.tmp 52], argTypes := #[25, 25] }, type := 4, pos := "law.go:25", after := #[{ on := 9, ground := Go.Ground.data }, { on := 10, ground := Go.Ground.data }, { on := 8, ground := Go.Ground.chain }, { on := 8, ground := Go.Ground.guard }], guard := some (8, true) }) rfl (fun K hK => ?_) AllReadyH.nil
  go_simp
  refine (same13_true Z.e Z.t Z.c _ _ _ _ _ _ Z.tr Z.li Z.lk _ (u1.later bD) (v1.later bD) (u2.later bD) (v2.later bD) (u3.later bD) (v3.later bD)).mono ?_
  rintro x w11 ⟨rfl, b11'⟩
  have b11 := bD.trans (b11'.mono bD.size)
  replace hHeld := hcells w11 b11
  refine hK.out _ _ ?_ (fun _ => ?_)
  · exact hHeld
  clear hK K
  try simp only [Act.put, List.setIfInBounds_toArray, List.set_cons_zero, List.set_cons_succ]
  refine wpAnyH_take (i := 12) (oi := { dst := some 54, op := Go.Op.pick (Go.Operand.tmp 50) (Go.Operand.tmp 53) (Go.Operand.const (Go.Value.bool false)), type := 4, pos := "law.go:25", after := #[{ on := 8, ground := Go.Ground.data }, { on := 11, ground := Go.Ground.data }], guard := none }) (v := ?v12z11) rfl (by kernel_rfl) (by kernel_rfl) (by kernel_rfl) (fun _ _ _ h => h) (Or.inl ⟨by rfl, ?y12z11⟩) hHeld ?r12z11
  case y12z11 => (intro w hSw; (try dsimp only at hSw); go_simp) <;> with_reducible rfl
  try simp only [Act.put, List.setIfInBounds_toArray, List.set_cons_zero, List.set_cons_succ]
  refine wpAnyH_take (i := 13) (oi := { dst := some 55, op := Go.Op.move (Go.Operand.tmp 54), type := 4, pos := "law.go:25", after := #[{ on := 12, ground := Go.Ground.data }, { on := 11, ground := Go.Ground.chain }], guard := none }) (v := ?v13z12) rfl (by kernel_rfl) (by kernel_rfl) (by kernel_rfl) (fun _ _ _ h => h) (Or.inl ⟨by rfl, ?y13z12⟩) hHeld ?r13z12
  case y13z12 => (intro w hSw; (try dsimp only at hSw); go_simp) <;> with_reducible rfl
  try simp only [Act.put, List.setIfInBounds_toArray, List.set_cons_zero, List.set_cons_succ]
  refine wpAnyH_take (i := 14) (oi := { dst := some 56, op := Go.Op.move (Go.Operand.tmp 13), type := 27, pos := "law.go:25", after := #[{ on := 13, ground := Go.Ground.guard }], guard := some (13, true) }) (v := ?v14z13) rfl (by kernel_rfl) (by kernel_rfl) (by kernel_rfl) (fun _ _ _ h => h) (Or.inl ⟨by rfl, ?y14z13⟩) hHeld ?r14z13
  case y14z13 => (intro w hSw; (try dsimp only at hSw); go_simp) <;> with_reducible rfl
  try simp only [Act.put, List.setIfInBounds_toArray, List.set_cons_zero, List.set_cons_succ]
  refine wpAnyH_take (i := 15) (oi := { dst := some 57, op := Go.Op.move (Go.Operand.tmp 15), type := 27, pos := "law.go:25", after := #[{ on := 13, ground := Go.Ground.guard }], guard := some (13, true) }) (v := ?v15z14) rfl (by kernel_rfl) (by kernel_rfl) (by kernel_rfl) (fun _ _ _ h => h) (Or.inl ⟨by rfl, ?y15z14⟩) hHeld ?r15z14
  case y15z14 => (intro w hSw; (try dsimp only at hSw); go_simp) <;> with_reducible rfl
  try simp only [Act.put, List.setIfInBounds_toArray, List.set_cons_zero, List.set_cons_succ]
  refine wpAnyH_take (i := 16) (oi := { dst := some 58, op := Go.Op.binOp Go.BinOp.eql 27 (Go.Operand.tmp 56) (Go.Operand.tmp 57) 27, type := 4, pos := "law.go:25", after := #[{ on := 14, ground := Go.Ground.data }, { on := 15, ground := Go.Ground.data }, { on := 13, ground := Go.Ground.guard }], guard := some (13, true) }) (v := ?v16z15) rfl (by kernel_rfl) (by kernel_rfl) (by kernel_rfl) (fun _ _ _ h => h) (Or.inl ⟨by rfl, ?y16z15⟩) hHeld ?r16z15
  case y16z15 => (intro w hSw; (try dsimp only at hSw); go_simp) <;> with_reducible rfl
  try simp only [Act.put, List.setIfInBounds_toArray, List.set_cons_zero, List.set_cons_succ]
  refine wpAnyH_take (i := 17) (oi := { dst := some 59, op := Go.Op.pick (Go.Operand.tmp 55) (Go.Operand.tmp 58) (Go.Operand.const (Go.Value.bool false)), type := 4, pos := "law.go:25", after := #[{ on := 13, ground := Go.Ground.data }, { on := 16, ground := Go.Ground.data }], guard := none }) (v := ?v17z16) rfl (by kernel_rfl) (by kernel_rfl) (by kernel_rfl) (fun _ _ _ h => h) (Or.inl ⟨by rfl, ?y17z16⟩) hHeld ?r17z16
  case y17z16 => (intro w hSw; (try dsimp only at hSw); go_simp) <;> with_reducible rfl
  try simp only [Act.put, List.setIfInBounds_toArray, List.set_cons_zero, List.set_cons_succ]
  refine wpAnyH_take (i := 18) (oi := { dst := some 60, op := Go.Op.move (Go.Operand.tmp 59), type := 4, pos := "law.go:25", after := #[{ on := 17, ground := Go.Ground.data }, { on := 13, ground := Go.Ground.chain }], guard := none }) (v := ?v18z17) rfl (by kernel_rfl) (by kernel_rfl) (by kernel_rfl) (fun _ _ _ h => h) (Or.inl ⟨by rfl, ?y18z17⟩) hHeld ?r18z17
  case y18z17 => (intro w hSw; (try dsimp only at hSw); go_simp) <;> with_reducible rfl
  try simp only [Act.put, List.setIfInBounds_toArray, List.set_cons_zero, List.set_cons_succ]
  refine wpAnyH_take (i := 19) (oi := { dst := some 61, op := Go.Op.move (Go.Operand.tmp 0), type := 3, pos := "law.go:25", after := #[{ on := 18, ground := Go.Ground.guard }], guard := some (18, true) }) (v := ?v19z18) rfl (by kernel_rfl) (by kernel_rfl) (by kernel_rfl) (fun _ _ _ h => h) (Or.inl ⟨by rfl, ?y19z18⟩) hHeld ?r19z18
  case y19z18 => (intro w hSw; (try dsimp only at hSw); go_simp) <;> with_reducible rfl
  try simp only [Act.put, List.setIfInBounds_toArray, List.set_cons_zero, List.set_cons_succ]
  refine wpAnyH_take (i := 20) (oi := { dst := some 62, op := Go.Op.load 25 (Go.Operand.tmp 4), type := 25, pos := "law.go:25", after := #[{ on := 18, ground := Go.Ground.guard }], guard := some (18, true) }) (v := ?v20z19) rfl (by kernel_rfl) (by kernel_rfl) (by kernel_rfl) (fun _ _ _ h => h) (Or.inl ⟨by rfl, ?y20z19⟩) hHeld ?r20z19
  case y20z19 => (intro w hSw; (try dsimp only at hSw); go_simp) <;> with_reducible rfl
  try simp only [Act.put, List.setIfInBounds_toArray, List.set_cons_zero, List.set_cons_succ]
  refine wpAnyH_take (i := 22) (oi := { dst := some 64, op := Go.Op.move (Go.Operand.tmp 0), type := 3, pos := "law.go:25", after := #[{ on := 18, ground := Go.Ground.guard }], guard := some (18, true) }) (v := ?v22z20) rfl (by kernel_rfl) (by kernel_rfl) (by kernel_rfl) (fun _ _ _ h => h) (Or.inl ⟨by rfl, ?y22z20⟩) hHeld ?r22z20
  case y22z20 => (intro w hSw; (try dsimp only at hSw); go_simp) <;> with_reducible rfl
  try simp only [Act.put, List.setIfInBounds_toArray, List.set_cons_zero, List.set_cons_succ]
  refine wpAnyH_take (i := 23) (oi := { dst := some 65, op := Go.Op.load 25 (Go.Operand.tmp 4), type := 25, pos := "law.go:25", after := #[{ on := 18, ground := Go.Ground.guard }], guard := some (18, true) }) (v := ?v23z21) rfl (by kernel_rfl) (by kernel_rfl) (by kernel_rfl) (fun _ _ _ h => h) (Or.inl ⟨by rfl, ?y23z21⟩) hHeld ?r23z21
  case y23z21 => (intro w hSw; (try dsimp only at hSw); go_simp) <;> with_reducible rfl
  try simp only [Act.put, List.setIfInBounds_toArray, List.set_cons_zero, List.set_cons_succ]
  refine wpAnyH_ready (rs := [21]) (by kernel_rfl) (by simp) ?_
  refine AllReadyH.cons (o := { dst := some 63, op := Go.Op.call { callee := Go.Callee.value (Go.Operand.func 15), args := #[Go.Operand.tmp 61, Go.Operand.tmp 62], argTypes := #[3, 25] }, type := 22, pos := "law.go:25", after := #[{ on := 19, ground := Go.Ground.data }, { on := 20, ground := Go.Ground.data }, { on := 18, ground := Go.Ground.chain }, { on := 18, ground := Go.Ground.guard }], guard := some (18, true) }) rfl (fun K hK => ?_) AllReadyH.nil
  go_simp
  refine (HH1.out _ b11).mono ?_
  rintro x w12 ⟨hv1, rfl, hh1, b12'⟩
  have b12 := b11.trans (b12'.mono b11.size)
  replace hHeld := hcells w12 b12
  refine hK.out _ _ ?_ (fun _ => ?_)
  · exact hHeld
  clear hK K
  try simp only [Act.put, List.setIfInBounds_toArray, List.set_cons_zero, List.set_cons_succ]
  refine wpAnyH_ready (rs := [24]) (by kernel_rfl) (by simp) ?_
  refine AllReadyH.cons (o := { dst := some 66, op := Go.Op.call { callee := Go.Callee.value (Go.Operand.func 16), args := #[Go.Operand.tmp 64, Go.Operand.tmp 65], argTypes := #[3, 25] }, type := 22, pos := "law.go:25", after := #[{ on := 22, ground := Go.Ground.data }, { on := 23, ground := Go.Ground.data }, { on := 21, ground := Go.Ground.chain }, { on := 18, ground := Go.Ground.guard }], guard := some (18, true) }) rfl (fun K hK => ?_) AllReadyH.nil
  go_simp
  refine (HH2.out _ b12).mono ?_
  rintro x w13 ⟨hv2, rfl, hh2, b13'⟩
  have b13 := b12.trans (b13'.mono b12.size)
  replace hHeld := hcells w13 b13
  refine hK.out _ _ ?_ (fun _ => ?_)
  · exact hHeld
  clear hK K
  try simp only [Act.put, List.setIfInBounds_toArray, List.set_cons_zero, List.set_cons_succ]
  refine wpAnyH_ready (rs := [25]) (by kernel_rfl) (by simp) ?_
  refine AllReadyH.cons (o := { dst := some 67, op := Go.Op.call { callee := Go.Callee.value (Go.Operand.func 13), args := #[Go.Operand.tmp 63, Go.Operand.tmp 66], argTypes := #[22, 22] }, type := 4, pos := "law.go:25", after := #[{ on := 21, ground := Go.Ground.data }, { on := 24, ground := Go.Ground.data }, { on := 24, ground := Go.Ground.chain }, { on := 18, ground := Go.Ground.guard }], guard := some (18, true) }) rfl (fun K hK => ?_) AllReadyH.nil
  go_simp
  refine (equal_t _ _ HS HS _ (hh1.later b13') hh2 rfl).mono ?_
  rintro x wz ⟨rfl, hwz⟩
  subst hwz
  refine hK.out _ _ ?_ (fun _ => ?_)
  · exact hHeld
  clear hK K
  try simp only [Act.put, List.setIfInBounds_toArray, List.set_cons_zero, List.set_cons_succ]
  refine wpAnyH_take (i := 26) (oi := { dst := some 68, op := Go.Op.pick (Go.Operand.tmp 60) (Go.Operand.tmp 67) (Go.Operand.const (Go.Value.bool false)), type := 4, pos := "law.go:25", after := #[{ on := 18, ground := Go.Ground.data }, { on := 25, ground := Go.Ground.data }], guard := none }) (v := ?v26z22) rfl (by kernel_rfl) (by kernel_rfl) (by kernel_rfl) (fun _ _ _ h => h) (Or.inl ⟨by rfl, ?y26z22⟩) hHeld ?r26z22
  case y26z22 => (intro w hSw; (try dsimp only at hSw); go_simp) <;> with_reducible rfl
  try simp only [Act.put, List.setIfInBounds_toArray, List.set_cons_zero, List.set_cons_succ]
  refine wpAnyH_take (i := 27) (oi := { dst := some 69, op := Go.Op.move (Go.Operand.tmp 68), type := 4, pos := "law.go:25", after := #[{ on := 26, ground := Go.Ground.data }, { on := 25, ground := Go.Ground.chain }], guard := none }) (v := ?v27z23) rfl (by kernel_rfl) (by kernel_rfl) (by kernel_rfl) (fun _ _ _ h => h) (Or.inl ⟨by rfl, ?y27z23⟩) hHeld ?r27z23
  case y27z23 => (intro w hSw; (try dsimp only at hSw); go_simp) <;> with_reducible rfl
  try simp only [Act.put, List.setIfInBounds_toArray, List.set_cons_zero, List.set_cons_succ]
  refine wpAnyH_take (i := 28) (oi := { dst := some 70, op := Go.Op.move (Go.Operand.tmp 0), type := 3, pos := "law.go:25", after := #[{ on := 27, ground := Go.Ground.guard }], guard := some (27, true) }) (v := ?v28z24) rfl (by kernel_rfl) (by kernel_rfl) (by kernel_rfl) (fun _ _ _ h => h) (Or.inl ⟨by rfl, ?y28z24⟩) hHeld ?r28z24
  case y28z24 => (intro w hSw; (try dsimp only at hSw); go_simp) <;> with_reducible rfl
  try simp only [Act.put, List.setIfInBounds_toArray, List.set_cons_zero, List.set_cons_succ]
  refine wpAnyH_take (i := 29) (oi := { dst := some 71, op := Go.Op.load 25 (Go.Operand.tmp 4), type := 25, pos := "law.go:25", after := #[{ on := 27, ground := Go.Ground.guard }], guard := some (27, true) }) (v := ?v29z25) rfl (by kernel_rfl) (by kernel_rfl) (by kernel_rfl) (fun _ _ _ h => h) (Or.inl ⟨by rfl, ?y29z25⟩) hHeld ?r29z25
  case y29z25 => (intro w hSw; (try dsimp only at hSw); go_simp) <;> with_reducible rfl
  try simp only [Act.put, List.setIfInBounds_toArray, List.set_cons_zero, List.set_cons_succ]
  refine wpAnyH_take (i := 31) (oi := { dst := some 73, op := Go.Op.move (Go.Operand.tmp 0), type := 3, pos := "law.go:25", after := #[{ on := 27, ground := Go.Ground.guard }], guard := some (27, true) }) (v := ?v31z26) rfl (by kernel_rfl) (by kernel_rfl) (by kernel_rfl) (fun _ _ _ h => h) (Or.inl ⟨by rfl, ?y31z26⟩) hHeld ?r31z26
  case y31z26 => (intro w hSw; (try dsimp only at hSw); go_simp) <;> with_reducible rfl
  try simp only [Act.put, List.setIfInBounds_toArray, List.set_cons_zero, List.set_cons_succ]
  refine wpAnyH_take (i := 32) (oi := { dst := some 74, op := Go.Op.load 25 (Go.Operand.tmp 4), type := 25, pos := "law.go:25", after := #[{ on := 27, ground := Go.Ground.guard }], guard := some (27, true) }) (v := ?v32z27) rfl (by kernel_rfl) (by kernel_rfl) (by kernel_rfl) (fun _ _ _ h => h) (Or.inl ⟨by rfl, ?y32z27⟩) hHeld ?r32z27
  case y32z27 => (intro w hSw; (try dsimp only at hSw); go_simp) <;> with_reducible rfl
  try simp only [Act.put, List.setIfInBounds_toArray, List.set_cons_zero, List.set_cons_succ]
  refine wpAnyH_ready (rs := [30]) (by kernel_rfl) (by simp) ?_
  refine AllReadyH.cons (o := { dst := some 72, op := Go.Op.call { callee := Go.Callee.value (Go.Operand.func 17), args := #[Go.Operand.tmp 70, Go.Operand.tmp 71], argTypes := #[3, 25] }, type := 4, pos := "law.go:25", after := #[{ on := 28, ground := Go.Ground.data }, { on := 29, ground := Go.Ground.data }, { on := 27, ground := Go.Ground.chain }, { on := 27, ground := Go.Ground.guard }], guard := some (27, true) }) rfl (fun K hK => ?_) AllReadyH.nil
  go_simp
  refine (HC1.out _ b13).mono ?_
  rintro x w14 ⟨rfl, b14'⟩
  have b14 := b13.trans (b14'.mono b13.size)
  replace hHeld := hcells w14 b14
  refine hK.out _ _ ?_ (fun _ => ?_)
  · exact hHeld
  clear hK K
  try simp only [Act.put, List.setIfInBounds_toArray, List.set_cons_zero, List.set_cons_succ]
  refine wpAnyH_ready (rs := [33]) (by kernel_rfl) (by simp) ?_
  refine AllReadyH.cons (o := { dst := some 75, op := Go.Op.call { callee := Go.Callee.value (Go.Operand.func 18), args := #[Go.Operand.tmp 73, Go.Operand.tmp 74], argTypes := #[3, 25] }, type := 4, pos := "law.go:25", after := #[{ on := 31, ground := Go.Ground.data }, { on := 32, ground := Go.Ground.data }, { on := 30, ground := Go.Ground.chain }, { on := 27, ground := Go.Ground.guard }], guard := some (27, true) }) rfl (fun K hK => ?_) AllReadyH.nil
  go_simp
  refine (HC2.out _ b14).mono ?_
  rintro x w15 ⟨rfl, b15'⟩
  have b15 := b14.trans (b15'.mono b14.size)
  replace hHeld := hcells w15 b15
  refine hK.out _ _ ?_ (fun _ => ?_)
  · exact hHeld
  clear hK K
  try simp only [Act.put, List.setIfInBounds_toArray, List.set_cons_zero, List.set_cons_succ]
  refine wpAnyH_take (i := 34) (oi := { dst := some 76, op := Go.Op.binOp Go.BinOp.eql 4 (Go.Operand.tmp 72) (Go.Operand.tmp 75) 4, type := 4, pos := "law.go:25", after := #[{ on := 30, ground := Go.Ground.data }, { on := 33, ground := Go.Ground.data }, { on := 27, ground := Go.Ground.guard }], guard := some (27, true) }) (v := ?v34z28) rfl (by kernel_rfl) (by kernel_rfl) (by kernel_rfl) (fun _ _ _ h => h) (Or.inl ⟨by rfl, ?y34z28⟩) hHeld ?r34z28
  case y34z28 => (intro w hSw; (try dsimp only at hSw); go_simp) <;> with_reducible rfl
  try simp only [Act.put, List.setIfInBounds_toArray, List.set_cons_zero, List.set_cons_succ]
  refine wpAnyH_take (i := 35) (oi := { dst := some 77, op := Go.Op.pick (Go.Operand.tmp 69) (Go.Operand.tmp 76) (Go.Operand.const (Go.Value.bool false)), type := 4, pos := "law.go:25", after := #[{ on := 27, ground := Go.Ground.data }, { on := 34, ground := Go.Ground.data }], guard := none }) (v := ?v35z29) rfl (by kernel_rfl) (by kernel_rfl) (by kernel_rfl) (fun _ _ _ h => h) (Or.inl ⟨by rfl, ?y35z29⟩) hHeld ?r35z29
  case y35z29 => (intro w hSw; (try dsimp only at hSw); go_simp) <;> with_reducible rfl
  try simp only [Act.put, List.setIfInBounds_toArray, List.set_cons_zero, List.set_cons_succ]
  refine wpAnyH_take (i := 36) (oi := { dst := some 78, op := Go.Op.move (Go.Operand.tmp 77), type := 4, pos := "law.go:25", after := #[{ on := 35, ground := Go.Ground.data }, { on := 33, ground := Go.Ground.chain }], guard := none }) (v := ?v36z30) rfl (by kernel_rfl) (by kernel_rfl) (by kernel_rfl) (fun _ _ _ h => h) (Or.inl ⟨by rfl, ?y36z30⟩) hHeld ?r36z30
  case y36z30 => (intro w hSw; (try dsimp only at hSw); go_simp) <;> with_reducible rfl
  try simp only [Act.put, List.setIfInBounds_toArray, List.set_cons_zero, List.set_cons_succ]
  refine wpAnyH_take (i := 37) (oi := { dst := some 79, op := Go.Op.move (Go.Operand.tmp 7), type := 22, pos := "law.go:25", after := #[{ on := 36, ground := Go.Ground.guard }], guard := some (36, true) }) (v := ?v37z31) rfl (by kernel_rfl) (by kernel_rfl) (by kernel_rfl) (fun _ _ _ h => h) (Or.inl ⟨by rfl, ?y37z31⟩) hHeld ?r37z31
  case y37z31 => (intro w hSw; (try dsimp only at hSw); go_simp) <;> with_reducible rfl
  try simp only [Act.put, List.setIfInBounds_toArray, List.set_cons_zero, List.set_cons_succ]
  refine wpAnyH_take (i := 38) (oi := { dst := some 80, op := Go.Op.move (Go.Operand.tmp 2), type := 22, pos := "law.go:25", after := #[{ on := 36, ground := Go.Ground.guard }], guard := some (36, true) }) (v := ?v38z32) rfl (by kernel_rfl) (by kernel_rfl) (by kernel_rfl) (fun _ _ _ h => h) (Or.inl ⟨by rfl, ?y38z32⟩) hHeld ?r38z32
  case y38z32 => (intro w hSw; (try dsimp only at hSw); go_simp) <;> with_reducible rfl
  try simp only [Act.put, List.setIfInBounds_toArray, List.set_cons_zero, List.set_cons_succ]
  refine wpAnyH_ready (rs := [39]) (by kernel_rfl) (by simp) ?_
  refine AllReadyH.cons (o := { dst := some 81, op := Go.Op.call { callee := Go.Callee.value (Go.Operand.func 13), args := #[Go.Operand.tmp 79, Go.Operand.tmp 80], argTypes := #[22, 22] }, type := 4, pos := "law.go:25", after := #[{ on := 37, ground := Go.Ground.data }, { on := 38, ground := Go.Ground.data }, { on := 36, ground := Go.Ground.chain }, { on := 36, ground := Go.Ground.guard }], guard := some (36, true) }) rfl (fun K hK => ?_) AllReadyH.nil
  go_simp
  refine (equal_t _ _ b b _ (hgiv.later b15) (hb.later b15) rfl).mono ?_
  rintro x wz ⟨rfl, hwz⟩
  subst hwz
  refine hK.out _ _ ?_ (fun _ => ?_)
  · exact hHeld
  clear hK K
  try simp only [Act.put, List.setIfInBounds_toArray, List.set_cons_zero, List.set_cons_succ]
  refine wpAnyH_take (i := 40) (oi := { dst := some 82, op := Go.Op.pick (Go.Operand.tmp 78) (Go.Operand.tmp 81) (Go.Operand.const (Go.Value.bool false)), type := 4, pos := "law.go:25", after := #[{ on := 36, ground := Go.Ground.data }, { on := 39, ground := Go.Ground.data }], guard := none }) (v := ?v40z33) rfl (by kernel_rfl) (by kernel_rfl) (by kernel_rfl) (fun _ _ _ h => h) (Or.inl ⟨by rfl, ?y40z33⟩) hHeld ?r40z33
  case y40z33 => (intro w hSw; (try dsimp only at hSw); go_simp) <;> with_reducible rfl
  try simp only [Act.put, List.setIfInBounds_toArray, List.set_cons_zero, List.set_cons_succ]
  refine wpAnyH_take (i := 41) (oi := { dst := some 83, op := Go.Op.move (Go.Operand.tmp 82), type := 4, pos := "law.go:25", after := #[{ on := 40, ground := Go.Ground.data }, { on := 39, ground := Go.Ground.chain }], guard := none }) (v := ?v41z34) rfl (by kernel_rfl) (by kernel_rfl) (by kernel_rfl) (fun _ _ _ h => h) (Or.inl ⟨by rfl, ?y41z34⟩) hHeld ?r41z34
  case y41z34 => (intro w hSw; (try dsimp only at hSw); go_simp) <;> with_reducible rfl
  try simp only [Act.put, List.setIfInBounds_toArray, List.set_cons_zero, List.set_cons_succ]
  refine wpAnyH_ready (rs := [42]) (by kernel_rfl) (by simp) ?_
  refine AllReadyH.cons (o := { dst := some 84, op := Go.Op.call { callee := Go.Callee.value (Go.Operand.func 19), args := #[], argTypes := #[] }, type := 4, pos := "law.go:25", after := #[{ on := 41, ground := Go.Ground.chain }, { on := 41, ground := Go.Ground.guard }], guard := some (41, true) }) rfl (fun K hK => ?_) AllReadyH.nil
  go_simp
  refine (rcAwake_any _ (tX.later b15)).mono ?_
  rintro x w16 ⟨rfl, b16'⟩
  have b16 := b15.trans (b16'.mono b15.size)
  replace hHeld := hcells w16 b16
  refine hK.out _ _ ?_ (fun _ => ?_)
  · exact hHeld
  clear hK K
  try simp only [Act.put, List.setIfInBounds_toArray, List.set_cons_zero, List.set_cons_succ]
  refine wpAnyH_take (i := 43) (oi := { dst := some 85, op := Go.Op.pick (Go.Operand.tmp 83) (Go.Operand.tmp 84) (Go.Operand.const (Go.Value.bool false)), type := 4, pos := "law.go:25", after := #[{ on := 41, ground := Go.Ground.data }, { on := 42, ground := Go.Ground.data }], guard := none }) (v := ?v43z35) rfl (by kernel_rfl) (by kernel_rfl) (by kernel_rfl) (fun _ _ _ h => h) (Or.inl ⟨by rfl, ?y43z35⟩) hHeld ?r43z35
  case y43z35 => (intro w hSw; (try dsimp only at hSw); go_simp) <;> with_reducible rfl
  try simp only [Act.put, List.setIfInBounds_toArray, List.set_cons_zero, List.set_cons_succ]
  refine wpAnyH_take (i := 44) (oi := { dst := some 6, op := Go.Op.assign (Go.Operand.tmp 85), type := 4, pos := "law.go:25", after := #[{ on := 43, ground := Go.Ground.data }, { on := 42, ground := Go.Ground.chain }, { on := 0, ground := Go.Ground.phase }, { on := 1, ground := Go.Ground.phase }, { on := 2, ground := Go.Ground.phase }, { on := 3, ground := Go.Ground.phase }, { on := 4, ground := Go.Ground.phase }, { on := 5, ground := Go.Ground.phase }, { on := 6, ground := Go.Ground.phase }, { on := 7, ground := Go.Ground.phase }, { on := 8, ground := Go.Ground.phase }, { on := 9, ground := Go.Ground.phase }, { on := 10, ground := Go.Ground.phase }, { on := 11, ground := Go.Ground.phase }, { on := 12, ground := Go.Ground.phase }, { on := 13, ground := Go.Ground.phase }, { on := 14, ground := Go.Ground.phase }, { on := 15, ground := Go.Ground.phase }, { on := 16, ground := Go.Ground.phase }, { on := 17, ground := Go.Ground.phase }, { on := 18, ground := Go.Ground.phase }, { on := 19, ground := Go.Ground.phase }, { on := 20, ground := Go.Ground.phase }, { on := 21, ground := Go.Ground.phase }, { on := 22, ground := Go.Ground.phase }, { on := 23, ground := Go.Ground.phase }, { on := 24, ground := Go.Ground.phase }, { on := 25, ground := Go.Ground.phase }, { on := 26, ground := Go.Ground.phase }, { on := 27, ground := Go.Ground.phase }, { on := 28, ground := Go.Ground.phase }, { on := 29, ground := Go.Ground.phase }, { on := 30, ground := Go.Ground.phase }, { on := 31, ground := Go.Ground.phase }, { on := 32, ground := Go.Ground.phase }, { on := 33, ground := Go.Ground.phase }, { on := 34, ground := Go.Ground.phase }, { on := 35, ground := Go.Ground.phase }, { on := 36, ground := Go.Ground.phase }, { on := 37, ground := Go.Ground.phase }, { on := 38, ground := Go.Ground.phase }, { on := 39, ground := Go.Ground.phase }, { on := 40, ground := Go.Ground.phase }, { on := 41, ground := Go.Ground.phase }, { on := 42, ground := Go.Ground.phase }, { on := 43, ground := Go.Ground.phase }], guard := none }) (v := ?v44z36) rfl (by kernel_rfl) (by kernel_rfl) (by kernel_rfl) (fun _ _ _ h => h) (Or.inl ⟨by rfl, ?y44z36⟩) hHeld ?r44z36
  case y44z36 => (intro w hSw; (try dsimp only at hSw); go_simp) <;> with_reducible rfl
  try simp only [Act.put, List.setIfInBounds_toArray, List.set_cons_zero, List.set_cons_succ]
  refine wpAnyH_done (by kernel_rfl) ?_ _
  have bF := bX.trans (b16.mono bX.size)
  clear hHeld hcells
  go_wp2
  go_ret
  exact ⟨rfl, bF⟩

end Go.Proofs.YtgfddabccjfhiaaDoor

namespace Go.Proofs.YtgfddabccjfhiaaDoor
open Go.ChangeShapes Go.WideShapes Go.ChangeAt Go.RowKit

set_option maxRecDepth 100000 in
theorem recordBytesContract (H : Type) (enc : TypeId × Value → H) (W : World) (base : Nat) (args : Array Value) (ds gs : List (DataW H)) (before : List MemPlace)
    (hval : ∀ (j : Nat) t v, Tryd.f3.params[j]? = some t → args[j]? = some v → Value.okWide Tryd.prog W .any base t v)
    (hW : DataW.Whole enc Tryd.prog Tryd.f3.params.toList Rows.recordBytesSpec.vars false W args.toList ds gs before) (hsz0 : (DataW.weightsEach Tryd.prog (Tryd.f3.params.toList ++ (OpenSpec.ofChange Rows.recordBytesSpec).bare.plain.varTypes Tryd.prog) (ds ++ gs)).all (· ≤ reachBytes) = true) (hL : laidMetH Tryd.prog Rows.recordBytesRow.laid W) :
    Calls Tryd.prog 3 args W fun e W' => ∃ v, e = .returned v ∧ Rows.recordBytesSpec.post enc Tryd.prog Tryd.f3 false true false false W args v W' := by
  have hT : Tabs W := tabs_of (laidMet.tail (laidMet.tail hL))
  have hD : TD W := td_of hL
  have hW' := hW
  obtain ⟨p, q, hA0, hV, rfl, hfz, hnd⟩ := hW
  have hA : DataW.TrodAll enc Tryd.prog W 0 (fun _ => true) true Tryd.f3.params.toList args.toList ds p := hA0
  rw [Tryd.params3] at hA hval hsz0
  obtain ⟨v0, vs0, d0, ds0, p0, q0, hargs, rfl, rfl, h0, r0⟩ := trodAll_cons hA
  obtain ⟨v1, vs1, d1, ds1, p1, q1, rfl, rfl, rfl, h1, r1⟩ := trodAll_cons r0
  obtain ⟨v2, vs2, d2, ds2, p2, q2, rfl, rfl, rfl, h2, r2⟩ := trodAll_cons r1
  obtain ⟨rfl, rfl, rfl⟩ := trodAll_nil r2
  obtain rfl : args = #[v0, v1, v2] := by cases args; simp_all
  obtain ⟨rfl, rfl⟩ := trodVars_none hV
  obtain ⟨a0, rfl, rfl, rfl, w0⟩ := open_int Tryd.underlying3 (hval 0 3 v0 rfl rfl) h0
  have k1 := h1
  have lt1 : ∀ x ∈ p1, x.block < W.heap.size := by obtain ⟨m, hm⟩ := k1; exact DataW.trod_lt m _ _ _ hm
  obtain ⟨re1, rt1, rc1, tv1, lv1, kv1, tr1, li1, lk1, rfl, hl1, hm1, hn1⟩ := open_rec (hval 1 25 v1 rfl rfl) h1
  have k2 := h2
  have lt2 : ∀ x ∈ p2, x.block < W.heap.size := by obtain ⟨m, hm⟩ := k2; exact DataW.trod_lt m _ _ _ hm
  obtain ⟨l2, hl2, he2⟩ := open_hb (hval 2 22 v2 rfl rfl) h2
  have hr2 : l2.length ≤ 140737488351232 := hb_reach hsz0 2 rfl rfl he2
  clear hA0
  simp only [List.append_nil] at hW'
  refine (recBytesWalk a0 re1 rt1 rc1 tv1 lv1 kv1 v2 tr1 li1 lk1 l2 W hl1 hm1 hn1 hl2 hr2 hD hT).mono fun e W' ⟨he, bel⟩ => ?_
  subst he
  exact ⟨_, rfl, _, _, _, [], _, [], hW', trodAll_mk1 (shut_bool Tryd.underlying4 _), (trodAll_cons_mk (shut_int Tryd.underlying3 w0) (trodAll_cons_mk (Below.trod laidOut (by kernel_rfl) (of_decide_eq_true (by kernel_rfl)) k1 bel lt1) (trodAll_cons_mk (Below.trod laidOut (by kernel_rfl) (of_decide_eq_true (by kernel_rfl)) k2 bel lt2) trodAll_mk0))), rfl, bel.frame _, fun h => by cases h⟩

theorem recordBytesMet (os : Os) : laidMet Tryd.prog Rows.recordBytesRow.laid (({ World.holding Tryd.prog os ⟨#[], #[], []⟩ with heap := (((((((((World.holding Tryd.prog os ⟨#[], #[], []⟩).heap).modify 0 fun | .cells _ t frozen => .cells tab32Cells t frozen | o => o)).modify 1 fun | .cells _ t frozen => .cells tab64Cells t frozen | o => o)).modify 2 fun | .cells _ t frozen => .cells startCells t frozen | o => o)).modify 3 fun | .cells _ t frozen => .cells roundsCells t frozen | o => o) } : World).forCall (fun _ _ => 0) ⟨#[], #[.int .i64 0, .agg #[.int .i64 0, .int .i64 0, .slice none 0 0, .int .i64 0, .slice none 0 0, .slice none 0 0], .slice none 0 0], []⟩).memory :=
  laidMet_of_run' 8 (by kernel_rfl) (by kernel_rfl)
theorem recordBytesReads (os : Os) {H : Type} (enc : TypeId × Value → H) : ∃ places, DataW.whole enc Tryd.prog (({ World.holding Tryd.prog os ⟨#[], #[], []⟩ with heap := (((((((((World.holding Tryd.prog os ⟨#[], #[], []⟩).heap).modify 0 fun | .cells _ t frozen => .cells tab32Cells t frozen | o => o)).modify 1 fun | .cells _ t frozen => .cells tab64Cells t frozen | o => o)).modify 2 fun | .cells _ t frozen => .cells startCells t frozen | o => o)).modify 3 fun | .cells _ t frozen => .cells roundsCells t frozen | o => o) } : World).forCall (fun _ _ => 0) ⟨#[], #[.int .i64 0, .agg #[.int .i64 0, .int .i64 0, .slice none 0 0, .int .i64 0, .slice none 0 0, .slice none 0 0], .slice none 0 0], []⟩).memory Tryd.f3.params.toList Rows.recordBytesSpec.vars false (#[.int .i64 0, .agg #[.int .i64 0, .int .i64 0, .slice none 0 0, .int .i64 0, .slice none 0 0, .slice none 0 0], .slice none 0 0] : Array Value).toList 8 = some ([.lit (.int .i64 0), .agg [.lit (.int .i64 0), .lit (.int .i64 0), .nil, .lit (.int .i64 0), .nil, .nil], .nil], [], places) :=
  ⟨[], by kernel_rfl⟩

set_option maxRecDepth 100000 in
theorem recordBytesLifted (os : Os) (started : os.Started) (H : Type) (enc : TypeId × Value → H) (F : Stop.Interp) :
    ReturnsInHanded {} Tryd.checked os 3 .any ((OpenSpec.ofChange Rows.recordBytesSpec).preRow enc Tryd.prog Tryd.f3 Rows.recordBytesRow.domain false Rows.recordBytesRow.laid) (((OpenSpec.ofChange Rows.recordBytesSpec).at F).post enc Tryd.prog Tryd.f3 false true false false) := by
  obtain ⟨places, hx⟩ := recordBytesReads os enc
  refine returnsInHanded_of_row (C := Tryd.checked) (s := OpenSpec.ofChange Rows.recordBytesSpec) own started (by kernel_rfl) Tryd.func3
    (witness_row_at (enc := enc) (C := Tryd.checked) false ({ World.holding Tryd.prog os ⟨#[], #[], []⟩ with heap := (((((((((World.holding Tryd.prog os ⟨#[], #[], []⟩).heap).modify 0 fun | .cells _ t frozen => .cells tab32Cells t frozen | o => o)).modify 1 fun | .cells _ t frozen => .cells tab64Cells t frozen | o => o)).modify 2 fun | .cells _ t frozen => .cells startCells t frozen | o => o)).modify 3 fun | .cells _ t frozen => .cells roundsCells t frozen | o => o) } : World) #[.int .i64 0, .agg #[.int .i64 0, .int .i64 0, .slice none 0 0, .int .i64 0, .slice none 0 0, .slice none 0 0], .slice none 0 0] rfl (by kernel_rfl) (by kernel_rfl) (by kernel_rfl)
      (OpenSpec.preRow_of_cond 8 hx (by kernel_rfl) (fun k hk => by cases hk) (by kernel_rfl) (recordBytesMet os))) ?_
  intro W base args ds gs before hval hW _ _ hsz hL _ _
  exact recordBytesContract H enc W base args ds gs before hval hW hsz hL

theorem recordBytesSaid_holds : Rows.RecordBytesSaid :=
  OpenClaim.holds_of_cond 3 Tryd.f3 rfl rfl rfl rfl rfl rfl rfl ⟨rfl, rfl, rfl, rfl, rfl⟩ rfl rfl rfl rfl rfl (by kernel_rfl) Tryd.func3 (by kernel_rfl)
    (of_decide_eq_true (by kernel_rfl)) (by unfold Func.isWrapper; first | (rw [if_pos (by decide +kernel)]; kernel_rfl) | (rw [if_neg (by decide +kernel)]; exact ⟨rfl, rfl⟩))
    (fun os started H enc _ F => by rw [OpenClaim.pre_eq_preRow]; exact recordBytesLifted os started H enc F)

theorem recordBytesPlain (f : FuncId) (fn : Func) (hf : Tryd.pinned.checked.prog.funcNamed "annals/annalslaw13.RecordBytes" = some f) (hfn : Tryd.pinned.checked.prog.funcs[f]? = some fn) :
    false = Tryd.pinned.checked.prog.looks [] ∧ ∀ (j : Nat) t, fn.params[j]? = some t → Tryd.pinned.checked.prog.wantsStandIn t = false := by
  obtain rfl : f = 3 := Option.some.inj ((show Tryd.prog.funcNamed "annals/annalslaw13.RecordBytes" = some 3 by kernel_rfl).symm.trans hf) |>.symm
  obtain rfl : fn = Tryd.f3 := (Option.some.inj (Tryd.func3.symm.trans hfn)).symm
  refine ⟨by kernel_rfl, fun j t ht => ?_⟩
  rw [Tryd.params3] at ht
  have hm : t = 3 ∨ t = 25 ∨ t = 22 := by simpa using Array.mem_of_getElem? ht
  rcases hm with rfl | rfl | rfl
  · exact (show Tryd.prog.wantsStandIn 3 = false by kernel_rfl)
  · exact (show Tryd.prog.wantsStandIn 25 = false by kernel_rfl)
  · exact (show Tryd.prog.wantsStandIn 22 = false by kernel_rfl)

theorem recordBytes_holds : Rows.RecordBytesCardSaid :=
  Claim7.holds_tied_plain_at .later [] _ _ _ _ recordBytesSaid_holds (fun _ h => by cases h) (by kernel_rfl) (fun _ h => by cases h) recordBytes_row_tie rfl ⟨rfl, rfl⟩ (by kernel_rfl) rfl recordBytesPlain (by kernel_rfl)

#print axioms recordBytes_holds
end Go.Proofs.YtgfddabccjfhiaaDoor
