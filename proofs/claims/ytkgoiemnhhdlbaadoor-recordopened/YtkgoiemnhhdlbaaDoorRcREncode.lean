/- What this text proves: the walk of annalsref13.Encode over this program: a record's bytes, or the error. (By program: held.py, mkrenc.py.) -/
import Derived.Test.YtkgoiemnhhdlbaaDoorRcRCan
import Derived.Test.YtkgoiemnhhdlbaaDoorRcEncode
import Derived.Test.YtkgoiemnhhdlbaaDoorRPuts
namespace Go.Proofs.YtkgoiemnhhdlbaaDoor
open Go.RowKit

theorem ruint_hb (v : Value) (l : List UInt8) (n : Int) (w : World) (h : HB w v l) (hbig : l.length ≤ 1048576) :
    Calls Tryd.prog 34 #[v, .int .i64 n] w fun e w' => ∃ p c, e = .returned (.slice p (l ++ numL (clampN n)).length c) ∧ HB w' (.slice p (l ++ numL (clampN n)).length c) (l ++ numL (clampN n)) ∧ Below w.heap.size w w' :=
  (ruint_any v l n w h (by omega)).mono fun _ _ ⟨p, c, e1, e2, e3⟩ => ⟨p, c, e1, HB.of_owns e2, e3⟩

theorem rbytes_hb (v u : Value) (l s : List UInt8) (w : World) (h : HB w v l) (hs : HB w u s) (hbig : l.length + s.length ≤ 1048576) :
    Calls Tryd.prog 17 #[v, u] w fun e w' => ∃ p c, e = .returned (.slice p (l ++ bytesL s).length c) ∧ HB w' (.slice p (l ++ bytesL s).length c) (l ++ bytesL s) ∧ Below w.heap.size w w' :=
  (rbytes_any v u l s w h hs (by omega)).mono fun _ _ ⟨p, c, e1, e2, e3⟩ => ⟨p, c, e1, HB.of_owns e2, e3⟩

set_option maxHeartbeats 2000000 in
theorem rencode_no (size e t c : Int) (tv lv kv : Value) (tr li : List UInt8) (lk : List (List UInt8)) (w : World) (h1 : HB w tv tr) (h2 : HB w lv li) (h3 : PA w kv lk) (hcan : canB size ⟨e, t, c, tr, li, lk⟩ = false) :
    Calls Tryd.prog 14 #[.int .i64 size, .agg #[.int .i64 e, .int .i64 t, tv, .int .i64 c, lv, kv]] w fun x w' => x = .returned (.tuple #[.slice none 0 0, .int .i64 1]) ∧ Below w.heap.size w w' := by
  have bA := (Below.refl w.heap.size w).alloc (Nat.le_refl _) (.cells #[.int .i64 e, .int .i64 t, tv, .int .i64 c, lv, kv] 25)
  have hC := rcan_any size e t c tv lv kv tr li lk _ (h1.later bA) (h2.later bA) (h3.later bA)
  rw [hcan] at hC
  obtain ⟨tp, tc, rfl⟩ := h1.shape
  obtain ⟨lp, lc, rfl⟩ := h2.shape
  obtain ⟨kp, kc, rfl⟩ := h3.shape
  clear h1 h2 h3 hcan
  go_enter Tryd.func14, Tryd.ntmps14
  go_wp2_with fail
  refine hC.mono ?_
  rintro x w1 ⟨rfl, hb1⟩
  have hb := bA.trans (hb1.mono bA.size)
  clear hC bA hb1
  go_wp2
  go_ret2
  exact ⟨rfl, hb⟩

set_option maxHeartbeats 8000000 in
theorem rencode_yes (size e t c : Int) (tv lv kv : Value) (tr li : List UInt8) (lk : List (List UInt8)) (w : World) (h1 : HB w tv tr) (h2 : HB w lv li) (h3 : PA w kv lk) (hcan : canB size ⟨e, t, c, tr, li, lk⟩ = true) :
    Calls Tryd.prog 14 #[.int .i64 size, .agg #[.int .i64 e, .int .i64 t, tv, .int .i64 c, lv, kv]] w fun x w' => ∃ v, x = .returned (.tuple #[v, .int .i64 0]) ∧ HB w' v (encL ⟨e, t, c, tr, li, lk⟩) ∧ Below w.heap.size w w' := by
  have bA := (Below.refl w.heap.size w).alloc (Nat.le_refl _) (.cells #[.int .i64 e, .int .i64 t, tv, .int .i64 c, lv, kv] 25)
  have gA := heap_alloc_new w (.cells #[.int .i64 e, .int .i64 t, tv, .int .i64 c, lv, kv] 25)
  have hC := rcan_any size e t c tv lv kv tr li lk _ (h1.later bA) (h2.later bA) (h3.later bA)
  rw [hcan] at hC
  obtain ⟨q1, q2, q3, q4, q5, q6, q7, q8, q9, q10, q11, q12⟩ := (canB_iff _ _).1 hcan
  dsimp only at q3 q4 q5 q6 q7 q8 q9 q10 q11 q12
  have hlk63 : lk.length ≤ 63 := by rw [q9]; exact linksL_len _ (by omega)
  have hlz := sized_le q12 q2
  have htr : tr.length ≤ 32 := by omega
  have hli : li.length ≤ 32 := by omega
  clear q9 q10 q11 q12 hcan
  obtain ⟨tp, tc, rfl⟩ := h1.shape
  obtain ⟨lp, lc, rfl⟩ := h2.shape
  obtain ⟨kp, kc, rfl⟩ := h3.shape
  obtain ⟨V, hV⟩ : ∃ V, V = w.alloc (.cells #[.int .i64 e, .int .i64 t, .slice tp tr.length tc, .int .i64 c, .slice lp li.length lc, .slice kp lk.length kc] 25) := ⟨_, rfl⟩
  rw [← hV] at bA gA hC
  have hg : w.heap.size < V.heap.size := (Array.getElem?_eq_some_iff.1 gA).1
  have hcells : ∀ W, Below V.heap.size V W → W.cell? ⟨w.heap.size, 0, none⟩ = some (.int .i64 e) ∧ W.cell? ⟨w.heap.size, 1, none⟩ = some (.int .i64 t) ∧ W.cell? ⟨w.heap.size, 2, none⟩ = some (.slice tp tr.length tc) ∧ W.cell? ⟨w.heap.size, 3, none⟩ = some (.int .i64 c) ∧ W.cell? ⟨w.heap.size, 4, none⟩ = some (.slice lp li.length lc) ∧ W.cell? ⟨w.heap.size, 5, none⟩ = some (.slice kp lk.length kc) := by
    intro W hB
    have g1 := (hB.block _ hg).trans gA
    refine ⟨?_, ?_, ?_, ?_, ?_, ?_⟩ <;> (rw [cell_of_row _ _ _ _ _ _ g1]; rfl)
  have k1 := h1.later bA
  have k2 := h2.later bA
  have k3 := h3.later bA
  have HE : Hid (∀ A, A = (((([] ++ numL (clampN e)) ++ numL (clampN t)) ++ bytesL tr) ++ numL (clampN c)) ++ bytesL li ++ putL lk → A = encL ⟨e, t, c, tr, li, lk⟩) := by
    intro A hA
    rw [hA]
    simp [encL]
  have n1 := numL_le e
  have n2 := numL_le t
  have n3 := numL_le c
  have p1 := bytesL_len tr htr
  have p2 := bytesL_len li hli
  clear h1 h2 h3 gA q1 q2 q3 q4 q5 q6 q7 q8
  go_enter Tryd.func14, Tryd.ntmps14
  go_wp2_with fail
  rw [← hV]
  refine hC.mono ?_
  rintro x w1 ⟨rfl, hb1⟩
  clear hC hV
  go_wp2
  have bD : Below V.heap.size V w1.drew := hb1.drew
  have hHeld := hcells w1.drew bD
  refine wp_region_heldN (by kernel_rfl) (fun W => W.cell? ⟨w.heap.size, 0, none⟩ = some (.int .i64 e) ∧ W.cell? ⟨w.heap.size, 1, none⟩ = some (.int .i64 t) ∧ W.cell? ⟨w.heap.size, 2, none⟩ = some (.slice tp tr.length tc) ∧ W.cell? ⟨w.heap.size, 3, none⟩ = some (.int .i64 c) ∧ W.cell? ⟨w.heap.size, 4, none⟩ = some (.slice lp li.length lc) ∧ W.cell? ⟨w.heap.size, 5, none⟩ = some (.slice kp lk.length kc)) 7 rfl ?_
  refine wpAnyH_take (i := 0) (oi := { dst := some 13, op := Go.Op.fieldAddr 25 (Go.Operand.tmp 3) 0, type := 0, pos := "ref.go:38", after := #[], guard := none }) (v := ?v0z1) rfl (by kernel_rfl) (by kernel_rfl) (by kernel_rfl) (fun _ _ _ h => h) (Or.inl ⟨by rfl, ?y0z1⟩) hHeld ?r0z1
  case y0z1 => (intro w hSw; (try dsimp only at hSw); go_simp) <;> with_reducible rfl
  try simp only [Act.put, List.setIfInBounds_toArray, List.set_cons_zero, List.set_cons_succ]
  refine wpAnyH_take (i := 1) (oi := { dst := some 14, op := Go.Op.load 3 (Go.Operand.tmp 13), type := 3, pos := "ref.go:38", after := #[{ on := 0, ground := Go.Ground.data }], guard := none }) (v := ?v1z2) rfl (by kernel_rfl) (by kernel_rfl) (by kernel_rfl) (fun _ _ _ h => h) (Or.inl ⟨by rfl, ?y1z2⟩) hHeld ?r1z2
  case y1z2 => (intro w hSw; (try dsimp only at hSw); go_simp) <;> with_reducible rfl
  try simp only [Act.put, List.setIfInBounds_toArray, List.set_cons_zero, List.set_cons_succ]
  refine wpAnyH_take (i := 3) (oi := { dst := some 16, op := Go.Op.fieldAddr 25 (Go.Operand.tmp 3) 1, type := 0, pos := "ref.go:38", after := #[], guard := none }) (v := ?v3z3) rfl (by kernel_rfl) (by kernel_rfl) (by kernel_rfl) (fun _ _ _ h => h) (Or.inl ⟨by rfl, ?y3z3⟩) hHeld ?r3z3
  case y3z3 => (intro w hSw; (try dsimp only at hSw); go_simp) <;> with_reducible rfl
  try simp only [Act.put, List.setIfInBounds_toArray, List.set_cons_zero, List.set_cons_succ]
  refine wpAnyH_take (i := 4) (oi := { dst := some 17, op := Go.Op.load 3 (Go.Operand.tmp 16), type := 3, pos := "ref.go:38", after := #[{ on := 3, ground := Go.Ground.data }], guard := none }) (v := ?v4z4) rfl (by kernel_rfl) (by kernel_rfl) (by kernel_rfl) (fun _ _ _ h => h) (Or.inl ⟨by rfl, ?y4z4⟩) hHeld ?r4z4
  case y4z4 => (intro w hSw; (try dsimp only at hSw); go_simp) <;> with_reducible rfl
  try simp only [Act.put, List.setIfInBounds_toArray, List.set_cons_zero, List.set_cons_succ]
  refine wpAnyH_ready (rs := [2]) (by kernel_rfl) (by simp) ?_
  refine AllReadyH.cons (o := { dst := some 15, op := Go.Op.call { callee := Go.Callee.value (Go.Operand.func 34), args := #[Go.Operand.const (Go.Value.slice none 0 0), Go.Operand.tmp 14], argTypes := #[22, 3] }, type := 22, pos := "ref.go:38", after := #[{ on := 1, ground := Go.Ground.data }], guard := none }) rfl (fun K hK => ?_) AllReadyH.nil
  go_simp
  refine (ruint_hb (.slice none 0 0) [] e _ (HB.nil _) (by simp)).mono ?_
  rintro x w2 ⟨p2', cc2, rfl, hh2, hb2'⟩
  have hb2 := bD.trans (hb2'.mono bD.size)
  replace hHeld := hcells w2 hb2
  have hl2 : ([] ++ numL (clampN e)).length ≤ 9 := by simpa using n1
  generalize hF2 : [] ++ numL (clampN e) = F2 at hh2 hl2 HE ⊢
  clear hF2 n1
  refine hK.out _ _ ?_ (fun _ => ?_)
  · exact hHeld
  clear hK K
  try simp only [Act.put, List.setIfInBounds_toArray, List.set_cons_zero, List.set_cons_succ]
  refine wpAnyH_ready (rs := [5]) (by kernel_rfl) (by simp) ?_
  refine AllReadyH.cons (o := { dst := some 18, op := Go.Op.call { callee := Go.Callee.value (Go.Operand.func 34), args := #[Go.Operand.tmp 15, Go.Operand.tmp 17], argTypes := #[22, 3] }, type := 22, pos := "ref.go:38", after := #[{ on := 2, ground := Go.Ground.data }, { on := 4, ground := Go.Ground.data }, { on := 2, ground := Go.Ground.chain }], guard := none }) rfl (fun K hK => ?_) AllReadyH.nil
  go_simp
  refine (ruint_hb _ F2 t _ hh2 (by omega)).mono ?_
  rintro x w3 ⟨p3', cc3, rfl, hh3, hb3'⟩
  have hb3 := hb2.trans (hb3'.mono hb2.size)
  replace hHeld := hcells w3 hb3
  have hl3 : (F2 ++ numL (clampN t)).length ≤ 18 := by rw [List.length_append]; omega
  generalize hF3 : F2 ++ numL (clampN t) = F3 at hh3 hl3 HE ⊢
  clear hF3 n2
  refine hK.out _ _ ?_ (fun _ => ?_)
  · exact hHeld
  clear hK K
  try simp only [Act.put, List.setIfInBounds_toArray, List.set_cons_zero, List.set_cons_succ]
  refine wpAnyH_take (i := 6) (oi := { dst := some 6, op := Go.Op.assign (Go.Operand.tmp 18), type := 22, pos := "ref.go:38", after := #[{ on := 5, ground := Go.Ground.data }, { on := 5, ground := Go.Ground.chain }, { on := 0, ground := Go.Ground.phase }, { on := 1, ground := Go.Ground.phase }, { on := 2, ground := Go.Ground.phase }, { on := 3, ground := Go.Ground.phase }, { on := 4, ground := Go.Ground.phase }, { on := 5, ground := Go.Ground.phase }], guard := none }) (v := ?v6z5) rfl (by kernel_rfl) (by kernel_rfl) (by kernel_rfl) (fun _ _ _ h => h) (Or.inl ⟨by rfl, ?y6z5⟩) hHeld ?r6z5
  case y6z5 => (intro w hSw; (try dsimp only at hSw); go_simp) <;> with_reducible rfl
  try simp only [Act.put, List.setIfInBounds_toArray, List.set_cons_zero, List.set_cons_succ]
  refine wpAnyH_done (by kernel_rfl) ?_ _
  go_wp2
  have bE : Below V.heap.size V w3.drew := hb3.drew
  have bE' : Below w3.heap.size w3 w3.drew := (Below.refl _ w3).drew
  replace hHeld := hcells w3.drew bE
  refine wp_region_heldN (by kernel_rfl) (fun W => W.cell? ⟨w.heap.size, 0, none⟩ = some (.int .i64 e) ∧ W.cell? ⟨w.heap.size, 1, none⟩ = some (.int .i64 t) ∧ W.cell? ⟨w.heap.size, 2, none⟩ = some (.slice tp tr.length tc) ∧ W.cell? ⟨w.heap.size, 3, none⟩ = some (.int .i64 c) ∧ W.cell? ⟨w.heap.size, 4, none⟩ = some (.slice lp li.length lc) ∧ W.cell? ⟨w.heap.size, 5, none⟩ = some (.slice kp lk.length kc)) 8 rfl ?_
  refine wpAnyH_take (i := 0) (oi := { dst := some 19, op := Go.Op.move (Go.Operand.tmp 6), type := 22, pos := "ref.go:39", after := #[], guard := none }) (v := ?v0z6) rfl (by kernel_rfl) (by kernel_rfl) (by kernel_rfl) (fun _ _ _ h => h) (Or.inl ⟨by rfl, ?y0z6⟩) hHeld ?r0z6
  case y0z6 => (intro w hSw; (try dsimp only at hSw); go_simp) <;> with_reducible rfl
  try simp only [Act.put, List.setIfInBounds_toArray, List.set_cons_zero, List.set_cons_succ]
  refine wpAnyH_take (i := 1) (oi := { dst := some 20, op := Go.Op.fieldAddr 25 (Go.Operand.tmp 3) 2, type := 0, pos := "ref.go:39", after := #[], guard := none }) (v := ?v1z7) rfl (by kernel_rfl) (by kernel_rfl) (by kernel_rfl) (fun _ _ _ h => h) (Or.inl ⟨by rfl, ?y1z7⟩) hHeld ?r1z7
  case y1z7 => (intro w hSw; (try dsimp only at hSw); go_simp) <;> with_reducible rfl
  try simp only [Act.put, List.setIfInBounds_toArray, List.set_cons_zero, List.set_cons_succ]
  refine wpAnyH_take (i := 2) (oi := { dst := some 21, op := Go.Op.load 22 (Go.Operand.tmp 20), type := 22, pos := "ref.go:39", after := #[{ on := 1, ground := Go.Ground.data }], guard := none }) (v := ?v2z8) rfl (by kernel_rfl) (by kernel_rfl) (by kernel_rfl) (fun _ _ _ h => h) (Or.inl ⟨by rfl, ?y2z8⟩) hHeld ?r2z8
  case y2z8 => (intro w hSw; (try dsimp only at hSw); go_simp) <;> with_reducible rfl
  try simp only [Act.put, List.setIfInBounds_toArray, List.set_cons_zero, List.set_cons_succ]
  refine wpAnyH_take (i := 4) (oi := { dst := some 23, op := Go.Op.fieldAddr 25 (Go.Operand.tmp 3) 3, type := 0, pos := "ref.go:39", after := #[], guard := none }) (v := ?v4z9) rfl (by kernel_rfl) (by kernel_rfl) (by kernel_rfl) (fun _ _ _ h => h) (Or.inl ⟨by rfl, ?y4z9⟩) hHeld ?r4z9
  case y4z9 => (intro w hSw; (try dsimp only at hSw); go_simp) <;> with_reducible rfl
  try simp only [Act.put, List.setIfInBounds_toArray, List.set_cons_zero, List.set_cons_succ]
  refine wpAnyH_take (i := 5) (oi := { dst := some 24, op := Go.Op.load 3 (Go.Operand.tmp 23), type := 3, pos := "ref.go:39", after := #[{ on := 4, ground := Go.Ground.data }], guard := none }) (v := ?v5z10) rfl (by kernel_rfl) (by kernel_rfl) (by kernel_rfl) (fun _ _ _ h => h) (Or.inl ⟨by rfl, ?y5z10⟩) hHeld ?r5z10
  case y5z10 => (intro w hSw; (try dsimp only at hSw); go_simp) <;> with_reducible rfl
  try simp only [Act.put, List.setIfInBounds_toArray, List.set_cons_zero, List.set_cons_succ]
  refine wpAnyH_ready (rs := [3]) (by kernel_rfl) (by simp) ?_
  refine AllReadyH.cons (o := { dst := some 22, op := Go.Op.call { callee := Go.Callee.value (Go.Operand.func 17), args := #[Go.Operand.tmp 19, Go.Operand.tmp 21], argTypes := #[22, 22] }, type := 22, pos := "ref.go:39", after := #[{ on := 0, ground := Go.Ground.data }, { on := 2, ground := Go.Ground.data }], guard := none }) rfl (fun K hK => ?_) AllReadyH.nil
  go_simp
  refine (rbytes_hb _ _ F3 tr _ (hh3.later bE') (k1.later bE) (by omega)).mono ?_
  rintro x w4 ⟨p4', cc4, rfl, hh4, hb4'⟩
  have hb4 := bE.trans (hb4'.mono bE.size)
  replace hHeld := hcells w4 hb4
  have hl4 : (F3 ++ bytesL tr).length ≤ 100 := by rw [List.length_append]; omega
  generalize hF4 : F3 ++ bytesL tr = F4 at hh4 hl4 HE ⊢
  clear hF4 p1
  refine hK.out _ _ ?_ (fun _ => ?_)
  · exact hHeld
  clear hK K
  try simp only [Act.put, List.setIfInBounds_toArray, List.set_cons_zero, List.set_cons_succ]
  refine wpAnyH_ready (rs := [6]) (by kernel_rfl) (by simp) ?_
  refine AllReadyH.cons (o := { dst := some 25, op := Go.Op.call { callee := Go.Callee.value (Go.Operand.func 34), args := #[Go.Operand.tmp 22, Go.Operand.tmp 24], argTypes := #[22, 3] }, type := 22, pos := "ref.go:39", after := #[{ on := 3, ground := Go.Ground.data }, { on := 5, ground := Go.Ground.data }, { on := 3, ground := Go.Ground.chain }], guard := none }) rfl (fun K hK => ?_) AllReadyH.nil
  go_simp
  refine (ruint_hb _ F4 c _ hh4 (by omega)).mono ?_
  rintro x w5 ⟨p5', cc5, rfl, hh5, hb5'⟩
  have hb5 := hb4.trans (hb5'.mono hb4.size)
  replace hHeld := hcells w5 hb5
  have hl5 : (F4 ++ numL (clampN c)).length ≤ 120 := by rw [List.length_append]; omega
  generalize hF5 : F4 ++ numL (clampN c) = F5 at hh5 hl5 HE ⊢
  clear hF5 n3
  refine hK.out _ _ ?_ (fun _ => ?_)
  · exact hHeld
  clear hK K
  try simp only [Act.put, List.setIfInBounds_toArray, List.set_cons_zero, List.set_cons_succ]
  refine wpAnyH_take (i := 7) (oi := { dst := some 6, op := Go.Op.assign (Go.Operand.tmp 25), type := 22, pos := "ref.go:39", after := #[{ on := 6, ground := Go.Ground.data }, { on := 6, ground := Go.Ground.chain }, { on := 0, ground := Go.Ground.phase }, { on := 1, ground := Go.Ground.phase }, { on := 2, ground := Go.Ground.phase }, { on := 3, ground := Go.Ground.phase }, { on := 4, ground := Go.Ground.phase }, { on := 5, ground := Go.Ground.phase }, { on := 6, ground := Go.Ground.phase }], guard := none }) (v := ?v7z11) rfl (by kernel_rfl) (by kernel_rfl) (by kernel_rfl) (fun _ _ _ h => h) (Or.inl ⟨by rfl, ?y7z11⟩) hHeld ?r7z11
  case y7z11 => (intro w hSw; (try dsimp only at hSw); go_simp) <;> with_reducible rfl
  try simp only [Act.put, List.setIfInBounds_toArray, List.set_cons_zero, List.set_cons_succ]
  refine wpAnyH_done (by kernel_rfl) ?_ _
  obtain ⟨c0, c1, c2, c3, c4, c5⟩ := hHeld
  have hP := rbytes_hb _ _ F5 li w5 hh5 (k2.later hb5) (by omega)
  go_wp2_with fail
  refine hP.mono ?_
  rintro x w6 ⟨p6', cc6, rfl, hh6, hb6'⟩
  have hb6 := hb5.trans (hb6'.mono hb5.size)
  clear hP c0 c1 c2 c3 c4 c5 hb5 hb6' hh5
  obtain ⟨c0, c1, c2, c3, c4, c5⟩ := hcells w6 hb6
  have hl6 : (F5 ++ bytesL li).length ≤ 200 := by rw [List.length_append]; omega
  generalize hF6 : F5 ++ bytesL li = F6 at hh6 hl6 HE ⊢
  clear hF6 p2 hcells
  have k6 := k3.later hb6
  have bA6 := bA.trans (hb6.mono bA.size)
  clear hb6 bA k1 k2 k3
  go_wp2
  go_loopw [6, 33] (fun v i wr => ∃ k : Nat, k ≤ lk.length ∧ i = .int .i64 k ∧ HB wr v (F6 ++ putL (lk.take k)) ∧ Below w6.heap.size w6 wr) (fun _ i _ => lk.length - (intOf i).toNat)
  case atStart => exact ⟨0, Nat.zero_le _, rfl, by simpa [putL] using hh6, Below.refl _ _⟩
  case round =>
    obtain ⟨k, hk, rfl, hH, hbe⟩ := hrel
    by_cases hlt : k < lk.length
    · obtain ⟨b, o, rfl⟩ := k6.addr (by omega)
      obtain ⟨q, qc, x, hx, e1, h1⟩ := (k6.later hbe).get k hlt
      have hlt2 : (k : Int) < (lk.length : Int) := by omega
      have hx32 := hlz x (List.mem_of_getElem? hx.out)
      have hpl := putL_len (lk.take k) (fun y hy => hlz y (List.mem_of_mem_take hy))
      have htl : (lk.take k).length ≤ 63 := by simp; omega
      have hC := rbytes_hb _ _ _ _ wr hH h1 (by rw [List.length_append]; omega)
      have HM : Hid (F6 ++ putL (lk.take k) ++ bytesL x = F6 ++ putL (lk.take (k + 1))) := by
        show _ = _
        rw [List.take_add_one, hx.out]
        show _ = F6 ++ putL (lk.take k ++ [x])
        rw [putL_snoc, List.append_assoc]
      have hC' := hC.mono (R' := fun y w' => ∃ v2, y = .returned v2 ∧ HB w' v2 (F6 ++ putL (lk.take (k + 1))) ∧ Below wr.heap.size wr w') fun y w' ⟨p7, c7, e7, hv7, hb7⟩ => ⟨_, e7, by rw [← HM.out]; exact hv7, hb7⟩
      clear hx h1 hH hpl htl hx32 HE hC HM
      go_wp2_with fail
      refine hC'.mono ?_
      rintro y w7 ⟨v7, rfl, hv7, hb7⟩
      have hb8 := hbe.trans (hb7.mono hbe.size)
      clear hC' hb7
      go_wp2
      go_roundw
      case rel => first | exact ⟨k + 1, by omega, by go_num, hv7, hb8⟩ | ((repeat apply Exists.intro); exact ⟨⟨k + 1, by omega, by go_num, hv7, hb8⟩, rfl⟩)
      case measure => simp [intOf]; omega
    · rw [List.take_of_length_le (by omega), HE.out _ rfl] at hH
      have hb := bA6.trans (hbe.mono bA6.size)
      clear HE
      go_wp2
      go_ret2
      exact ⟨_, rfl, hH, hb⟩

end Go.Proofs.YtkgoiemnhhdlbaaDoor
