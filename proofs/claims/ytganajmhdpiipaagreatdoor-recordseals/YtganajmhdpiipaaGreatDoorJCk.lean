/- What this text proves: the walks of record.Hash and of the document's Hash (annalsref13) over this program. What this text proves: the walks of record.Check and of the document's over this program; both answer alike. (By program: held.py, mkchecks.py.) -/
import Derived.Test.YtganajmhdpiipaaGreatDoorJEn
import Derived.Test.YtganajmhdpiipaaGreatDoorJB1
import Derived.Test.YtganajmhdpiipaaGreatDoorJB2
import Derived.Test.YtganajmhdpiipaaGreatDoorRcRLinks
import Derived.Test.YtganajmhdpiipaaGreatDoorJV4
namespace Go.Proofs.YtganajmhdpiipaaGreatDoor
open Go.RowKit

/-- A record's hash. -/
def hshF (size : Int) (r : Rc) : List UInt8 := if canB size r = true then hashF size 5 [encL r] else []

set_option maxRecDepth 100000 in
set_option maxHeartbeats 4000000 in
theorem hash13_any (size e t c : Int) (tv lv kv : Value) (tr li : List UInt8) (lk : List (List UInt8)) (w : World) (h1 : HB w tv tr) (h2 : HB w lv li) (h3 : PA w kv lk) (hTD : TD w) (hT : Tabs w) :
    Calls Tryz.prog 32 #[.int .i64 size, .agg #[.int .i64 e, .int .i64 t, tv, .int .i64 c, lv, kv]] w fun x w' => ∃ v, x = .returned v ∧ HB w' v (hshF size ⟨e, t, c, tr, li, lk⟩) ∧ Below w.heap.size w w' := by
  have bA := (Below.refl w.heap.size w).alloc (Nat.le_refl _) (.cells #[.int .i64 e, .int .i64 t, tv, .int .i64 c, lv, kv] 25)
  have k1 := h1.later bA
  have k2 := h2.later bA
  have k3 := h3.later bA
  have tA := hTD.later bA
  have sA := hT.later bA
  unfold hshF
  by_cases hcan : canB size ⟨e, t, c, tr, li, lk⟩ = true
  · rw [if_pos hcan]
    have hE := encode_yes size e t c _ _ _ tr li lk _ k1 k2 k3 tA hcan
    obtain ⟨tp, tc, rfl⟩ := h1.shape
    obtain ⟨lp, lc, rfl⟩ := h2.shape
    obtain ⟨kp, kc, rfl⟩ := h3.shape
    have HH : Hid (∀ v w, PA w v [encL ⟨e, t, c, tr, li, lk⟩] → Tabs w → Calls Tryz.prog 61 #[.int .i64 size, .int .i64 5, v] w fun x w' => ∃ v', x = .returned v' ∧ HB w' v' (hashF size 5 [encL ⟨e, t, c, tr, li, lk⟩]) ∧ Below w.heap.size w w') := fun v w h ht => (hash_to size 5 v _ w (by simp) (by omega) h ht).mono fun x w' ⟨p, c, h1, h2, h3⟩ => ⟨_, h1, h2, h3⟩
    generalize hashF size 5 [encL ⟨e, t, c, tr, li, lk⟩] = D at *
    generalize encL ⟨e, t, c, tr, li, lk⟩ = EN at *
    clear k1 k2 k3 tA hcan h1 h2 h3 hTD hT
    go_enter Tryz.func32, Tryz.ntmps32
    go_wp2_with fail
    refine hE.mono ?_
    rintro x w1 ⟨v1, rfl, hh1, hb1⟩
    obtain ⟨p1, c1, rfl⟩ := hh1.shape
    have bB := bA.trans (hb1.mono bA.size)
    have sB := sA.later hb1
    have bC := (Below.refl w1.heap.size w1).alloc (Nat.le_refl _) (.cells #[.slice p1 EN.length c1] 22)
    have hH := HH.out _ _ (PA.one' w1 _ EN hh1) (sB.later bC)
    have bD := bB.trans (bC.mono bB.size)
    clear hE hb1 bA sA hh1 HH bC bB sB
    go_wp2_with fail
    refine hH.mono ?_
    rintro x w2 ⟨v2, rfl, hh2, hb2⟩
    have bE := bD.trans (hb2.mono bD.size)
    clear hH
    go_wp2
    go_ret
    exact ⟨_, rfl, hh2, bE⟩
  · rw [if_neg hcan]
    have hcan' : canB size ⟨e, t, c, tr, li, lk⟩ = false := by simpa using hcan
    have hE := encode_no size e t c _ _ _ tr li lk _ k1 k2 k3 tA hcan'
    obtain ⟨tp, tc, rfl⟩ := h1.shape
    obtain ⟨lp, lc, rfl⟩ := h2.shape
    obtain ⟨kp, kc, rfl⟩ := h3.shape
    clear k1 k2 k3 tA hcan h1 h2 h3 hTD hT sA hcan'
    go_enter Tryz.func32, Tryz.ntmps32
    go_wp2_with fail
    refine hE.mono ?_
    rintro x w1 ⟨rfl, hb1⟩
    have bB := bA.trans (hb1.mono bA.size)
    clear hE
    go_wp2
    go_ret
    exact ⟨_, rfl, HB.nil _, bB⟩

set_option maxRecDepth 100000 in
set_option maxHeartbeats 4000000 in
theorem rhash13_any (size e t c : Int) (tv lv kv : Value) (tr li : List UInt8) (lk : List (List UInt8)) (w : World) (h1 : HB w tv tr) (h2 : HB w lv li) (h3 : PA w kv lk) :
    Calls Tryz.prog 35 #[.int .i64 size, .agg #[.int .i64 e, .int .i64 t, tv, .int .i64 c, lv, kv]] w fun x w' => ∃ v, x = .returned v ∧ HB w' v (hshF size ⟨e, t, c, tr, li, lk⟩) ∧ Below w.heap.size w w' := by
  have bA := (Below.refl w.heap.size w).alloc (Nat.le_refl _) (.cells #[.int .i64 e, .int .i64 t, tv, .int .i64 c, lv, kv] 25)
  have k1 := h1.later bA
  have k2 := h2.later bA
  have k3 := h3.later bA
  unfold hshF
  by_cases hcan : canB size ⟨e, t, c, tr, li, lk⟩ = true
  · rw [if_pos hcan]
    have hE := rencode_yes size e t c _ _ _ tr li lk _ k1 k2 k3 hcan
    obtain ⟨tp, tc, rfl⟩ := h1.shape
    obtain ⟨lp, lc, rfl⟩ := h2.shape
    obtain ⟨kp, kc, rfl⟩ := h3.shape
    have HH : Hid (∀ v w, PA w v [encL ⟨e, t, c, tr, li, lk⟩] → Calls Tryz.prog 64 #[.int .i64 size, .int .i64 5, v] w fun x w' => ∃ v', x = .returned v' ∧ HB w' v' (hashF size 5 [encL ⟨e, t, c, tr, li, lk⟩]) ∧ Below w.heap.size w w') := fun v w h => (rhash_to size 5 v _ w (by simp) (by omega) h).mono fun x w' ⟨p, c, h1, h2, h3⟩ => ⟨_, h1, h2, h3⟩
    generalize hashF size 5 [encL ⟨e, t, c, tr, li, lk⟩] = D at *
    generalize encL ⟨e, t, c, tr, li, lk⟩ = EN at *
    clear k1 k2 k3 hcan h1 h2 h3
    go_enter Tryz.func35, Tryz.ntmps35
    go_wp2_with fail
    refine hE.mono ?_
    rintro x w1 ⟨v1, rfl, hh1, hb1⟩
    obtain ⟨p1, c1, rfl⟩ := hh1.shape
    have bB := bA.trans (hb1.mono bA.size)
    have bC := (Below.refl w1.heap.size w1).alloc (Nat.le_refl _) (.cells #[.slice p1 EN.length c1] 22)
    have hH := HH.out _ _ (PA.one' w1 _ EN hh1)
    have bD := bB.trans (bC.mono bB.size)
    clear hE hb1 bA hh1 HH bC bB
    go_wp2_with fail
    refine hH.mono ?_
    rintro x w2 ⟨v2, rfl, hh2, hb2⟩
    have bE := bD.trans (hb2.mono bD.size)
    clear hH
    go_wp2
    go_ret
    exact ⟨_, rfl, hh2, bE⟩
  · rw [if_neg hcan]
    have hcan' : canB size ⟨e, t, c, tr, li, lk⟩ = false := by simpa using hcan
    have hE := rencode_no size e t c _ _ _ tr li lk _ k1 k2 k3 hcan'
    obtain ⟨tp, tc, rfl⟩ := h1.shape
    obtain ⟨lp, lc, rfl⟩ := h2.shape
    obtain ⟨kp, kc, rfl⟩ := h3.shape
    clear k1 k2 k3 hcan h1 h2 h3 hcan'
    go_enter Tryz.func35, Tryz.ntmps35
    go_wp2_with fail
    refine hE.mono ?_
    rintro x w1 ⟨rfl, hb1⟩
    have bB := bA.trans (hb1.mono bA.size)
    clear hE
    go_wp2
    go_ret
    exact ⟨_, rfl, HB.nil _, bB⟩

end Go.Proofs.YtganajmhdpiipaaGreatDoor

namespace Go.Proofs.YtganajmhdpiipaaGreatDoor
open Go.RowKit

set_option maxRecDepth 100000 in
set_option maxHeartbeats 8000000 in
theorem check_any13 (size height e t c idx : Int) (pb tv lv kv cv pv : Value) (PB tr li : List UInt8) (lk ls ps : List (List UInt8)) (b : Bool) (w : World) (h0 : HB w pb PB) (h1 : HB w tv tr) (h2 : HB w lv li) (h3 : PA w kv lk) (h4 : PA w cv ls) (h5 : PA w pv ps) (hTD : TD w) (hT : Tabs w)
    (hVer : ∀ pv dv ca pa w, HB w pv PB → HB w dv (hshF size ⟨e, t, c, tr, li, lk⟩) → PA w ca ls → PA w pa ps → Tabs w → Calls Tryz.prog 31 #[.int .i64 size, pv, .int .i64 height, dv, .agg #[.int .i64 idx, ca, pa]] w fun e w' => e = .returned (.bool b) ∧ Below w.heap.size w w') :
    Calls Tryz.prog 11 #[.int .i64 size, .int .i64 height, pb, .agg #[.int .i64 e, .int .i64 t, tv, .int .i64 c, lv, kv, .int .i64 idx, cv, pv]] w fun x w' => x = .returned (.bool (canB size ⟨e, t, c, tr, li, lk⟩ && (decide (idx = e) && b))) ∧ Below w.heap.size w w' := by
  obtain ⟨bp, bc', rfl⟩ := h0.shape
  obtain ⟨tp, tc, rfl⟩ := h1.shape
  obtain ⟨lp, lc, rfl⟩ := h2.shape
  obtain ⟨kp, kc, rfl⟩ := h3.shape
  obtain ⟨cp, cc, rfl⟩ := h4.shape
  obtain ⟨pp, pc, rfl⟩ := h5.shape
  have bA := (Below.refl w.heap.size w).alloc (Nat.le_refl _) (.cells #[.int .i64 e, .int .i64 t, .slice tp tr.length tc, .int .i64 c, .slice lp li.length lc, .slice kp lk.length kc, .int .i64 idx, .slice cp ls.length cc, .slice pp ps.length pc] 29)
  have gA := heap_alloc_new w (.cells #[.int .i64 e, .int .i64 t, .slice tp tr.length tc, .int .i64 c, .slice lp li.length lc, .slice kp lk.length kc, .int .i64 idx, .slice cp ls.length cc, .slice pp ps.length pc] 29)
  obtain ⟨V, hV⟩ : ∃ V, w.alloc (.cells #[.int .i64 e, .int .i64 t, .slice tp tr.length tc, .int .i64 c, .slice lp li.length lc, .slice kp lk.length kc, .int .i64 idx, .slice cp ls.length cc, .slice pp ps.length pc] 29) = V := ⟨_, rfl⟩
  rw [hV] at bA gA
  have kP := h0.later bA
  have k1 := h1.later bA
  have k2 := h2.later bA
  have k3 := h3.later bA
  have k4 := h4.later bA
  have k5 := h5.later bA
  have tV := hTD.later bA
  have sV := hT.later bA
  have bD : Below V.heap.size V V.drew := (Below.refl _ V).drew
  have hcells : ∀ W, Below V.heap.size V W → W.cell? ⟨w.heap.size, 0, none⟩ = some (.int .i64 e) ∧ W.cell? ⟨w.heap.size, 1, none⟩ = some (.int .i64 t) ∧ W.cell? ⟨w.heap.size, 2, none⟩ = some (.slice tp tr.length tc) ∧ W.cell? ⟨w.heap.size, 3, none⟩ = some (.int .i64 c) ∧ W.cell? ⟨w.heap.size, 4, none⟩ = some (.slice lp li.length lc) ∧ W.cell? ⟨w.heap.size, 5, none⟩ = some (.slice kp lk.length kc) ∧ W.cell? ⟨w.heap.size, 6, none⟩ = some (.int .i64 idx) ∧ W.cell? ⟨w.heap.size, 7, none⟩ = some (.slice cp ls.length cc) ∧ W.cell? ⟨w.heap.size, 8, none⟩ = some (.slice pp ps.length pc) := by
    intro W hB
    have g := (hB.block _ (Array.getElem?_eq_some_iff.1 gA).1).trans gA
    refine ⟨?_, ?_, ?_, ?_, ?_, ?_, ?_, ?_, ?_⟩ <;> (rw [cell_of_row _ _ _ _ _ _ g]; rfl)
  have hHeld := hcells _ bD
  clear h0 h1 h2 h3 h4 h5 gA hTD hT
  go_enter Tryz.func11, Tryz.ntmps11
  go_wp2
  clear hV
  refine wp_region_heldN (by kernel_rfl) (fun W => W.cell? ⟨w.heap.size, 0, none⟩ = some (.int .i64 e) ∧ W.cell? ⟨w.heap.size, 1, none⟩ = some (.int .i64 t) ∧ W.cell? ⟨w.heap.size, 2, none⟩ = some (.slice tp tr.length tc) ∧ W.cell? ⟨w.heap.size, 3, none⟩ = some (.int .i64 c) ∧ W.cell? ⟨w.heap.size, 4, none⟩ = some (.slice lp li.length lc) ∧ W.cell? ⟨w.heap.size, 5, none⟩ = some (.slice kp lk.length kc) ∧ W.cell? ⟨w.heap.size, 6, none⟩ = some (.int .i64 idx) ∧ W.cell? ⟨w.heap.size, 7, none⟩ = some (.slice cp ls.length cc) ∧ W.cell? ⟨w.heap.size, 8, none⟩ = some (.slice pp ps.length pc)) 26 rfl ?_
  refine tkY 0 ⟨some 9, .move (.tmp 0), 3, "record.go:132", #[], none⟩ ?v0z1 hHeld ?y0z1 ?r0z1
  case y0z1 => (intro w hSw; (try dsimp only at hSw); go_simp) <;> with_reducible rfl
  try simp only [Act.put, List.setIfInBounds_toArray, List.set_cons_zero, List.set_cons_succ]
  refine tkY 1 ⟨some 10, .fieldAddr 29 (.tmp 7) 0, 0, "record.go:132", #[], none⟩ ?v1z2 hHeld ?y1z2 ?r1z2
  case y1z2 => (intro w hSw; (try dsimp only at hSw); go_simp) <;> with_reducible rfl
  try simp only [Act.put, List.setIfInBounds_toArray, List.set_cons_zero, List.set_cons_succ]
  refine tkY 2 ⟨some 11, .load 25 (.tmp 10), 25, "record.go:132", #[⟨1, .data⟩], none⟩ ?v2z3 hHeld ?y2z3 ?r2z3
  case y2z3 => (intro w hSw; (try dsimp only at hSw); go_simp) <;> with_reducible rfl
  try simp only [Act.put, List.setIfInBounds_toArray, List.set_cons_zero, List.set_cons_succ]
  refine wpAnyH_ready (rs := [3]) (by kernel_rfl) (by simp) ?_
  refine AllReadyH.cons (o := ⟨some 12, .call { callee := .value (.func 30), args := #[.tmp 9, .tmp 11], argTypes := #[3, 25] }, 4, "record.go:132", #[⟨0, .data⟩, ⟨2, .data⟩], none⟩) rfl (fun K hK => ?_) AllReadyH.nil
  go_simp
  refine (can_any size e t c _ _ _ tr li lk _ (k1.later bD) (k2.later bD) (k3.later bD) (tV.later bD)).mono ?_
  rintro x w2 ⟨rfl, b2'⟩
  have b2 := bD.trans (b2'.mono bD.size)
  replace hHeld := hcells w2 b2
  clear b2'
  obtain ⟨CB, hCB⟩ : ∃ CB, CB = canB size ⟨e, t, c, tr, li, lk⟩ := ⟨_, rfl⟩
  rw [← hCB]
  have HCB : Hid (CB = canB size ⟨e, t, c, tr, li, lk⟩) := hCB
  clear hCB
  cases CB with
  | true =>
    refine hK.out _ _ ?_ (fun _ => ?_)
    · exact hHeld
    clear hK K
    try simp only [Act.put, List.setIfInBounds_toArray, List.set_cons_zero, List.set_cons_succ]
    refine tkY 4 ⟨some 13, .move (.tmp 12), 4, "record.go:132", #[⟨3, .data⟩, ⟨3, .chain⟩], none⟩ ?v4z4 hHeld ?y4z4 ?r4z4
    case y4z4 => (intro w hSw; (try dsimp only at hSw); go_simp) <;> with_reducible rfl
    try simp only [Act.put, List.setIfInBounds_toArray, List.set_cons_zero, List.set_cons_succ]
    refine tkY 5 ⟨some 14, .fieldAddr 29 (.tmp 7) 1, 0, "record.go:132", #[⟨4, .guard⟩], some (4, true)⟩ ?v5z5 hHeld ?y5z5 ?r5z5
    case y5z5 => (intro w hSw; (try dsimp only at hSw); go_simp) <;> with_reducible rfl
    try simp only [Act.put, List.setIfInBounds_toArray, List.set_cons_zero, List.set_cons_succ]
    refine tkY 6 ⟨some 15, .fieldAddr 27 (.tmp 14) 0, 0, "record.go:132", #[⟨5, .data⟩, ⟨4, .guard⟩], some (4, true)⟩ ?v6z6 hHeld ?y6z6 ?r6z6
    case y6z6 => (intro w hSw; (try dsimp only at hSw); go_simp) <;> with_reducible rfl
    try simp only [Act.put, List.setIfInBounds_toArray, List.set_cons_zero, List.set_cons_succ]
    refine tkY 7 ⟨some 16, .load 3 (.tmp 15), 3, "record.go:132", #[⟨6, .data⟩, ⟨4, .guard⟩], some (4, true)⟩ ?v7z7 hHeld ?y7z7 ?r7z7
    case y7z7 => (intro w hSw; (try dsimp only at hSw); go_simp) <;> with_reducible rfl
    try simp only [Act.put, List.setIfInBounds_toArray, List.set_cons_zero, List.set_cons_succ]
    refine tkY 8 ⟨some 17, .fieldAddr 29 (.tmp 7) 0, 0, "record.go:132", #[⟨4, .guard⟩], some (4, true)⟩ ?v8z8 hHeld ?y8z8 ?r8z8
    case y8z8 => (intro w hSw; (try dsimp only at hSw); go_simp) <;> with_reducible rfl
    try simp only [Act.put, List.setIfInBounds_toArray, List.set_cons_zero, List.set_cons_succ]
    refine tkY 9 ⟨some 18, .fieldAddr 25 (.tmp 17) 0, 0, "record.go:132", #[⟨8, .data⟩, ⟨4, .guard⟩], some (4, true)⟩ ?v9z9 hHeld ?y9z9 ?r9z9
    case y9z9 => (intro w hSw; (try dsimp only at hSw); go_simp) <;> with_reducible rfl
    try simp only [Act.put, List.setIfInBounds_toArray, List.set_cons_zero, List.set_cons_succ]
    refine tkY 10 ⟨some 19, .load 3 (.tmp 18), 3, "record.go:132", #[⟨9, .data⟩, ⟨4, .guard⟩], some (4, true)⟩ ?v10z10 hHeld ?y10z10 ?r10z10
    case y10z10 => (intro w hSw; (try dsimp only at hSw); go_simp) <;> with_reducible rfl
    try simp only [Act.put, List.setIfInBounds_toArray, List.set_cons_zero, List.set_cons_succ]
    by_cases hc11 : idx = e
    · have n6 : (idx == e) = true := by simpa using hc11
      have f6 : Hid (decide (idx = e) = true) := by simpa [Hid] using hc11
      clear hc11
      refine tkY 11 ⟨some 20, .binOp .eql 3 (.tmp 16) (.tmp 19) 3, 4, "record.go:132", #[⟨7, .data⟩, ⟨10, .data⟩, ⟨4, .guard⟩], some (4, true)⟩ ?v11z11 hHeld ?y11z11 ?r11z11
      case y11z11 => (intro w hSw; (try dsimp only at hSw); go_simp) <;> with_reducible rfl
      try simp only [Act.put, List.setIfInBounds_toArray, List.set_cons_zero, List.set_cons_succ]
      refine tkY 12 ⟨some 21, .pick (.tmp 13) (.tmp 20) (.const (.bool false)), 4, "record.go:132", #[⟨4, .data⟩, ⟨11, .data⟩], none⟩ ?v12z12 hHeld ?y12z12 ?r12z12
      case y12z12 => (intro w hSw; (try dsimp only at hSw); go_simp) <;> with_reducible rfl
      try simp only [Act.put, List.setIfInBounds_toArray, List.set_cons_zero, List.set_cons_succ]
      refine tkY 13 ⟨some 22, .move (.tmp 21), 4, "record.go:132", #[⟨12, .data⟩, ⟨4, .chain⟩], none⟩ ?v13z13 hHeld ?y13z13 ?r13z13
      case y13z13 => (intro w hSw; (try dsimp only at hSw); go_simp) <;> with_reducible rfl
      try simp only [Act.put, List.setIfInBounds_toArray, List.set_cons_zero, List.set_cons_succ]
      refine tkY 14 ⟨some 23, .move (.tmp 0), 3, "record.go:132", #[⟨13, .guard⟩], some (13, true)⟩ ?v14z14 hHeld ?y14z14 ?r14z14
      case y14z14 => (intro w hSw; (try dsimp only at hSw); go_simp) <;> with_reducible rfl
      try simp only [Act.put, List.setIfInBounds_toArray, List.set_cons_zero, List.set_cons_succ]
      refine tkY 15 ⟨some 24, .move (.tmp 2), 22, "record.go:132", #[⟨13, .guard⟩], some (13, true)⟩ ?v15z15 hHeld ?y15z15 ?r15z15
      case y15z15 => (intro w hSw; (try dsimp only at hSw); go_simp) <;> with_reducible rfl
      try simp only [Act.put, List.setIfInBounds_toArray, List.set_cons_zero, List.set_cons_succ]
      refine tkY 16 ⟨some 25, .move (.tmp 1), 3, "record.go:132", #[⟨13, .guard⟩], some (13, true)⟩ ?v16z16 hHeld ?y16z16 ?r16z16
      case y16z16 => (intro w hSw; (try dsimp only at hSw); go_simp) <;> with_reducible rfl
      try simp only [Act.put, List.setIfInBounds_toArray, List.set_cons_zero, List.set_cons_succ]
      refine tkY 17 ⟨some 26, .move (.tmp 0), 3, "record.go:132", #[⟨13, .guard⟩], some (13, true)⟩ ?v17z17 hHeld ?y17z17 ?r17z17
      case y17z17 => (intro w hSw; (try dsimp only at hSw); go_simp) <;> with_reducible rfl
      try simp only [Act.put, List.setIfInBounds_toArray, List.set_cons_zero, List.set_cons_succ]
      refine tkY 18 ⟨some 27, .fieldAddr 29 (.tmp 7) 0, 0, "record.go:132", #[⟨13, .guard⟩], some (13, true)⟩ ?v18z18 hHeld ?y18z18 ?r18z18
      case y18z18 => (intro w hSw; (try dsimp only at hSw); go_simp) <;> with_reducible rfl
      try simp only [Act.put, List.setIfInBounds_toArray, List.set_cons_zero, List.set_cons_succ]
      refine tkY 19 ⟨some 28, .load 25 (.tmp 27), 25, "record.go:132", #[⟨18, .data⟩, ⟨13, .guard⟩], some (13, true)⟩ ?v19z19 hHeld ?y19z19 ?r19z19
      case y19z19 => (intro w hSw; (try dsimp only at hSw); go_simp) <;> with_reducible rfl
      try simp only [Act.put, List.setIfInBounds_toArray, List.set_cons_zero, List.set_cons_succ]
      refine tkY 21 ⟨some 30, .fieldAddr 29 (.tmp 7) 1, 0, "record.go:132", #[⟨13, .guard⟩], some (13, true)⟩ ?v21z20 hHeld ?y21z20 ?r21z20
      case y21z20 => (intro w hSw; (try dsimp only at hSw); go_simp) <;> with_reducible rfl
      try simp only [Act.put, List.setIfInBounds_toArray, List.set_cons_zero, List.set_cons_succ]
      refine tkY 22 ⟨some 31, .load 27 (.tmp 30), 27, "record.go:132", #[⟨21, .data⟩, ⟨13, .guard⟩], some (13, true)⟩ ?v22z21 hHeld ?y22z21 ?r22z21
      case y22z21 => (intro w hSw; (try dsimp only at hSw); go_simp) <;> with_reducible rfl
      try simp only [Act.put, List.setIfInBounds_toArray, List.set_cons_zero, List.set_cons_succ]
      refine wpAnyH_ready (rs := [20]) (by kernel_rfl) (by simp) ?_
      refine AllReadyH.cons (o := ⟨some 29, .call { callee := .value (.func 32), args := #[.tmp 26, .tmp 28], argTypes := #[3, 25] }, 22, "record.go:133", #[⟨17, .data⟩, ⟨19, .data⟩, ⟨13, .chain⟩, ⟨13, .guard⟩], some (13, true)⟩) rfl (fun K hK => ?_) AllReadyH.nil
      go_simp
      refine (hash13_any size e t c _ _ _ tr li lk _ (k1.later b2) (k2.later b2) (k3.later b2) (tV.later b2) (sV.later b2)).mono ?_
      rintro x w3 ⟨hv3, rfl, hh3, b3'⟩
      obtain ⟨p3, c3, rfl⟩ := hh3.shape
      have b3 := b2.trans (b3'.mono b2.size)
      replace hHeld := hcells w3 b3
      refine hK.out _ _ ?_ (fun _ => ?_)
      · exact hHeld
      clear hK K
      try simp only [Act.put, List.setIfInBounds_toArray, List.set_cons_zero, List.set_cons_succ]
      refine wpAnyH_ready (rs := [23]) (by kernel_rfl) (by simp) ?_
      refine AllReadyH.cons (o := ⟨some 32, .call { callee := .value (.func 31), args := #[.tmp 23, .tmp 24, .tmp 25, .tmp 29, .tmp 31], argTypes := #[3, 22, 3, 22, 27] }, 4, "record.go:133", #[⟨14, .data⟩, ⟨15, .data⟩, ⟨16, .data⟩, ⟨20, .data⟩, ⟨22, .data⟩, ⟨20, .chain⟩, ⟨13, .guard⟩], some (13, true)⟩) rfl (fun K hK => ?_) AllReadyH.nil
      go_simp
      refine (hVer _ _ _ _ _ (kP.later b3) hh3 (k4.later b3) (k5.later b3) (sV.later b3)).mono ?_
      rintro x w4 ⟨rfl, b4'⟩
      have b4 := b3.trans (b4'.mono b3.size)
      replace hHeld := hcells w4 b4
      refine hK.out _ _ ?_ (fun _ => ?_)
      · exact hHeld
      clear hK K
      try simp only [Act.put, List.setIfInBounds_toArray, List.set_cons_zero, List.set_cons_succ]
      refine tkY 24 ⟨some 33, .pick (.tmp 22) (.tmp 32) (.const (.bool false)), 4, "record.go:132", #[⟨13, .data⟩, ⟨23, .data⟩], none⟩ ?v24z22 hHeld ?y24z22 ?r24z22
      case y24z22 => (intro w hSw; (try dsimp only at hSw); go_simp) <;> with_reducible rfl
      try simp only [Act.put, List.setIfInBounds_toArray, List.set_cons_zero, List.set_cons_succ]
      refine tkY 25 ⟨some 8, .assign (.tmp 33), 4, "record.go:132", #[⟨24, .data⟩, ⟨23, .chain⟩, ⟨0, .phase⟩, ⟨1, .phase⟩, ⟨2, .phase⟩, ⟨3, .phase⟩, ⟨4, .phase⟩, ⟨5, .phase⟩, ⟨6, .phase⟩, ⟨7, .phase⟩, ⟨8, .phase⟩, ⟨9, .phase⟩, ⟨10, .phase⟩, ⟨11, .phase⟩, ⟨12, .phase⟩, ⟨13, .phase⟩, ⟨14, .phase⟩, ⟨15, .phase⟩, ⟨16, .phase⟩, ⟨17, .phase⟩, ⟨18, .phase⟩, ⟨19, .phase⟩, ⟨20, .phase⟩, ⟨21, .phase⟩, ⟨22, .phase⟩, ⟨23, .phase⟩, ⟨24, .phase⟩], none⟩ ?v25z23 hHeld ?y25z23 ?r25z23
      case y25z23 => (intro w hSw; (try dsimp only at hSw); go_simp) <;> with_reducible rfl
      try simp only [Act.put, List.setIfInBounds_toArray, List.set_cons_zero, List.set_cons_succ]
      refine wpAnyH_done (by kernel_rfl) ?_ _
      have HR : Hid ((canB size ⟨e, t, c, tr, li, lk⟩ && (decide (idx = e) && b)) = b) := by
        show _ = _
        rw [← HCB.out, f6.out]
        rfl
      have HW : Hid (Below w.heap.size w _) := bA.trans (b4.mono bA.size)
      clear hHeld hcells
      go_wp2
      go_ret
      rw [HR.out]
      exact ⟨rfl, HW.out⟩
    · have n6 : (idx == e) = false := by simpa using hc11
      have f6 : Hid (decide (idx = e) = false) := by simpa [Hid] using hc11
      clear hc11
      refine tkY 11 ⟨some 20, .binOp .eql 3 (.tmp 16) (.tmp 19) 3, 4, "record.go:132", #[⟨7, .data⟩, ⟨10, .data⟩, ⟨4, .guard⟩], some (4, true)⟩ ?v11z24 hHeld ?y11z24 ?r11z24
      case y11z24 => (intro w hSw; (try dsimp only at hSw); go_simp) <;> with_reducible rfl
      try simp only [Act.put, List.setIfInBounds_toArray, List.set_cons_zero, List.set_cons_succ]
      refine tkY 12 ⟨some 21, .pick (.tmp 13) (.tmp 20) (.const (.bool false)), 4, "record.go:132", #[⟨4, .data⟩, ⟨11, .data⟩], none⟩ ?v12z25 hHeld ?y12z25 ?r12z25
      case y12z25 => (intro w hSw; (try dsimp only at hSw); go_simp) <;> with_reducible rfl
      try simp only [Act.put, List.setIfInBounds_toArray, List.set_cons_zero, List.set_cons_succ]
      refine tkY 13 ⟨some 22, .move (.tmp 21), 4, "record.go:132", #[⟨12, .data⟩, ⟨4, .chain⟩], none⟩ ?v13z26 hHeld ?y13z26 ?r13z26
      case y13z26 => (intro w hSw; (try dsimp only at hSw); go_simp) <;> with_reducible rfl
      try simp only [Act.put, List.setIfInBounds_toArray, List.set_cons_zero, List.set_cons_succ]
      refine tkN 14 ⟨some 23, .move (.tmp 0), 3, "record.go:132", #[⟨13, .guard⟩], some (13, true)⟩ hHeld ?_
      try simp only [Act.put, List.setIfInBounds_toArray, List.set_cons_zero, List.set_cons_succ]
      refine tkN 15 ⟨some 24, .move (.tmp 2), 22, "record.go:132", #[⟨13, .guard⟩], some (13, true)⟩ hHeld ?_
      try simp only [Act.put, List.setIfInBounds_toArray, List.set_cons_zero, List.set_cons_succ]
      refine tkN 16 ⟨some 25, .move (.tmp 1), 3, "record.go:132", #[⟨13, .guard⟩], some (13, true)⟩ hHeld ?_
      try simp only [Act.put, List.setIfInBounds_toArray, List.set_cons_zero, List.set_cons_succ]
      refine tkN 17 ⟨some 26, .move (.tmp 0), 3, "record.go:132", #[⟨13, .guard⟩], some (13, true)⟩ hHeld ?_
      try simp only [Act.put, List.setIfInBounds_toArray, List.set_cons_zero, List.set_cons_succ]
      refine tkN 18 ⟨some 27, .fieldAddr 29 (.tmp 7) 0, 0, "record.go:132", #[⟨13, .guard⟩], some (13, true)⟩ hHeld ?_
      try simp only [Act.put, List.setIfInBounds_toArray, List.set_cons_zero, List.set_cons_succ]
      refine tkN 19 ⟨some 28, .load 25 (.tmp 27), 25, "record.go:132", #[⟨18, .data⟩, ⟨13, .guard⟩], some (13, true)⟩ hHeld ?_
      try simp only [Act.put, List.setIfInBounds_toArray, List.set_cons_zero, List.set_cons_succ]
      refine tkN 20 ⟨some 29, .call { callee := .value (.func 32), args := #[.tmp 26, .tmp 28], argTypes := #[3, 25] }, 22, "record.go:133", #[⟨17, .data⟩, ⟨19, .data⟩, ⟨13, .chain⟩, ⟨13, .guard⟩], some (13, true)⟩ hHeld ?_
      try simp only [Act.put, List.setIfInBounds_toArray, List.set_cons_zero, List.set_cons_succ]
      refine tkN 21 ⟨some 30, .fieldAddr 29 (.tmp 7) 1, 0, "record.go:132", #[⟨13, .guard⟩], some (13, true)⟩ hHeld ?_
      try simp only [Act.put, List.setIfInBounds_toArray, List.set_cons_zero, List.set_cons_succ]
      refine tkN 22 ⟨some 31, .load 27 (.tmp 30), 27, "record.go:132", #[⟨21, .data⟩, ⟨13, .guard⟩], some (13, true)⟩ hHeld ?_
      try simp only [Act.put, List.setIfInBounds_toArray, List.set_cons_zero, List.set_cons_succ]
      refine tkN 23 ⟨some 32, .call { callee := .value (.func 31), args := #[.tmp 23, .tmp 24, .tmp 25, .tmp 29, .tmp 31], argTypes := #[3, 22, 3, 22, 27] }, 4, "record.go:133", #[⟨14, .data⟩, ⟨15, .data⟩, ⟨16, .data⟩, ⟨20, .data⟩, ⟨22, .data⟩, ⟨20, .chain⟩, ⟨13, .guard⟩], some (13, true)⟩ hHeld ?_
      try simp only [Act.put, List.setIfInBounds_toArray, List.set_cons_zero, List.set_cons_succ]
      refine tkY 24 ⟨some 33, .pick (.tmp 22) (.tmp 32) (.const (.bool false)), 4, "record.go:132", #[⟨13, .data⟩, ⟨23, .data⟩], none⟩ ?v24z27 hHeld ?y24z27 ?r24z27
      case y24z27 => (intro w hSw; (try dsimp only at hSw); go_simp) <;> with_reducible rfl
      try simp only [Act.put, List.setIfInBounds_toArray, List.set_cons_zero, List.set_cons_succ]
      refine tkY 25 ⟨some 8, .assign (.tmp 33), 4, "record.go:132", #[⟨24, .data⟩, ⟨23, .chain⟩, ⟨0, .phase⟩, ⟨1, .phase⟩, ⟨2, .phase⟩, ⟨3, .phase⟩, ⟨4, .phase⟩, ⟨5, .phase⟩, ⟨6, .phase⟩, ⟨7, .phase⟩, ⟨8, .phase⟩, ⟨9, .phase⟩, ⟨10, .phase⟩, ⟨11, .phase⟩, ⟨12, .phase⟩, ⟨13, .phase⟩, ⟨14, .phase⟩, ⟨15, .phase⟩, ⟨16, .phase⟩, ⟨17, .phase⟩, ⟨18, .phase⟩, ⟨19, .phase⟩, ⟨20, .phase⟩, ⟨21, .phase⟩, ⟨22, .phase⟩, ⟨23, .phase⟩, ⟨24, .phase⟩], none⟩ ?v25z28 hHeld ?y25z28 ?r25z28
      case y25z28 => (intro w hSw; (try dsimp only at hSw); go_simp) <;> with_reducible rfl
      try simp only [Act.put, List.setIfInBounds_toArray, List.set_cons_zero, List.set_cons_succ]
      refine wpAnyH_done (by kernel_rfl) ?_ _
      have HR : Hid ((canB size ⟨e, t, c, tr, li, lk⟩ && (decide (idx = e) && b)) = false) := by
        show _ = _
        rw [← HCB.out, f6.out]
        rfl
      have HW : Hid (Below w.heap.size w _) := bA.trans (b2.mono bA.size)
      clear hHeld hcells
      go_wp2
      go_ret
      rw [HR.out]
      exact ⟨rfl, HW.out⟩
  | false =>
    refine hK.out _ _ ?_ (fun _ => ?_)
    · exact hHeld
    clear hK K
    try simp only [Act.put, List.setIfInBounds_toArray, List.set_cons_zero, List.set_cons_succ]
    refine tkY 4 ⟨some 13, .move (.tmp 12), 4, "record.go:132", #[⟨3, .data⟩, ⟨3, .chain⟩], none⟩ ?v4z29 hHeld ?y4z29 ?r4z29
    case y4z29 => (intro w hSw; (try dsimp only at hSw); go_simp) <;> with_reducible rfl
    try simp only [Act.put, List.setIfInBounds_toArray, List.set_cons_zero, List.set_cons_succ]
    refine tkN 5 ⟨some 14, .fieldAddr 29 (.tmp 7) 1, 0, "record.go:132", #[⟨4, .guard⟩], some (4, true)⟩ hHeld ?_
    try simp only [Act.put, List.setIfInBounds_toArray, List.set_cons_zero, List.set_cons_succ]
    refine tkN 6 ⟨some 15, .fieldAddr 27 (.tmp 14) 0, 0, "record.go:132", #[⟨5, .data⟩, ⟨4, .guard⟩], some (4, true)⟩ hHeld ?_
    try simp only [Act.put, List.setIfInBounds_toArray, List.set_cons_zero, List.set_cons_succ]
    refine tkN 7 ⟨some 16, .load 3 (.tmp 15), 3, "record.go:132", #[⟨6, .data⟩, ⟨4, .guard⟩], some (4, true)⟩ hHeld ?_
    try simp only [Act.put, List.setIfInBounds_toArray, List.set_cons_zero, List.set_cons_succ]
    refine tkN 8 ⟨some 17, .fieldAddr 29 (.tmp 7) 0, 0, "record.go:132", #[⟨4, .guard⟩], some (4, true)⟩ hHeld ?_
    try simp only [Act.put, List.setIfInBounds_toArray, List.set_cons_zero, List.set_cons_succ]
    refine tkN 9 ⟨some 18, .fieldAddr 25 (.tmp 17) 0, 0, "record.go:132", #[⟨8, .data⟩, ⟨4, .guard⟩], some (4, true)⟩ hHeld ?_
    try simp only [Act.put, List.setIfInBounds_toArray, List.set_cons_zero, List.set_cons_succ]
    refine tkN 10 ⟨some 19, .load 3 (.tmp 18), 3, "record.go:132", #[⟨9, .data⟩, ⟨4, .guard⟩], some (4, true)⟩ hHeld ?_
    try simp only [Act.put, List.setIfInBounds_toArray, List.set_cons_zero, List.set_cons_succ]
    refine tkN 11 ⟨some 20, .binOp .eql 3 (.tmp 16) (.tmp 19) 3, 4, "record.go:132", #[⟨7, .data⟩, ⟨10, .data⟩, ⟨4, .guard⟩], some (4, true)⟩ hHeld ?_
    try simp only [Act.put, List.setIfInBounds_toArray, List.set_cons_zero, List.set_cons_succ]
    refine tkY 12 ⟨some 21, .pick (.tmp 13) (.tmp 20) (.const (.bool false)), 4, "record.go:132", #[⟨4, .data⟩, ⟨11, .data⟩], none⟩ ?v12z30 hHeld ?y12z30 ?r12z30
    case y12z30 => (intro w hSw; (try dsimp only at hSw); go_simp) <;> with_reducible rfl
    try simp only [Act.put, List.setIfInBounds_toArray, List.set_cons_zero, List.set_cons_succ]
    refine tkY 13 ⟨some 22, .move (.tmp 21), 4, "record.go:132", #[⟨12, .data⟩, ⟨4, .chain⟩], none⟩ ?v13z31 hHeld ?y13z31 ?r13z31
    case y13z31 => (intro w hSw; (try dsimp only at hSw); go_simp) <;> with_reducible rfl
    try simp only [Act.put, List.setIfInBounds_toArray, List.set_cons_zero, List.set_cons_succ]
    refine tkN 14 ⟨some 23, .move (.tmp 0), 3, "record.go:132", #[⟨13, .guard⟩], some (13, true)⟩ hHeld ?_
    try simp only [Act.put, List.setIfInBounds_toArray, List.set_cons_zero, List.set_cons_succ]
    refine tkN 15 ⟨some 24, .move (.tmp 2), 22, "record.go:132", #[⟨13, .guard⟩], some (13, true)⟩ hHeld ?_
    try simp only [Act.put, List.setIfInBounds_toArray, List.set_cons_zero, List.set_cons_succ]
    refine tkN 16 ⟨some 25, .move (.tmp 1), 3, "record.go:132", #[⟨13, .guard⟩], some (13, true)⟩ hHeld ?_
    try simp only [Act.put, List.setIfInBounds_toArray, List.set_cons_zero, List.set_cons_succ]
    refine tkN 17 ⟨some 26, .move (.tmp 0), 3, "record.go:132", #[⟨13, .guard⟩], some (13, true)⟩ hHeld ?_
    try simp only [Act.put, List.setIfInBounds_toArray, List.set_cons_zero, List.set_cons_succ]
    refine tkN 18 ⟨some 27, .fieldAddr 29 (.tmp 7) 0, 0, "record.go:132", #[⟨13, .guard⟩], some (13, true)⟩ hHeld ?_
    try simp only [Act.put, List.setIfInBounds_toArray, List.set_cons_zero, List.set_cons_succ]
    refine tkN 19 ⟨some 28, .load 25 (.tmp 27), 25, "record.go:132", #[⟨18, .data⟩, ⟨13, .guard⟩], some (13, true)⟩ hHeld ?_
    try simp only [Act.put, List.setIfInBounds_toArray, List.set_cons_zero, List.set_cons_succ]
    refine tkN 20 ⟨some 29, .call { callee := .value (.func 32), args := #[.tmp 26, .tmp 28], argTypes := #[3, 25] }, 22, "record.go:133", #[⟨17, .data⟩, ⟨19, .data⟩, ⟨13, .chain⟩, ⟨13, .guard⟩], some (13, true)⟩ hHeld ?_
    try simp only [Act.put, List.setIfInBounds_toArray, List.set_cons_zero, List.set_cons_succ]
    refine tkN 21 ⟨some 30, .fieldAddr 29 (.tmp 7) 1, 0, "record.go:132", #[⟨13, .guard⟩], some (13, true)⟩ hHeld ?_
    try simp only [Act.put, List.setIfInBounds_toArray, List.set_cons_zero, List.set_cons_succ]
    refine tkN 22 ⟨some 31, .load 27 (.tmp 30), 27, "record.go:132", #[⟨21, .data⟩, ⟨13, .guard⟩], some (13, true)⟩ hHeld ?_
    try simp only [Act.put, List.setIfInBounds_toArray, List.set_cons_zero, List.set_cons_succ]
    refine tkN 23 ⟨some 32, .call { callee := .value (.func 31), args := #[.tmp 23, .tmp 24, .tmp 25, .tmp 29, .tmp 31], argTypes := #[3, 22, 3, 22, 27] }, 4, "record.go:133", #[⟨14, .data⟩, ⟨15, .data⟩, ⟨16, .data⟩, ⟨20, .data⟩, ⟨22, .data⟩, ⟨20, .chain⟩, ⟨13, .guard⟩], some (13, true)⟩ hHeld ?_
    try simp only [Act.put, List.setIfInBounds_toArray, List.set_cons_zero, List.set_cons_succ]
    refine tkY 24 ⟨some 33, .pick (.tmp 22) (.tmp 32) (.const (.bool false)), 4, "record.go:132", #[⟨13, .data⟩, ⟨23, .data⟩], none⟩ ?v24z32 hHeld ?y24z32 ?r24z32
    case y24z32 => (intro w hSw; (try dsimp only at hSw); go_simp) <;> with_reducible rfl
    try simp only [Act.put, List.setIfInBounds_toArray, List.set_cons_zero, List.set_cons_succ]
    refine tkY 25 ⟨some 8, .assign (.tmp 33), 4, "record.go:132", #[⟨24, .data⟩, ⟨23, .chain⟩, ⟨0, .phase⟩, ⟨1, .phase⟩, ⟨2, .phase⟩, ⟨3, .phase⟩, ⟨4, .phase⟩, ⟨5, .phase⟩, ⟨6, .phase⟩, ⟨7, .phase⟩, ⟨8, .phase⟩, ⟨9, .phase⟩, ⟨10, .phase⟩, ⟨11, .phase⟩, ⟨12, .phase⟩, ⟨13, .phase⟩, ⟨14, .phase⟩, ⟨15, .phase⟩, ⟨16, .phase⟩, ⟨17, .phase⟩, ⟨18, .phase⟩, ⟨19, .phase⟩, ⟨20, .phase⟩, ⟨21, .phase⟩, ⟨22, .phase⟩, ⟨23, .phase⟩, ⟨24, .phase⟩], none⟩ ?v25z33 hHeld ?y25z33 ?r25z33
    case y25z33 => (intro w hSw; (try dsimp only at hSw); go_simp) <;> with_reducible rfl
    try simp only [Act.put, List.setIfInBounds_toArray, List.set_cons_zero, List.set_cons_succ]
    refine wpAnyH_done (by kernel_rfl) ?_ _
    have HR : Hid ((canB size ⟨e, t, c, tr, li, lk⟩ && (decide (idx = e) && b)) = false) := by
      show _ = _
      rw [← HCB.out]
      rfl
    have HW : Hid (Below w.heap.size w _) := bA.trans (b2.mono bA.size)
    clear hHeld hcells
    go_wp2
    go_ret
    rw [HR.out]
    exact ⟨rfl, HW.out⟩

set_option maxRecDepth 100000 in
set_option maxHeartbeats 8000000 in
theorem rcheck_any13 (size height e t c idx : Int) (pb tv lv kv cv pv : Value) (PB tr li : List UInt8) (lk ls ps : List (List UInt8)) (b : Bool) (w : World) (h0 : HB w pb PB) (h1 : HB w tv tr) (h2 : HB w lv li) (h3 : PA w kv lk) (h4 : PA w cv ls) (h5 : PA w pv ps)
    (hVer : ∀ pv dv ca pa w, HB w pv PB → HB w dv (hshF size ⟨e, t, c, tr, li, lk⟩) → PA w ca ls → PA w pa ps → Calls Tryz.prog 34 #[.int .i64 size, pv, .int .i64 height, dv, .agg #[.int .i64 idx, ca, pa]] w fun e w' => e = .returned (.bool b) ∧ Below w.heap.size w w') :
    Calls Tryz.prog 12 #[.int .i64 size, .int .i64 height, pb, .agg #[.int .i64 e, .int .i64 t, tv, .int .i64 c, lv, kv, .int .i64 idx, cv, pv]] w fun x w' => x = .returned (.bool (canB size ⟨e, t, c, tr, li, lk⟩ && (decide (idx = e) && b))) ∧ Below w.heap.size w w' := by
  obtain ⟨bp, bc', rfl⟩ := h0.shape
  obtain ⟨tp, tc, rfl⟩ := h1.shape
  obtain ⟨lp, lc, rfl⟩ := h2.shape
  obtain ⟨kp, kc, rfl⟩ := h3.shape
  obtain ⟨cp, cc, rfl⟩ := h4.shape
  obtain ⟨pp, pc, rfl⟩ := h5.shape
  have bA := (Below.refl w.heap.size w).alloc (Nat.le_refl _) (.cells #[.int .i64 e, .int .i64 t, .slice tp tr.length tc, .int .i64 c, .slice lp li.length lc, .slice kp lk.length kc, .int .i64 idx, .slice cp ls.length cc, .slice pp ps.length pc] 29)
  have gA := heap_alloc_new w (.cells #[.int .i64 e, .int .i64 t, .slice tp tr.length tc, .int .i64 c, .slice lp li.length lc, .slice kp lk.length kc, .int .i64 idx, .slice cp ls.length cc, .slice pp ps.length pc] 29)
  obtain ⟨V, hV⟩ : ∃ V, w.alloc (.cells #[.int .i64 e, .int .i64 t, .slice tp tr.length tc, .int .i64 c, .slice lp li.length lc, .slice kp lk.length kc, .int .i64 idx, .slice cp ls.length cc, .slice pp ps.length pc] 29) = V := ⟨_, rfl⟩
  rw [hV] at bA gA
  have kP := h0.later bA
  have k1 := h1.later bA
  have k2 := h2.later bA
  have k3 := h3.later bA
  have k4 := h4.later bA
  have k5 := h5.later bA
  have bD : Below V.heap.size V V.drew := (Below.refl _ V).drew
  have hcells : ∀ W, Below V.heap.size V W → W.cell? ⟨w.heap.size, 0, none⟩ = some (.int .i64 e) ∧ W.cell? ⟨w.heap.size, 1, none⟩ = some (.int .i64 t) ∧ W.cell? ⟨w.heap.size, 2, none⟩ = some (.slice tp tr.length tc) ∧ W.cell? ⟨w.heap.size, 3, none⟩ = some (.int .i64 c) ∧ W.cell? ⟨w.heap.size, 4, none⟩ = some (.slice lp li.length lc) ∧ W.cell? ⟨w.heap.size, 5, none⟩ = some (.slice kp lk.length kc) ∧ W.cell? ⟨w.heap.size, 6, none⟩ = some (.int .i64 idx) ∧ W.cell? ⟨w.heap.size, 7, none⟩ = some (.slice cp ls.length cc) ∧ W.cell? ⟨w.heap.size, 8, none⟩ = some (.slice pp ps.length pc) := by
    intro W hB
    have g := (hB.block _ (Array.getElem?_eq_some_iff.1 gA).1).trans gA
    refine ⟨?_, ?_, ?_, ?_, ?_, ?_, ?_, ?_, ?_⟩ <;> (rw [cell_of_row _ _ _ _ _ _ g]; rfl)
  have hHeld := hcells _ bD
  clear h0 h1 h2 h3 h4 h5 gA
  go_enter Tryz.func12, Tryz.ntmps12
  go_wp2
  clear hV
  refine wp_region_heldN (by kernel_rfl) (fun W => W.cell? ⟨w.heap.size, 0, none⟩ = some (.int .i64 e) ∧ W.cell? ⟨w.heap.size, 1, none⟩ = some (.int .i64 t) ∧ W.cell? ⟨w.heap.size, 2, none⟩ = some (.slice tp tr.length tc) ∧ W.cell? ⟨w.heap.size, 3, none⟩ = some (.int .i64 c) ∧ W.cell? ⟨w.heap.size, 4, none⟩ = some (.slice lp li.length lc) ∧ W.cell? ⟨w.heap.size, 5, none⟩ = some (.slice kp lk.length kc) ∧ W.cell? ⟨w.heap.size, 6, none⟩ = some (.int .i64 idx) ∧ W.cell? ⟨w.heap.size, 7, none⟩ = some (.slice cp ls.length cc) ∧ W.cell? ⟨w.heap.size, 8, none⟩ = some (.slice pp ps.length pc)) 26 rfl ?_
  refine tkY 0 ⟨some 9, .move (.tmp 0), 3, "ref.go:114", #[], none⟩ ?v0z34 hHeld ?y0z34 ?r0z34
  case y0z34 => (intro w hSw; (try dsimp only at hSw); go_simp) <;> with_reducible rfl
  try simp only [Act.put, List.setIfInBounds_toArray, List.set_cons_zero, List.set_cons_succ]
  refine tkY 1 ⟨some 10, .fieldAddr 29 (.tmp 7) 0, 0, "ref.go:114", #[], none⟩ ?v1z35 hHeld ?y1z35 ?r1z35
  case y1z35 => (intro w hSw; (try dsimp only at hSw); go_simp) <;> with_reducible rfl
  try simp only [Act.put, List.setIfInBounds_toArray, List.set_cons_zero, List.set_cons_succ]
  refine tkY 2 ⟨some 11, .load 25 (.tmp 10), 25, "ref.go:114", #[⟨1, .data⟩], none⟩ ?v2z36 hHeld ?y2z36 ?r2z36
  case y2z36 => (intro w hSw; (try dsimp only at hSw); go_simp) <;> with_reducible rfl
  try simp only [Act.put, List.setIfInBounds_toArray, List.set_cons_zero, List.set_cons_succ]
  refine wpAnyH_ready (rs := [3]) (by kernel_rfl) (by simp) ?_
  refine AllReadyH.cons (o := ⟨some 12, .call { callee := .value (.func 33), args := #[.tmp 9, .tmp 11], argTypes := #[3, 25] }, 4, "ref.go:114", #[⟨0, .data⟩, ⟨2, .data⟩], none⟩) rfl (fun K hK => ?_) AllReadyH.nil
  go_simp
  refine (rcan_any size e t c _ _ _ tr li lk _ (k1.later bD) (k2.later bD) (k3.later bD)).mono ?_
  rintro x w2 ⟨rfl, b2'⟩
  have b2 := bD.trans (b2'.mono bD.size)
  replace hHeld := hcells w2 b2
  clear b2'
  obtain ⟨CB, hCB⟩ : ∃ CB, CB = canB size ⟨e, t, c, tr, li, lk⟩ := ⟨_, rfl⟩
  rw [← hCB]
  have HCB : Hid (CB = canB size ⟨e, t, c, tr, li, lk⟩) := hCB
  clear hCB
  cases CB with
  | true =>
    refine hK.out _ _ ?_ (fun _ => ?_)
    · exact hHeld
    clear hK K
    try simp only [Act.put, List.setIfInBounds_toArray, List.set_cons_zero, List.set_cons_succ]
    refine tkY 4 ⟨some 13, .move (.tmp 12), 4, "ref.go:114", #[⟨3, .data⟩, ⟨3, .chain⟩], none⟩ ?v4z37 hHeld ?y4z37 ?r4z37
    case y4z37 => (intro w hSw; (try dsimp only at hSw); go_simp) <;> with_reducible rfl
    try simp only [Act.put, List.setIfInBounds_toArray, List.set_cons_zero, List.set_cons_succ]
    refine tkY 5 ⟨some 14, .fieldAddr 29 (.tmp 7) 1, 0, "ref.go:114", #[⟨4, .guard⟩], some (4, true)⟩ ?v5z38 hHeld ?y5z38 ?r5z38
    case y5z38 => (intro w hSw; (try dsimp only at hSw); go_simp) <;> with_reducible rfl
    try simp only [Act.put, List.setIfInBounds_toArray, List.set_cons_zero, List.set_cons_succ]
    refine tkY 6 ⟨some 15, .fieldAddr 27 (.tmp 14) 0, 0, "ref.go:114", #[⟨5, .data⟩, ⟨4, .guard⟩], some (4, true)⟩ ?v6z39 hHeld ?y6z39 ?r6z39
    case y6z39 => (intro w hSw; (try dsimp only at hSw); go_simp) <;> with_reducible rfl
    try simp only [Act.put, List.setIfInBounds_toArray, List.set_cons_zero, List.set_cons_succ]
    refine tkY 7 ⟨some 16, .load 3 (.tmp 15), 3, "ref.go:114", #[⟨6, .data⟩, ⟨4, .guard⟩], some (4, true)⟩ ?v7z40 hHeld ?y7z40 ?r7z40
    case y7z40 => (intro w hSw; (try dsimp only at hSw); go_simp) <;> with_reducible rfl
    try simp only [Act.put, List.setIfInBounds_toArray, List.set_cons_zero, List.set_cons_succ]
    refine tkY 8 ⟨some 17, .fieldAddr 29 (.tmp 7) 0, 0, "ref.go:114", #[⟨4, .guard⟩], some (4, true)⟩ ?v8z41 hHeld ?y8z41 ?r8z41
    case y8z41 => (intro w hSw; (try dsimp only at hSw); go_simp) <;> with_reducible rfl
    try simp only [Act.put, List.setIfInBounds_toArray, List.set_cons_zero, List.set_cons_succ]
    refine tkY 9 ⟨some 18, .fieldAddr 25 (.tmp 17) 0, 0, "ref.go:114", #[⟨8, .data⟩, ⟨4, .guard⟩], some (4, true)⟩ ?v9z42 hHeld ?y9z42 ?r9z42
    case y9z42 => (intro w hSw; (try dsimp only at hSw); go_simp) <;> with_reducible rfl
    try simp only [Act.put, List.setIfInBounds_toArray, List.set_cons_zero, List.set_cons_succ]
    refine tkY 10 ⟨some 19, .load 3 (.tmp 18), 3, "ref.go:114", #[⟨9, .data⟩, ⟨4, .guard⟩], some (4, true)⟩ ?v10z43 hHeld ?y10z43 ?r10z43
    case y10z43 => (intro w hSw; (try dsimp only at hSw); go_simp) <;> with_reducible rfl
    try simp only [Act.put, List.setIfInBounds_toArray, List.set_cons_zero, List.set_cons_succ]
    by_cases hc11 : idx = e
    · have n6 : (idx == e) = true := by simpa using hc11
      have f6 : Hid (decide (idx = e) = true) := by simpa [Hid] using hc11
      clear hc11
      refine tkY 11 ⟨some 20, .binOp .eql 3 (.tmp 16) (.tmp 19) 3, 4, "ref.go:114", #[⟨7, .data⟩, ⟨10, .data⟩, ⟨4, .guard⟩], some (4, true)⟩ ?v11z44 hHeld ?y11z44 ?r11z44
      case y11z44 => (intro w hSw; (try dsimp only at hSw); go_simp) <;> with_reducible rfl
      try simp only [Act.put, List.setIfInBounds_toArray, List.set_cons_zero, List.set_cons_succ]
      refine tkY 12 ⟨some 21, .pick (.tmp 13) (.tmp 20) (.const (.bool false)), 4, "ref.go:114", #[⟨4, .data⟩, ⟨11, .data⟩], none⟩ ?v12z45 hHeld ?y12z45 ?r12z45
      case y12z45 => (intro w hSw; (try dsimp only at hSw); go_simp) <;> with_reducible rfl
      try simp only [Act.put, List.setIfInBounds_toArray, List.set_cons_zero, List.set_cons_succ]
      refine tkY 13 ⟨some 22, .move (.tmp 21), 4, "ref.go:114", #[⟨12, .data⟩, ⟨4, .chain⟩], none⟩ ?v13z46 hHeld ?y13z46 ?r13z46
      case y13z46 => (intro w hSw; (try dsimp only at hSw); go_simp) <;> with_reducible rfl
      try simp only [Act.put, List.setIfInBounds_toArray, List.set_cons_zero, List.set_cons_succ]
      refine tkY 14 ⟨some 23, .move (.tmp 0), 3, "ref.go:114", #[⟨13, .guard⟩], some (13, true)⟩ ?v14z47 hHeld ?y14z47 ?r14z47
      case y14z47 => (intro w hSw; (try dsimp only at hSw); go_simp) <;> with_reducible rfl
      try simp only [Act.put, List.setIfInBounds_toArray, List.set_cons_zero, List.set_cons_succ]
      refine tkY 15 ⟨some 24, .move (.tmp 2), 22, "ref.go:114", #[⟨13, .guard⟩], some (13, true)⟩ ?v15z48 hHeld ?y15z48 ?r15z48
      case y15z48 => (intro w hSw; (try dsimp only at hSw); go_simp) <;> with_reducible rfl
      try simp only [Act.put, List.setIfInBounds_toArray, List.set_cons_zero, List.set_cons_succ]
      refine tkY 16 ⟨some 25, .move (.tmp 1), 3, "ref.go:114", #[⟨13, .guard⟩], some (13, true)⟩ ?v16z49 hHeld ?y16z49 ?r16z49
      case y16z49 => (intro w hSw; (try dsimp only at hSw); go_simp) <;> with_reducible rfl
      try simp only [Act.put, List.setIfInBounds_toArray, List.set_cons_zero, List.set_cons_succ]
      refine tkY 17 ⟨some 26, .move (.tmp 0), 3, "ref.go:114", #[⟨13, .guard⟩], some (13, true)⟩ ?v17z50 hHeld ?y17z50 ?r17z50
      case y17z50 => (intro w hSw; (try dsimp only at hSw); go_simp) <;> with_reducible rfl
      try simp only [Act.put, List.setIfInBounds_toArray, List.set_cons_zero, List.set_cons_succ]
      refine tkY 18 ⟨some 27, .fieldAddr 29 (.tmp 7) 0, 0, "ref.go:114", #[⟨13, .guard⟩], some (13, true)⟩ ?v18z51 hHeld ?y18z51 ?r18z51
      case y18z51 => (intro w hSw; (try dsimp only at hSw); go_simp) <;> with_reducible rfl
      try simp only [Act.put, List.setIfInBounds_toArray, List.set_cons_zero, List.set_cons_succ]
      refine tkY 19 ⟨some 28, .load 25 (.tmp 27), 25, "ref.go:114", #[⟨18, .data⟩, ⟨13, .guard⟩], some (13, true)⟩ ?v19z52 hHeld ?y19z52 ?r19z52
      case y19z52 => (intro w hSw; (try dsimp only at hSw); go_simp) <;> with_reducible rfl
      try simp only [Act.put, List.setIfInBounds_toArray, List.set_cons_zero, List.set_cons_succ]
      refine tkY 21 ⟨some 30, .fieldAddr 29 (.tmp 7) 1, 0, "ref.go:114", #[⟨13, .guard⟩], some (13, true)⟩ ?v21z53 hHeld ?y21z53 ?r21z53
      case y21z53 => (intro w hSw; (try dsimp only at hSw); go_simp) <;> with_reducible rfl
      try simp only [Act.put, List.setIfInBounds_toArray, List.set_cons_zero, List.set_cons_succ]
      refine tkY 22 ⟨some 31, .load 27 (.tmp 30), 27, "ref.go:114", #[⟨21, .data⟩, ⟨13, .guard⟩], some (13, true)⟩ ?v22z54 hHeld ?y22z54 ?r22z54
      case y22z54 => (intro w hSw; (try dsimp only at hSw); go_simp) <;> with_reducible rfl
      try simp only [Act.put, List.setIfInBounds_toArray, List.set_cons_zero, List.set_cons_succ]
      refine wpAnyH_ready (rs := [20]) (by kernel_rfl) (by simp) ?_
      refine AllReadyH.cons (o := ⟨some 29, .call { callee := .value (.func 35), args := #[.tmp 26, .tmp 28], argTypes := #[3, 25] }, 22, "ref.go:114", #[⟨17, .data⟩, ⟨19, .data⟩, ⟨13, .chain⟩, ⟨13, .guard⟩], some (13, true)⟩) rfl (fun K hK => ?_) AllReadyH.nil
      go_simp
      refine (rhash13_any size e t c _ _ _ tr li lk _ (k1.later b2) (k2.later b2) (k3.later b2)).mono ?_
      rintro x w3 ⟨hv3, rfl, hh3, b3'⟩
      obtain ⟨p3, c3, rfl⟩ := hh3.shape
      have b3 := b2.trans (b3'.mono b2.size)
      replace hHeld := hcells w3 b3
      refine hK.out _ _ ?_ (fun _ => ?_)
      · exact hHeld
      clear hK K
      try simp only [Act.put, List.setIfInBounds_toArray, List.set_cons_zero, List.set_cons_succ]
      refine wpAnyH_ready (rs := [23]) (by kernel_rfl) (by simp) ?_
      refine AllReadyH.cons (o := ⟨some 32, .call { callee := .value (.func 34), args := #[.tmp 23, .tmp 24, .tmp 25, .tmp 29, .tmp 31], argTypes := #[3, 22, 3, 22, 27] }, 4, "ref.go:114", #[⟨14, .data⟩, ⟨15, .data⟩, ⟨16, .data⟩, ⟨20, .data⟩, ⟨22, .data⟩, ⟨20, .chain⟩, ⟨13, .guard⟩], some (13, true)⟩) rfl (fun K hK => ?_) AllReadyH.nil
      go_simp
      refine (hVer _ _ _ _ _ (kP.later b3) hh3 (k4.later b3) (k5.later b3)).mono ?_
      rintro x w4 ⟨rfl, b4'⟩
      have b4 := b3.trans (b4'.mono b3.size)
      replace hHeld := hcells w4 b4
      refine hK.out _ _ ?_ (fun _ => ?_)
      · exact hHeld
      clear hK K
      try simp only [Act.put, List.setIfInBounds_toArray, List.set_cons_zero, List.set_cons_succ]
      refine tkY 24 ⟨some 33, .pick (.tmp 22) (.tmp 32) (.const (.bool false)), 4, "ref.go:114", #[⟨13, .data⟩, ⟨23, .data⟩], none⟩ ?v24z55 hHeld ?y24z55 ?r24z55
      case y24z55 => (intro w hSw; (try dsimp only at hSw); go_simp) <;> with_reducible rfl
      try simp only [Act.put, List.setIfInBounds_toArray, List.set_cons_zero, List.set_cons_succ]
      refine tkY 25 ⟨some 8, .assign (.tmp 33), 4, "ref.go:114", #[⟨24, .data⟩, ⟨23, .chain⟩, ⟨0, .phase⟩, ⟨1, .phase⟩, ⟨2, .phase⟩, ⟨3, .phase⟩, ⟨4, .phase⟩, ⟨5, .phase⟩, ⟨6, .phase⟩, ⟨7, .phase⟩, ⟨8, .phase⟩, ⟨9, .phase⟩, ⟨10, .phase⟩, ⟨11, .phase⟩, ⟨12, .phase⟩, ⟨13, .phase⟩, ⟨14, .phase⟩, ⟨15, .phase⟩, ⟨16, .phase⟩, ⟨17, .phase⟩, ⟨18, .phase⟩, ⟨19, .phase⟩, ⟨20, .phase⟩, ⟨21, .phase⟩, ⟨22, .phase⟩, ⟨23, .phase⟩, ⟨24, .phase⟩], none⟩ ?v25z56 hHeld ?y25z56 ?r25z56
      case y25z56 => (intro w hSw; (try dsimp only at hSw); go_simp) <;> with_reducible rfl
      try simp only [Act.put, List.setIfInBounds_toArray, List.set_cons_zero, List.set_cons_succ]
      refine wpAnyH_done (by kernel_rfl) ?_ _
      have HR : Hid ((canB size ⟨e, t, c, tr, li, lk⟩ && (decide (idx = e) && b)) = b) := by
        show _ = _
        rw [← HCB.out, f6.out]
        rfl
      have HW : Hid (Below w.heap.size w _) := bA.trans (b4.mono bA.size)
      clear hHeld hcells
      go_wp2
      go_ret
      rw [HR.out]
      exact ⟨rfl, HW.out⟩
    · have n6 : (idx == e) = false := by simpa using hc11
      have f6 : Hid (decide (idx = e) = false) := by simpa [Hid] using hc11
      clear hc11
      refine tkY 11 ⟨some 20, .binOp .eql 3 (.tmp 16) (.tmp 19) 3, 4, "ref.go:114", #[⟨7, .data⟩, ⟨10, .data⟩, ⟨4, .guard⟩], some (4, true)⟩ ?v11z57 hHeld ?y11z57 ?r11z57
      case y11z57 => (intro w hSw; (try dsimp only at hSw); go_simp) <;> with_reducible rfl
      try simp only [Act.put, List.setIfInBounds_toArray, List.set_cons_zero, List.set_cons_succ]
      refine tkY 12 ⟨some 21, .pick (.tmp 13) (.tmp 20) (.const (.bool false)), 4, "ref.go:114", #[⟨4, .data⟩, ⟨11, .data⟩], none⟩ ?v12z58 hHeld ?y12z58 ?r12z58
      case y12z58 => (intro w hSw; (try dsimp only at hSw); go_simp) <;> with_reducible rfl
      try simp only [Act.put, List.setIfInBounds_toArray, List.set_cons_zero, List.set_cons_succ]
      refine tkY 13 ⟨some 22, .move (.tmp 21), 4, "ref.go:114", #[⟨12, .data⟩, ⟨4, .chain⟩], none⟩ ?v13z59 hHeld ?y13z59 ?r13z59
      case y13z59 => (intro w hSw; (try dsimp only at hSw); go_simp) <;> with_reducible rfl
      try simp only [Act.put, List.setIfInBounds_toArray, List.set_cons_zero, List.set_cons_succ]
      refine tkN 14 ⟨some 23, .move (.tmp 0), 3, "ref.go:114", #[⟨13, .guard⟩], some (13, true)⟩ hHeld ?_
      try simp only [Act.put, List.setIfInBounds_toArray, List.set_cons_zero, List.set_cons_succ]
      refine tkN 15 ⟨some 24, .move (.tmp 2), 22, "ref.go:114", #[⟨13, .guard⟩], some (13, true)⟩ hHeld ?_
      try simp only [Act.put, List.setIfInBounds_toArray, List.set_cons_zero, List.set_cons_succ]
      refine tkN 16 ⟨some 25, .move (.tmp 1), 3, "ref.go:114", #[⟨13, .guard⟩], some (13, true)⟩ hHeld ?_
      try simp only [Act.put, List.setIfInBounds_toArray, List.set_cons_zero, List.set_cons_succ]
      refine tkN 17 ⟨some 26, .move (.tmp 0), 3, "ref.go:114", #[⟨13, .guard⟩], some (13, true)⟩ hHeld ?_
      try simp only [Act.put, List.setIfInBounds_toArray, List.set_cons_zero, List.set_cons_succ]
      refine tkN 18 ⟨some 27, .fieldAddr 29 (.tmp 7) 0, 0, "ref.go:114", #[⟨13, .guard⟩], some (13, true)⟩ hHeld ?_
      try simp only [Act.put, List.setIfInBounds_toArray, List.set_cons_zero, List.set_cons_succ]
      refine tkN 19 ⟨some 28, .load 25 (.tmp 27), 25, "ref.go:114", #[⟨18, .data⟩, ⟨13, .guard⟩], some (13, true)⟩ hHeld ?_
      try simp only [Act.put, List.setIfInBounds_toArray, List.set_cons_zero, List.set_cons_succ]
      refine tkN 20 ⟨some 29, .call { callee := .value (.func 35), args := #[.tmp 26, .tmp 28], argTypes := #[3, 25] }, 22, "ref.go:114", #[⟨17, .data⟩, ⟨19, .data⟩, ⟨13, .chain⟩, ⟨13, .guard⟩], some (13, true)⟩ hHeld ?_
      try simp only [Act.put, List.setIfInBounds_toArray, List.set_cons_zero, List.set_cons_succ]
      refine tkN 21 ⟨some 30, .fieldAddr 29 (.tmp 7) 1, 0, "ref.go:114", #[⟨13, .guard⟩], some (13, true)⟩ hHeld ?_
      try simp only [Act.put, List.setIfInBounds_toArray, List.set_cons_zero, List.set_cons_succ]
      refine tkN 22 ⟨some 31, .load 27 (.tmp 30), 27, "ref.go:114", #[⟨21, .data⟩, ⟨13, .guard⟩], some (13, true)⟩ hHeld ?_
      try simp only [Act.put, List.setIfInBounds_toArray, List.set_cons_zero, List.set_cons_succ]
      refine tkN 23 ⟨some 32, .call { callee := .value (.func 34), args := #[.tmp 23, .tmp 24, .tmp 25, .tmp 29, .tmp 31], argTypes := #[3, 22, 3, 22, 27] }, 4, "ref.go:114", #[⟨14, .data⟩, ⟨15, .data⟩, ⟨16, .data⟩, ⟨20, .data⟩, ⟨22, .data⟩, ⟨20, .chain⟩, ⟨13, .guard⟩], some (13, true)⟩ hHeld ?_
      try simp only [Act.put, List.setIfInBounds_toArray, List.set_cons_zero, List.set_cons_succ]
      refine tkY 24 ⟨some 33, .pick (.tmp 22) (.tmp 32) (.const (.bool false)), 4, "ref.go:114", #[⟨13, .data⟩, ⟨23, .data⟩], none⟩ ?v24z60 hHeld ?y24z60 ?r24z60
      case y24z60 => (intro w hSw; (try dsimp only at hSw); go_simp) <;> with_reducible rfl
      try simp only [Act.put, List.setIfInBounds_toArray, List.set_cons_zero, List.set_cons_succ]
      refine tkY 25 ⟨some 8, .assign (.tmp 33), 4, "ref.go:114", #[⟨24, .data⟩, ⟨23, .chain⟩, ⟨0, .phase⟩, ⟨1, .phase⟩, ⟨2, .phase⟩, ⟨3, .phase⟩, ⟨4, .phase⟩, ⟨5, .phase⟩, ⟨6, .phase⟩, ⟨7, .phase⟩, ⟨8, .phase⟩, ⟨9, .phase⟩, ⟨10, .phase⟩, ⟨11, .phase⟩, ⟨12, .phase⟩, ⟨13, .phase⟩, ⟨14, .phase⟩, ⟨15, .phase⟩, ⟨16, .phase⟩, ⟨17, .phase⟩, ⟨18, .phase⟩, ⟨19, .phase⟩, ⟨20, .phase⟩, ⟨21, .phase⟩, ⟨22, .phase⟩, ⟨23, .phase⟩, ⟨24, .phase⟩], none⟩ ?v25z61 hHeld ?y25z61 ?r25z61
      case y25z61 => (intro w hSw; (try dsimp only at hSw); go_simp) <;> with_reducible rfl
      try simp only [Act.put, List.setIfInBounds_toArray, List.set_cons_zero, List.set_cons_succ]
      refine wpAnyH_done (by kernel_rfl) ?_ _
      have HR : Hid ((canB size ⟨e, t, c, tr, li, lk⟩ && (decide (idx = e) && b)) = false) := by
        show _ = _
        rw [← HCB.out, f6.out]
        rfl
      have HW : Hid (Below w.heap.size w _) := bA.trans (b2.mono bA.size)
      clear hHeld hcells
      go_wp2
      go_ret
      rw [HR.out]
      exact ⟨rfl, HW.out⟩
  | false =>
    refine hK.out _ _ ?_ (fun _ => ?_)
    · exact hHeld
    clear hK K
    try simp only [Act.put, List.setIfInBounds_toArray, List.set_cons_zero, List.set_cons_succ]
    refine tkY 4 ⟨some 13, .move (.tmp 12), 4, "ref.go:114", #[⟨3, .data⟩, ⟨3, .chain⟩], none⟩ ?v4z62 hHeld ?y4z62 ?r4z62
    case y4z62 => (intro w hSw; (try dsimp only at hSw); go_simp) <;> with_reducible rfl
    try simp only [Act.put, List.setIfInBounds_toArray, List.set_cons_zero, List.set_cons_succ]
    refine tkN 5 ⟨some 14, .fieldAddr 29 (.tmp 7) 1, 0, "ref.go:114", #[⟨4, .guard⟩], some (4, true)⟩ hHeld ?_
    try simp only [Act.put, List.setIfInBounds_toArray, List.set_cons_zero, List.set_cons_succ]
    refine tkN 6 ⟨some 15, .fieldAddr 27 (.tmp 14) 0, 0, "ref.go:114", #[⟨5, .data⟩, ⟨4, .guard⟩], some (4, true)⟩ hHeld ?_
    try simp only [Act.put, List.setIfInBounds_toArray, List.set_cons_zero, List.set_cons_succ]
    refine tkN 7 ⟨some 16, .load 3 (.tmp 15), 3, "ref.go:114", #[⟨6, .data⟩, ⟨4, .guard⟩], some (4, true)⟩ hHeld ?_
    try simp only [Act.put, List.setIfInBounds_toArray, List.set_cons_zero, List.set_cons_succ]
    refine tkN 8 ⟨some 17, .fieldAddr 29 (.tmp 7) 0, 0, "ref.go:114", #[⟨4, .guard⟩], some (4, true)⟩ hHeld ?_
    try simp only [Act.put, List.setIfInBounds_toArray, List.set_cons_zero, List.set_cons_succ]
    refine tkN 9 ⟨some 18, .fieldAddr 25 (.tmp 17) 0, 0, "ref.go:114", #[⟨8, .data⟩, ⟨4, .guard⟩], some (4, true)⟩ hHeld ?_
    try simp only [Act.put, List.setIfInBounds_toArray, List.set_cons_zero, List.set_cons_succ]
    refine tkN 10 ⟨some 19, .load 3 (.tmp 18), 3, "ref.go:114", #[⟨9, .data⟩, ⟨4, .guard⟩], some (4, true)⟩ hHeld ?_
    try simp only [Act.put, List.setIfInBounds_toArray, List.set_cons_zero, List.set_cons_succ]
    refine tkN 11 ⟨some 20, .binOp .eql 3 (.tmp 16) (.tmp 19) 3, 4, "ref.go:114", #[⟨7, .data⟩, ⟨10, .data⟩, ⟨4, .guard⟩], some (4, true)⟩ hHeld ?_
    try simp only [Act.put, List.setIfInBounds_toArray, List.set_cons_zero, List.set_cons_succ]
    refine tkY 12 ⟨some 21, .pick (.tmp 13) (.tmp 20) (.const (.bool false)), 4, "ref.go:114", #[⟨4, .data⟩, ⟨11, .data⟩], none⟩ ?v12z63 hHeld ?y12z63 ?r12z63
    case y12z63 => (intro w hSw; (try dsimp only at hSw); go_simp) <;> with_reducible rfl
    try simp only [Act.put, List.setIfInBounds_toArray, List.set_cons_zero, List.set_cons_succ]
    refine tkY 13 ⟨some 22, .move (.tmp 21), 4, "ref.go:114", #[⟨12, .data⟩, ⟨4, .chain⟩], none⟩ ?v13z64 hHeld ?y13z64 ?r13z64
    case y13z64 => (intro w hSw; (try dsimp only at hSw); go_simp) <;> with_reducible rfl
    try simp only [Act.put, List.setIfInBounds_toArray, List.set_cons_zero, List.set_cons_succ]
    refine tkN 14 ⟨some 23, .move (.tmp 0), 3, "ref.go:114", #[⟨13, .guard⟩], some (13, true)⟩ hHeld ?_
    try simp only [Act.put, List.setIfInBounds_toArray, List.set_cons_zero, List.set_cons_succ]
    refine tkN 15 ⟨some 24, .move (.tmp 2), 22, "ref.go:114", #[⟨13, .guard⟩], some (13, true)⟩ hHeld ?_
    try simp only [Act.put, List.setIfInBounds_toArray, List.set_cons_zero, List.set_cons_succ]
    refine tkN 16 ⟨some 25, .move (.tmp 1), 3, "ref.go:114", #[⟨13, .guard⟩], some (13, true)⟩ hHeld ?_
    try simp only [Act.put, List.setIfInBounds_toArray, List.set_cons_zero, List.set_cons_succ]
    refine tkN 17 ⟨some 26, .move (.tmp 0), 3, "ref.go:114", #[⟨13, .guard⟩], some (13, true)⟩ hHeld ?_
    try simp only [Act.put, List.setIfInBounds_toArray, List.set_cons_zero, List.set_cons_succ]
    refine tkN 18 ⟨some 27, .fieldAddr 29 (.tmp 7) 0, 0, "ref.go:114", #[⟨13, .guard⟩], some (13, true)⟩ hHeld ?_
    try simp only [Act.put, List.setIfInBounds_toArray, List.set_cons_zero, List.set_cons_succ]
    refine tkN 19 ⟨some 28, .load 25 (.tmp 27), 25, "ref.go:114", #[⟨18, .data⟩, ⟨13, .guard⟩], some (13, true)⟩ hHeld ?_
    try simp only [Act.put, List.setIfInBounds_toArray, List.set_cons_zero, List.set_cons_succ]
    refine tkN 20 ⟨some 29, .call { callee := .value (.func 35), args := #[.tmp 26, .tmp 28], argTypes := #[3, 25] }, 22, "ref.go:114", #[⟨17, .data⟩, ⟨19, .data⟩, ⟨13, .chain⟩, ⟨13, .guard⟩], some (13, true)⟩ hHeld ?_
    try simp only [Act.put, List.setIfInBounds_toArray, List.set_cons_zero, List.set_cons_succ]
    refine tkN 21 ⟨some 30, .fieldAddr 29 (.tmp 7) 1, 0, "ref.go:114", #[⟨13, .guard⟩], some (13, true)⟩ hHeld ?_
    try simp only [Act.put, List.setIfInBounds_toArray, List.set_cons_zero, List.set_cons_succ]
    refine tkN 22 ⟨some 31, .load 27 (.tmp 30), 27, "ref.go:114", #[⟨21, .data⟩, ⟨13, .guard⟩], some (13, true)⟩ hHeld ?_
    try simp only [Act.put, List.setIfInBounds_toArray, List.set_cons_zero, List.set_cons_succ]
    refine tkN 23 ⟨some 32, .call { callee := .value (.func 34), args := #[.tmp 23, .tmp 24, .tmp 25, .tmp 29, .tmp 31], argTypes := #[3, 22, 3, 22, 27] }, 4, "ref.go:114", #[⟨14, .data⟩, ⟨15, .data⟩, ⟨16, .data⟩, ⟨20, .data⟩, ⟨22, .data⟩, ⟨20, .chain⟩, ⟨13, .guard⟩], some (13, true)⟩ hHeld ?_
    try simp only [Act.put, List.setIfInBounds_toArray, List.set_cons_zero, List.set_cons_succ]
    refine tkY 24 ⟨some 33, .pick (.tmp 22) (.tmp 32) (.const (.bool false)), 4, "ref.go:114", #[⟨13, .data⟩, ⟨23, .data⟩], none⟩ ?v24z65 hHeld ?y24z65 ?r24z65
    case y24z65 => (intro w hSw; (try dsimp only at hSw); go_simp) <;> with_reducible rfl
    try simp only [Act.put, List.setIfInBounds_toArray, List.set_cons_zero, List.set_cons_succ]
    refine tkY 25 ⟨some 8, .assign (.tmp 33), 4, "ref.go:114", #[⟨24, .data⟩, ⟨23, .chain⟩, ⟨0, .phase⟩, ⟨1, .phase⟩, ⟨2, .phase⟩, ⟨3, .phase⟩, ⟨4, .phase⟩, ⟨5, .phase⟩, ⟨6, .phase⟩, ⟨7, .phase⟩, ⟨8, .phase⟩, ⟨9, .phase⟩, ⟨10, .phase⟩, ⟨11, .phase⟩, ⟨12, .phase⟩, ⟨13, .phase⟩, ⟨14, .phase⟩, ⟨15, .phase⟩, ⟨16, .phase⟩, ⟨17, .phase⟩, ⟨18, .phase⟩, ⟨19, .phase⟩, ⟨20, .phase⟩, ⟨21, .phase⟩, ⟨22, .phase⟩, ⟨23, .phase⟩, ⟨24, .phase⟩], none⟩ ?v25z66 hHeld ?y25z66 ?r25z66
    case y25z66 => (intro w hSw; (try dsimp only at hSw); go_simp) <;> with_reducible rfl
    try simp only [Act.put, List.setIfInBounds_toArray, List.set_cons_zero, List.set_cons_succ]
    refine wpAnyH_done (by kernel_rfl) ?_ _
    have HR : Hid ((canB size ⟨e, t, c, tr, li, lk⟩ && (decide (idx = e) && b)) = false) := by
      show _ = _
      rw [← HCB.out]
      rfl
    have HW : Hid (Below w.heap.size w _) := bA.trans (b2.mono bA.size)
    clear hHeld hcells
    go_wp2
    go_ret
    rw [HR.out]
    exact ⟨rfl, HW.out⟩

/-- Both Checks answer alike. -/
theorem checks_two (size height e t c idx : Int) (PB tr li : List UInt8) (lk ls ps : List (List UInt8)) :
    ∃ B : Bool, (∀ pb tv lv kv cv pv w, HB w pb PB → HB w tv tr → HB w lv li → PA w kv lk → PA w cv ls → PA w pv ps → TD w → Tabs w → Calls Tryz.prog 11 #[.int .i64 size, .int .i64 height, pb, .agg #[.int .i64 e, .int .i64 t, tv, .int .i64 c, lv, kv, .int .i64 idx, cv, pv]] w fun x w' => x = .returned (.bool B) ∧ Below w.heap.size w w') ∧
      (∀ pb tv lv kv cv pv w, HB w pb PB → HB w tv tr → HB w lv li → PA w kv lk → PA w cv ls → PA w pv ps → Calls Tryz.prog 12 #[.int .i64 size, .int .i64 height, pb, .agg #[.int .i64 e, .int .i64 t, tv, .int .i64 c, lv, kv, .int .i64 idx, cv, pv]] w fun x w' => x = .returned (.bool B) ∧ Below w.heap.size w w') := by
  obtain ⟨b, hA, hB⟩ := Vf.ver_all size height idx ls ps (hshF size ⟨e, t, c, tr, li, lk⟩) PB
  exact ⟨_, fun pb tv lv kv cv pv w h0 h1 h2 h3 h4 h5 hTD hT => check_any13 size height e t c idx pb tv lv kv cv pv PB tr li lk ls ps b w h0 h1 h2 h3 h4 h5 hTD hT hA, fun pb tv lv kv cv pv w h0 h1 h2 h3 h4 h5 => rcheck_any13 size height e t c idx pb tv lv kv cv pv PB tr li lk ls ps b w h0 h1 h2 h3 h4 h5 hB⟩

end Go.Proofs.YtganajmhdpiipaaGreatDoor
