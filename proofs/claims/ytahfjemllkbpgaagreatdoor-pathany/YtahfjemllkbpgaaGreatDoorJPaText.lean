/- What this text proves: the walks of path.side, parts.text, parts.ForkText and parts.Text over this program: the text of a part. (By program: held.py, mkpatext.py.) -/
import Derived.Test.YtahfjemllkbpgaaGreatDoorJP1
import Derived.Test.YtahfjemllkbpgaaGreatDoorJP2
import Derived.Test.YtahfjemllkbpgaaGreatDoorJK1
import Derived.Test.YtahfjemllkbpgaaGreatDoorJC1
import Derived.Test.YtahfjemllkbpgaaGreatDoorJHashT
import Derived.Test.YtahfjemllkbpgaaGreatDoorRegHeld
namespace Go.Proofs.YtahfjemllkbpgaaGreatDoor
open Go.RowKit

/-- To which kid a row goes. -/
def ownF (row : List UInt8) (d : Int) : Int := if bitF row d = 0 then 0 else 1

theorem side_any17 (rv : Value) (row : List UInt8) (d : Int) (w : World) (hr : HB w rv row) (h0 : -9223372036854775808 ≤ d) (h1 : d ≤ 9223372036854775807) :
    Calls Tryz.prog 29 #[rv, .int .i64 d] w fun y w' => y = .returned (.int .i64 (ownF row d)) ∧ w' = w := by
  have hB := bit_any rv row d w hr h0 h1
  obtain ⟨p, c, rfl⟩ := hr.shape
  unfold ownF
  generalize bitF row d = B at *
  by_cases h : B = 0
  · subst h
    rw [if_pos rfl]
    go_enter Tryz.func29, Tryz.ntmps29
    go_wp2_with fail
    refine hB.mono ?_
    rintro y w1 ⟨rfl, hw⟩
    subst hw
    go_wp2
    go_ret
    exact ⟨rfl, rfl⟩
  · have hn : (B == 0) = false := by simpa using h
    rw [if_neg h]
    go_enter Tryz.func29, Tryz.ntmps29
    go_wp2_with fail
    refine hB.mono ?_
    rintro y w1 ⟨rfl, hw⟩
    subst hw
    go_wp2
    go_ret
    exact ⟨rfl, rfl⟩

set_option maxRecDepth 100000 in
set_option maxHeartbeats 1000000 in
theorem txt_any (tag : Nat) (v : Value) (ls : List (List UInt8)) (w : World) (ht : tag ≤ 255) (h : PA w v ls) (hn : ls.length ≤ 10) (hf : fits ls) :
    Calls Tryz.prog 52 #[.int .i64 (tag : Int), v] w fun y w' => ∃ p c, y = .returned (.slice p (UInt8.ofNat tag :: body ls).length c) ∧ HB w' (.slice p (UInt8.ofNat tag :: body ls).length c) (UInt8.ofNat tag :: body ls) ∧ Below w.heap.size w w' ∧ TB w' (.slice p (UInt8.ofNat tag :: body ls).length c) := by
  have hT := (text_ok (tag : Int) v ls w (by omega) (by omega) h (by omega) hf).mono (R' := fun y w' => ∃ p c, y = .returned (.tuple #[.slice p (UInt8.ofNat tag :: body ls).length c, .int .i64 0]) ∧ HB w' (.slice p (UInt8.ofNat tag :: body ls).length c) (UInt8.ofNat tag :: body ls) ∧ Below w.heap.size w w' ∧ TB w' (.slice p (UInt8.ofNat tag :: body ls).length c)) (by
    rintro y w' ⟨v', rfl, ho, hb⟩
    have e : UInt8.ofNat (tag : Int).toNat :: body ls = UInt8.ofNat tag :: body ls := rfl
    rw [e] at ho
    have hh := HB.of_owns ho
    have hty := TB.of_owns ho
    obtain ⟨p, c, hv⟩ := hh.shape
    subst hv
    exact ⟨p, c, rfl, hh, hb, hty⟩)
  obtain ⟨p, c, rfl⟩ := h.shape
  generalize UInt8.ofNat tag :: body ls = T at *
  go_enter Tryz.func52, Tryz.ntmps52
  go_wp2_with fail
  refine hT.mono ?_
  rintro y w1 ⟨p1, c1, rfl, k1, hb1, t1⟩
  clear hT
  go_wp2
  go_ret
  exact ⟨p1, c1, rfl, k1, hb1, t1⟩

set_option maxRecDepth 100000 in
set_option maxHeartbeats 8000000 in
theorem forkText_any (d nw : Int) (pv av bv : Value) (pre a b : List UInt8) (w : World) (hp : HB w pv pre) (ha : HB w av a) (hb : HB w bv b) (h0 : -9223372036854775808 ≤ d) (h1 : d ≤ 9223372036854775807) (hl : pre.length ≤ 65535) (hla : a.length ≤ 65535) (hlb : b.length ≤ 65535) :
    Calls Tryz.prog 30 #[.int .i64 d, pv, .int .i64 nw, .agg #[av, bv]] w fun y w' => ∃ p c, y = .returned (.slice p (forkT d pre nw a b).length c) ∧ HB w' (.slice p (forkT d pre nw a b).length c) (forkT d pre nw a b) ∧ Below w.heap.size w w' ∧ TB w' (.slice p (forkT d pre nw a b).length c) := by
  obtain ⟨pp, cp, rfl⟩ := hp.shape
  obtain ⟨pa, ca, rfl⟩ := ha.shape
  obtain ⟨pb, cb, rfl⟩ := hb.shape
  have hN1 := fun W => number_to d W
  have hN2 := fun W => number_to nw W
  have hF := fun W h => first_any (.slice pp pre.length cp) pre d W h h0 h1 (by omega)
  have hT := fun v W h => txt_any 2 v [numB d, firstF pre d, numB nw, a, b] W (by decide) h (by simp) (by
    intro q hq
    have e1 := firstF_le pre d
    have e2 := numB_len d
    have e3 := numB_len nw
    simp only [List.mem_cons, List.not_mem_nil, or_false] at hq
    rcases hq with rfl | rfl | rfl | rfl | rfl <;> omega)
  have e : UInt8.ofNat 2 :: body [numB d, firstF pre d, numB nw, a, b] = forkT d pre nw a b := rfl
  simp only [e] at hT
  clear e
  generalize forkT d pre nw a b = T at *
  generalize numB d = A at *
  generalize numB nw = B at *
  generalize firstF pre d = C at *
  have bA := (Below.refl w.heap.size w).alloc (Nat.le_refl _) (.cells #[.slice pa a.length ca, .slice pb b.length cb] 60)
  have gA := heap_alloc_new w (.cells #[.slice pa a.length ca, .slice pb b.length cb] 60)
  obtain ⟨V, hV⟩ : ∃ V, w.alloc (.cells #[.slice pa a.length ca, .slice pb b.length cb] 60) = V := ⟨_, rfl⟩
  rw [hV] at bA gA
  have kr := hp.later bA
  have ka := ha.later bA
  have kb := hb.later bA
  have bD : Below V.heap.size V V.drew := (Below.refl _ V).drew
  have hcells : ∀ W, Below V.heap.size V W → W.cell? ⟨w.heap.size, 0, none⟩ = some (.slice pa a.length ca) ∧ W.cell? ⟨w.heap.size, 1, none⟩ = some (.slice pb b.length cb) := by
    intro W hb
    have g := (hb.block _ (Array.getElem?_eq_some_iff.1 gA).1).trans gA
    exact ⟨by rw [cell_of_row _ _ _ _ _ _ g]; rfl, by rw [cell_of_row _ _ _ _ _ _ g]; rfl⟩
  have hHeld := hcells _ bD
  clear hp ha hb gA hl hla hlb
  go_enter Tryz.func30, Tryz.ntmps30
  go_wp2
  refine wp_region_heldN (by kernel_rfl) (fun W => W.cell? ⟨w.heap.size, 0, none⟩ = some (.slice pa a.length ca) ∧ W.cell? ⟨w.heap.size, 1, none⟩ = some (.slice pb b.length cb)) 14 rfl ?_
  refine tkY 0 ⟨some 9, .move (.tmp 0), 3, "parts.go:92", #[], none⟩ ?v0z1 hHeld ?y0z1 ?r0z1
  case y0z1 => (intro w hSw; (try dsimp only at hSw); go_simp) <;> with_reducible rfl
  try simp only [Act.put, List.setIfInBounds_toArray, List.set_cons_zero, List.set_cons_succ]
  refine tkY 2 ⟨some 11, .move (.tmp 1), 22, "parts.go:92", #[], none⟩ ?v2z2 hHeld ?y2z2 ?r2z2
  case y2z2 => (intro w hSw; (try dsimp only at hSw); go_simp) <;> with_reducible rfl
  try simp only [Act.put, List.setIfInBounds_toArray, List.set_cons_zero, List.set_cons_succ]
  refine tkY 3 ⟨some 12, .move (.tmp 0), 3, "parts.go:92", #[], none⟩ ?v3z3 hHeld ?y3z3 ?r3z3
  case y3z3 => (intro w hSw; (try dsimp only at hSw); go_simp) <;> with_reducible rfl
  try simp only [Act.put, List.setIfInBounds_toArray, List.set_cons_zero, List.set_cons_succ]
  refine tkY 5 ⟨some 14, .move (.tmp 2), 3, "parts.go:92", #[], none⟩ ?v5z4 hHeld ?y5z4 ?r5z4
  case y5z4 => (intro w hSw; (try dsimp only at hSw); go_simp) <;> with_reducible rfl
  try simp only [Act.put, List.setIfInBounds_toArray, List.set_cons_zero, List.set_cons_succ]
  refine tkY 7 ⟨some 16, .indexAddr 60 (.tmp 7) (.const (.int .i64 0)), 0, "parts.go:92", #[], none⟩ ?v7z5 hHeld ?y7z5 ?r7z5
  case y7z5 => (intro w hSw; (try dsimp only at hSw); go_simp) <;> with_reducible rfl
  try simp only [Act.put, List.setIfInBounds_toArray, List.set_cons_zero, List.set_cons_succ]
  refine tkY 8 ⟨some 17, .load 22 (.tmp 16), 22, "parts.go:92", #[⟨7, .data⟩], none⟩ ?v8z6 hHeld ?y8z6 ?r8z6
  case y8z6 => (intro w hSw; (try dsimp only at hSw); go_simp) <;> with_reducible rfl
  try simp only [Act.put, List.setIfInBounds_toArray, List.set_cons_zero, List.set_cons_succ]
  refine tkY 9 ⟨some 18, .indexAddr 60 (.tmp 7) (.const (.int .i64 1)), 0, "parts.go:92", #[], none⟩ ?v9z7 hHeld ?y9z7 ?r9z7
  case y9z7 => (intro w hSw; (try dsimp only at hSw); go_simp) <;> with_reducible rfl
  try simp only [Act.put, List.setIfInBounds_toArray, List.set_cons_zero, List.set_cons_succ]
  refine tkY 10 ⟨some 19, .load 22 (.tmp 18), 22, "parts.go:92", #[⟨9, .data⟩], none⟩ ?v10z8 hHeld ?y10z8 ?r10z8
  case y10z8 => (intro w hSw; (try dsimp only at hSw); go_simp) <;> with_reducible rfl
  try simp only [Act.put, List.setIfInBounds_toArray, List.set_cons_zero, List.set_cons_succ]
  refine wpAnyH_ready (rs := [1]) (by kernel_rfl) (by simp) ?_
  refine AllReadyH.cons (o := ⟨some 10, .call { callee := .value (.func 53), args := #[.tmp 9], argTypes := #[3] }, 22, "parts.go:92", #[⟨0, .data⟩], none⟩) rfl (fun K hK => ?_) AllReadyH.nil
  go_simp
  refine (hN1 _).mono ?_
  rintro x w2 ⟨p2, c2, rfl, k2, hb2'⟩
  have hb2 := bD.trans (hb2'.mono bD.size)
  replace hHeld := hcells w2 hb2
  refine hK.out _ _ ?_ (fun _ => ?_)
  · exact hHeld
  clear hK K
  try simp only [Act.put, List.setIfInBounds_toArray, List.set_cons_zero, List.set_cons_succ]
  refine wpAnyH_ready (rs := [4]) (by kernel_rfl) (by simp) ?_
  refine AllReadyH.cons (o := ⟨some 13, .call { callee := .value (.func 55), args := #[.tmp 11, .tmp 12], argTypes := #[22, 3] }, 22, "parts.go:92", #[⟨2, .data⟩, ⟨3, .data⟩, ⟨1, .chain⟩], none⟩) rfl (fun K hK => ?_) AllReadyH.nil
  go_simp
  refine (hF _ (kr.later hb2)).mono ?_
  rintro x w3 ⟨p3, c3, rfl, k3, hb3'⟩
  have hb3 := hb2.trans (hb3'.mono hb2.size)
  have k2' := k2.later hb3'
  replace hHeld := hcells w3 hb3
  clear k2
  refine hK.out _ _ ?_ (fun _ => ?_)
  · exact hHeld
  clear hK K
  try simp only [Act.put, List.setIfInBounds_toArray, List.set_cons_zero, List.set_cons_succ]
  refine wpAnyH_ready (rs := [6]) (by kernel_rfl) (by simp) ?_
  refine AllReadyH.cons (o := ⟨some 15, .call { callee := .value (.func 53), args := #[.tmp 14], argTypes := #[3] }, 22, "parts.go:92", #[⟨5, .data⟩, ⟨4, .chain⟩], none⟩) rfl (fun K hK => ?_) AllReadyH.nil
  go_simp
  refine (hN2 _).mono ?_
  rintro x w4 ⟨p4, c4, rfl, k4, hb4'⟩
  have hb4 := hb3.trans (hb4'.mono hb3.size)
  have k2 := k2'.later hb4'
  have k3' := k3.later hb4'
  replace hHeld := hcells w4 hb4
  have ka4 := ka.later hb4
  have kb4 := kb.later hb4
  have bB := hb4.alloc hb4.size (.cells #[.slice p2 8 c2, .slice p3 C.length c3, .slice p4 8 c4, .slice pa a.length ca, .slice pb b.length cb] 22)
  have hpa := PA.lit w4 22 [_, _, _, _, _] _ 5 rfl rfl (by decide) (five_hb k2 k3' k4 ka4 kb4)
  clear k2' k3 ka kb
  refine hK.out _ _ ?_ (fun _ => ?_)
  · exact hHeld
  clear hK K
  try simp only [Act.put, List.setIfInBounds_toArray, List.set_cons_zero, List.set_cons_succ]
  refine wpAnyH_ready (rs := [11]) (by kernel_rfl) (by simp) ?_
  refine AllReadyH.cons (o := ⟨some 20, .buildSlice 38 5 #[(0, .tmp 10), (1, .tmp 13), (2, .tmp 15), (3, .tmp 17), (4, .tmp 19)], 38, "parts.go:92", #[⟨1, .data⟩, ⟨4, .data⟩, ⟨6, .data⟩, ⟨8, .data⟩, ⟨10, .data⟩], none⟩) rfl (fun K hK => ?_) AllReadyH.nil
  go_simp
  replace hHeld := hcells _ bB
  refine hK.out _ _ ?_ (fun _ => ?_)
  · exact hHeld
  clear hK K
  try simp only [Act.put, List.setIfInBounds_toArray, List.set_cons_zero, List.set_cons_succ]
  refine wpAnyH_ready (rs := [12]) (by kernel_rfl) (by simp) ?_
  refine AllReadyH.cons (o := ⟨some 21, .call { callee := .value (.func 52), args := #[.const (.int .i64 2), .tmp 20], argTypes := #[3, 38] }, 22, "parts.go:92", #[⟨11, .data⟩, ⟨6, .chain⟩], none⟩) rfl (fun K hK => ?_) AllReadyH.nil
  go_simp
  refine (hT _ _ hpa).mono ?_
  rintro x w6 ⟨p6, c6, rfl, k6, hb6', t6⟩
  have hb6 := bB.trans (hb6'.mono bB.size)
  replace hHeld := hcells w6 hb6
  refine hK.out _ _ ?_ (fun _ => ?_)
  · exact hHeld
  clear hK K
  try simp only [Act.put, List.setIfInBounds_toArray, List.set_cons_zero, List.set_cons_succ]
  refine tkY 13 ⟨some 8, .assign (.tmp 21), 22, "parts.go:92", #[⟨12, .data⟩, ⟨12, .chain⟩, ⟨0, .phase⟩, ⟨1, .phase⟩, ⟨2, .phase⟩, ⟨3, .phase⟩, ⟨4, .phase⟩, ⟨5, .phase⟩, ⟨6, .phase⟩, ⟨7, .phase⟩, ⟨8, .phase⟩, ⟨9, .phase⟩, ⟨10, .phase⟩, ⟨11, .phase⟩, ⟨12, .phase⟩], none⟩ ?v13z9 hHeld ?y13z9 ?r13z9
  case y13z9 => (intro w hSw; (try dsimp only at hSw); go_simp) <;> with_reducible rfl
  try simp only [Act.put, List.setIfInBounds_toArray, List.set_cons_zero, List.set_cons_succ]
  refine wpAnyH_done (by kernel_rfl) ?_ _
  have HW : Hid (Below w.heap.size w w6) := bA.trans (hb6.mono bA.size)
  clear hHeld hcells bA bD bB hb6 hb6' hb4 hb4' hb3 hb3' hb2 hb2' hpa k2 k3' k4 ka4 kb4 kr hN1 hN2 hF hT
  go_wp2
  go_ret
  exact ⟨_, _, rfl, k6, HW.out, t6⟩

set_option maxRecDepth 100000 in
set_option maxHeartbeats 8000000 in
theorem leafText_any (id key : List UInt8) (si d nw : Int) (pi pk pp pl pr pq : Option Addr) (g e f n ci ck cp cl cr cq : Nat) (av bv : Value) (w : World) (hi : HB w (.slice pi id.length ci) id) (hk : HB w (.slice pk key.length ck) key) (hl : id.length ≤ 65535) (hlk : key.length ≤ 65535) :
    Calls Tryz.prog 28 #[.agg #[.int .i64 1, .slice pi id.length ci, .slice pk key.length ck, .int .i64 si, .int .i64 d, .slice pp g cp, .int .i64 nw, .slice pl e cl, .slice pr f cr, .slice pq n cq], .agg #[av, bv]] w fun y w' => ∃ p c, y = .returned (.slice p (leafT id key si).length c) ∧ HB w' (.slice p (leafT id key si).length c) (leafT id key si) ∧ Below w.heap.size w w' ∧ TB w' (.slice p (leafT id key si).length c) := by
  have hN1 := fun W => number_to si W
  have hT := fun v W h => txt_any 1 v [id, key, numB si] W (by decide) h (by simp) (by
    intro q hq
    have e2 := numB_len si
    simp only [List.mem_cons, List.not_mem_nil, or_false] at hq
    rcases hq with rfl | rfl | rfl <;> omega)
  have e : UInt8.ofNat 1 :: body [id, key, numB si] = leafT id key si := rfl
  simp only [e] at hT
  clear e
  generalize leafT id key si = T at *
  generalize numB si = A at *
  have bA := ((Below.refl w.heap.size w).alloc (Nat.le_refl _) (.cells #[.int .i64 1, .slice pi id.length ci, .slice pk key.length ck, .int .i64 si, .int .i64 d, .slice pp g cp, .int .i64 nw, .slice pl e cl, .slice pr f cr, .slice pq n cq] 26)).alloc (by simp) (.cells #[av, bv] 60)
  have gA := heap_alloc_new w (.cells #[.int .i64 1, .slice pi id.length ci, .slice pk key.length ck, .int .i64 si, .int .i64 d, .slice pp g cp, .int .i64 nw, .slice pl e cl, .slice pr f cr, .slice pq n cq] 26)
  have gA2 : (((w.alloc (.cells #[.int .i64 1, .slice pi id.length ci, .slice pk key.length ck, .int .i64 si, .int .i64 d, .slice pp g cp, .int .i64 nw, .slice pl e cl, .slice pr f cr, .slice pq n cq] 26)).alloc (.cells #[av, bv] 60))).heap[w.heap.size]? = some (.cells #[.int .i64 1, .slice pi id.length ci, .slice pk key.length ck, .int .i64 si, .int .i64 d, .slice pp g cp, .int .i64 nw, .slice pl e cl, .slice pr f cr, .slice pq n cq] 26 (0, 0)) := by
    rw [((Below.refl _ (w.alloc (.cells #[.int .i64 1, .slice pi id.length ci, .slice pk key.length ck, .int .i64 si, .int .i64 d, .slice pp g cp, .int .i64 nw, .slice pl e cl, .slice pr f cr, .slice pq n cq] 26))).alloc (Nat.le_refl _) (.cells #[av, bv] 60)).block _ (by simp)]
    exact gA
  obtain ⟨V, hV⟩ : ∃ V, (w.alloc (.cells #[.int .i64 1, .slice pi id.length ci, .slice pk key.length ck, .int .i64 si, .int .i64 d, .slice pp g cp, .int .i64 nw, .slice pl e cl, .slice pr f cr, .slice pq n cq] 26)).alloc (.cells #[av, bv] 60) = V := ⟨_, rfl⟩
  rw [hV] at bA gA2
  have ka := hi.later bA
  have kb := hk.later bA
  have bD : Below V.heap.size V V.drew := (Below.refl _ V).drew
  have hcells : ∀ W, Below V.heap.size V W → W.cell? ⟨w.heap.size, 1, none⟩ = some (.slice pi id.length ci) ∧ W.cell? ⟨w.heap.size, 2, none⟩ = some (.slice pk key.length ck) ∧ W.cell? ⟨w.heap.size, 3, none⟩ = some (.int .i64 si) := by
    intro W hb
    have g := (hb.block _ (Array.getElem?_eq_some_iff.1 gA2).1).trans gA2
    exact ⟨by rw [cell_of_row _ _ _ _ _ _ g]; rfl, by rw [cell_of_row _ _ _ _ _ _ g]; rfl, by rw [cell_of_row _ _ _ _ _ _ g]; rfl⟩
  have hHeld := hcells _ bD
  have hK : V.cell? ⟨w.heap.size, 0, none⟩ = some (.int .i64 1) := by rw [cell_of_row _ _ _ _ _ _ gA2]; rfl
  clear hi hk gA gA2 hl hlk
  go_enter Tryz.func28, Tryz.ntmps28
  go_wp2
  refine wp_region_heldN (by kernel_rfl) (fun W => W.cell? ⟨w.heap.size, 1, none⟩ = some (.slice pi id.length ci) ∧ W.cell? ⟨w.heap.size, 2, none⟩ = some (.slice pk key.length ck) ∧ W.cell? ⟨w.heap.size, 3, none⟩ = some (.int .i64 si)) 10 rfl ?_
  refine tkY 0 ⟨some 12, .fieldAddr 26 (.tmp 2) 1, 0, "parts.go:85", #[], none⟩ ?v0z10 hHeld ?y0z10 ?r0z10
  case y0z10 => (intro w hSw; (try dsimp only at hSw); go_simp) <;> with_reducible rfl
  try simp only [Act.put, List.setIfInBounds_toArray, List.set_cons_zero, List.set_cons_succ]
  refine tkY 1 ⟨some 13, .load 22 (.tmp 12), 22, "parts.go:85", #[⟨0, .data⟩], none⟩ ?v1z11 hHeld ?y1z11 ?r1z11
  case y1z11 => (intro w hSw; (try dsimp only at hSw); go_simp) <;> with_reducible rfl
  try simp only [Act.put, List.setIfInBounds_toArray, List.set_cons_zero, List.set_cons_succ]
  refine tkY 2 ⟨some 14, .fieldAddr 26 (.tmp 2) 2, 0, "parts.go:85", #[], none⟩ ?v2z12 hHeld ?y2z12 ?r2z12
  case y2z12 => (intro w hSw; (try dsimp only at hSw); go_simp) <;> with_reducible rfl
  try simp only [Act.put, List.setIfInBounds_toArray, List.set_cons_zero, List.set_cons_succ]
  refine tkY 3 ⟨some 15, .load 22 (.tmp 14), 22, "parts.go:85", #[⟨2, .data⟩], none⟩ ?v3z13 hHeld ?y3z13 ?r3z13
  case y3z13 => (intro w hSw; (try dsimp only at hSw); go_simp) <;> with_reducible rfl
  try simp only [Act.put, List.setIfInBounds_toArray, List.set_cons_zero, List.set_cons_succ]
  refine tkY 4 ⟨some 16, .fieldAddr 26 (.tmp 2) 3, 0, "parts.go:85", #[], none⟩ ?v4z14 hHeld ?y4z14 ?r4z14
  case y4z14 => (intro w hSw; (try dsimp only at hSw); go_simp) <;> with_reducible rfl
  try simp only [Act.put, List.setIfInBounds_toArray, List.set_cons_zero, List.set_cons_succ]
  refine tkY 5 ⟨some 17, .load 3 (.tmp 16), 3, "parts.go:85", #[⟨4, .data⟩], none⟩ ?v5z15 hHeld ?y5z15 ?r5z15
  case y5z15 => (intro w hSw; (try dsimp only at hSw); go_simp) <;> with_reducible rfl
  try simp only [Act.put, List.setIfInBounds_toArray, List.set_cons_zero, List.set_cons_succ]
  refine wpAnyH_ready (rs := [6]) (by kernel_rfl) (by simp) ?_
  refine AllReadyH.cons (o := ⟨some 18, .call { callee := .value (.func 53), args := #[.tmp 17], argTypes := #[3] }, 22, "parts.go:85", #[⟨5, .data⟩], none⟩) rfl (fun K hK => ?_) AllReadyH.nil
  go_simp
  refine (hN1 _).mono ?_
  rintro x w2 ⟨p2, c2, rfl, k2, hb2'⟩
  have hb2 := bD.trans (hb2'.mono bD.size)
  replace hHeld := hcells w2 hb2
  have ka4 := ka.later hb2
  have kb4 := kb.later hb2
  have bB := hb2.alloc hb2.size (.cells #[.slice pi id.length ci, .slice pk key.length ck, .slice p2 8 c2] 22)
  have hpa := PA.lit w2 22 [_, _, _] _ 3 rfl rfl (by decide) (three_hb ka4 kb4 k2)
  clear ka kb
  refine hK.out _ _ ?_ (fun _ => ?_)
  · exact hHeld
  clear hK K
  try simp only [Act.put, List.setIfInBounds_toArray, List.set_cons_zero, List.set_cons_succ]
  refine wpAnyH_ready (rs := [7]) (by kernel_rfl) (by simp) ?_
  refine AllReadyH.cons (o := ⟨some 19, .buildSlice 38 3 #[(0, .tmp 13), (1, .tmp 15), (2, .tmp 18)], 38, "parts.go:85", #[⟨1, .data⟩, ⟨3, .data⟩, ⟨6, .data⟩], none⟩) rfl (fun K hK => ?_) AllReadyH.nil
  go_simp
  replace hHeld := hcells _ bB
  refine hK.out _ _ ?_ (fun _ => ?_)
  · exact hHeld
  clear hK K
  try simp only [Act.put, List.setIfInBounds_toArray, List.set_cons_zero, List.set_cons_succ]
  refine wpAnyH_ready (rs := [8]) (by kernel_rfl) (by simp) ?_
  refine AllReadyH.cons (o := ⟨some 20, .call { callee := .value (.func 52), args := #[.const (.int .i64 1), .tmp 19], argTypes := #[3, 38] }, 22, "parts.go:85", #[⟨7, .data⟩, ⟨6, .chain⟩], none⟩) rfl (fun K hK => ?_) AllReadyH.nil
  go_simp
  refine (hT _ _ hpa).mono ?_
  rintro x w6 ⟨p6, c6, rfl, k6, hb6', t6⟩
  have hb6 := bB.trans (hb6'.mono bB.size)
  replace hHeld := hcells w6 hb6
  refine hK.out _ _ ?_ (fun _ => ?_)
  · exact hHeld
  clear hK K
  try simp only [Act.put, List.setIfInBounds_toArray, List.set_cons_zero, List.set_cons_succ]
  refine tkY 9 ⟨some 4, .assign (.tmp 20), 22, "parts.go:85", #[⟨8, .data⟩, ⟨8, .chain⟩, ⟨0, .phase⟩, ⟨1, .phase⟩, ⟨2, .phase⟩, ⟨3, .phase⟩, ⟨4, .phase⟩, ⟨5, .phase⟩, ⟨6, .phase⟩, ⟨7, .phase⟩, ⟨8, .phase⟩], none⟩ ?v9z16 hHeld ?y9z16 ?r9z16
  case y9z16 => (intro w hSw; (try dsimp only at hSw); go_simp) <;> with_reducible rfl
  try simp only [Act.put, List.setIfInBounds_toArray, List.set_cons_zero, List.set_cons_succ]
  refine wpAnyH_done (by kernel_rfl) ?_ _
  have HW : Hid (Below w.heap.size w w6) := bA.trans (hb6.mono bA.size)
  clear hHeld hcells bA bD bB hb6 hb6' hb2 hb2' hpa k2 ka4 kb4 hN1 hT
  go_wp2
  go_ret
  exact ⟨_, _, rfl, k6, HW.out, t6⟩

set_option maxRecDepth 100000 in
set_option maxHeartbeats 4000000 in
theorem partText_any (x : Pt) (pi pk pp pl pr pq : Option Addr) (ci ck cp cl cr cq : Nat) (av bv : Value) (a b : List UInt8) (w : World) (hi : HB w (.slice pi x.id.length ci) x.id) (hk : HB w (.slice pk x.key.length ck) x.key) (hp : HB w (.slice pp x.pre.length cp) x.pre) (ha : HB w av a) (hb : HB w bv b)
    (h0 : -9223372036854775808 ≤ x.d) (h1 : x.d ≤ 9223372036854775807) (l1 : x.id.length ≤ 65535) (l2 : x.key.length ≤ 65535) (l3 : x.pre.length ≤ 65535) (l4 : a.length ≤ 65535) (l5 : b.length ≤ 65535) :
    Calls Tryz.prog 28 #[.agg #[.int .i64 x.k, .slice pi x.id.length ci, .slice pk x.key.length ck, .int .i64 x.si, .int .i64 x.d, .slice pp x.pre.length cp, .int .i64 x.nw, .slice pl x.l.length cl, .slice pr x.r.length cr, .slice pq x.kids cq], .agg #[av, bv]] w fun y w' => ∃ p c, y = .returned (.slice p (partT x a b).length c) ∧ HB w' (.slice p (partT x a b).length c) (partT x a b) ∧ Below w.heap.size w w' ∧ TB w' (.slice p (partT x a b).length c) := by
  obtain ⟨k, id, key, si, d, pre, nw, l, r, n⟩ := x
  dsimp only at *
  by_cases k0 : k = 0
  · subst k0
    have hT := fun W => txt_any 0 (.slice none 0 0) [] W (by decide) (PA.nil W) (by simp) (by intro q hq; cases hq)
    have e : UInt8.ofNat 0 :: body [] = partT ⟨0, id, key, si, d, pre, nw, l, r, n⟩ a b := by simp [partT, body]
    simp only [e] at hT
    clear e
    generalize partT ⟨0, id, key, si, d, pre, nw, l, r, n⟩ a b = T at *
    have bA := ((Below.refl w.heap.size w).alloc (Nat.le_refl _) (.cells #[.int .i64 0, .slice pi id.length ci, .slice pk key.length ck, .int .i64 si, .int .i64 d, .slice pp pre.length cp, .int .i64 nw, .slice pl l.length cl, .slice pr r.length cr, .slice pq n cq] 26)).alloc (by simp) (.cells #[av, bv] 60)
    clear hi hk hp ha hb l1 l2 l3 l4 l5
    go_enter Tryz.func28, Tryz.ntmps28
    go_wp2_with fail
    refine (hT _).mono ?_
    rintro y w1 ⟨p1, c1, rfl, k1, hb1, t1⟩
    have HW := bA.trans (hb1.mono bA.size)
    clear bA hb1 hT
    go_wp2
    go_ret
    exact ⟨_, _, rfl, k1, HW, t1⟩
  · by_cases k1 : k = 1
    · subst k1
      have e : partT ⟨1, id, key, si, d, pre, nw, l, r, n⟩ a b = leafT id key si := by simp [partT]
      rw [e]
      exact leafText_any id key si d nw pi pk pp pl pr pq _ _ _ _ ci ck cp cl cr cq av bv w hi hk l1 l2
    · have e : partT ⟨k, id, key, si, d, pre, nw, l, r, n⟩ a b = forkT d pre nw a b := by simp [partT, k0, k1]
      rw [e]
      clear e
      have n0 : (k == 0) = false := by simpa using k0
      have n1 : (k == 1) = false := by simpa using k1
      have hF := fun W h2 h3 h4 => forkText_any d nw (.slice pp pre.length cp) av bv pre a b W h2 h3 h4 h0 h1 l3 l4 l5
      generalize forkT d pre nw a b = T at *
      have bA := ((Below.refl w.heap.size w).alloc (Nat.le_refl _) (.cells #[.int .i64 k, .slice pi id.length ci, .slice pk key.length ck, .int .i64 si, .int .i64 d, .slice pp pre.length cp, .int .i64 nw, .slice pl l.length cl, .slice pr r.length cr, .slice pq n cq] 26)).alloc (by simp) (.cells #[av, bv] 60)
      have hp1 := hp.later bA
      have ha1 := ha.later bA
      have hb1 := hb.later bA
      obtain ⟨pa, ca, rfl⟩ := ha.shape
      obtain ⟨pb, cb, rfl⟩ := hb.shape
      clear hi hk hp ha hb l1 l2 l3 l4 l5
      go_enter Tryz.func28, Tryz.ntmps28
      go_wp2_with fail
      refine (hF _ hp1 ha1 hb1).mono ?_
      rintro y w1 ⟨p1, c1, rfl, k1, hx1, t1⟩
      have HW := bA.trans (hx1.mono bA.size)
      clear bA hx1 hF
      go_wp2
      go_ret
      exact ⟨_, _, rfl, k1, HW, t1⟩

end Go.Proofs.YtahfjemllkbpgaaGreatDoor
