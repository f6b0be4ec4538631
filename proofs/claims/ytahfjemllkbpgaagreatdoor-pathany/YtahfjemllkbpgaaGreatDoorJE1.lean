/- What this text proves: the walk of path.ends over this program: whether a way may end so behind hops that had it share so many bits. (By program: mkpaends.py.) What this text proves: the walk of path.down over this program: how many bits hops have a row share, and whether they may be. What this text proves: the walk of path.Check over this program: whether it may be a way of the identity. -/
import Derived.Test.YtahfjemllkbpgaaGreatDoorJP2
import Derived.Test.YtahfjemllkbpgaaGreatDoorJP1
import Derived.Test.YtahfjemllkbpgaaGreatDoorJK2
namespace Go.Proofs.YtahfjemllkbpgaaGreatDoor
open Go.RowKit

theorem shaped_pre {size : Int} {x : Pt} (h : shapedB size x = true) : x.pre.length ≤ 257 := by
  unfold shapedB noLeafB noForkB isLeafB isForkB at h
  split at h
  · simp only [Bool.and_eq_true, decide_eq_true_eq] at h
    obtain ⟨⟨a1, a2, a3⟩, ⟨b1, b2, b3⟩, c1, c2⟩ := h
    omega
  · split at h
    · simp only [Bool.and_eq_true, decide_eq_true_eq] at h
      obtain ⟨⟨a1, a2, a3⟩, ⟨b1, b2, b3⟩, c1, c2⟩ := h
      omega
    · split at h
      · simp only [Bool.and_eq_true, decide_eq_true_eq] at h
        obtain ⟨⟨a1, a2, a3⟩, ⟨b1, b2, b3, b4, b5⟩, c1, c2, c3⟩ := h
        omega
      · split at h
        · simp only [Bool.and_eq_true, decide_eq_true_eq] at h
          obtain ⟨⟨a1, a2, a3⟩, ⟨b1, b2, b3, b4, b5⟩, c1, c2⟩ := h
          omega
        · cases h

set_option maxRecDepth 100000 in
set_option maxHeartbeats 4000000 in
theorem ends_K0 (size s : Int) (rv : Value) (row : List UInt8) (x : Pt) (pi pk pp pl pr pq : Option Addr) (ci ck cp cl cr cq : Nat) (w : World) (hr : HB w rv row) (_hrow : row.length ≤ 256) (hi : HB w (.slice pi x.id.length ci) x.id) (hp : HB w (.slice pp x.pre.length cp) x.pre) (ml : x.l.length ≤ maxLen) (mr : x.r.length ≤ maxLen) (hk : x.k = 0) :
    Calls Tryz.prog 23 #[.int .i64 size, rv, .int .i64 s, .agg #[.int .i64 x.k, .slice pi x.id.length ci, .slice pk x.key.length ck, .int .i64 x.si, .int .i64 x.d, .slice pp x.pre.length cp, .int .i64 x.nw, .slice pl x.l.length cl, .slice pr x.r.length cr, .slice pq x.kids cq]] w fun e w' => e = .returned (.bool (endsB size row s x)) ∧ Below w.heap.size w w' := by
  obtain ⟨k, id, key, si, d, pre, nw, l, r, n⟩ := x
  dsimp only at *
  subst hk
  obtain ⟨pv, cv, rfl⟩ := hr.shape
  have FSh := fun W h => shaped_any size ⟨0, id, key, si, d, pre, nw, l, r, n⟩ pi pk pp pl pr pq ci ck cp cl cr cq W h ml mr
  have HS : Hid (endsB size row s ⟨0, id, key, si, d, pre, nw, l, r, n⟩ = (shapedB size ⟨0, id, key, si, d, pre, nw, l, r, n⟩ && decide (s = 0))) := by
    show _ = _
    unfold endsB
    dsimp only
    rw [if_pos rfl]
  have hBP : shapedB size ⟨0, id, key, si, d, pre, nw, l, r, n⟩ = true → pre.length ≤ 257 := fun h => shaped_pre h
  generalize endsB size row s ⟨0, id, key, si, d, pre, nw, l, r, n⟩ = R at *
  generalize shapedB size ⟨0, id, key, si, d, pre, nw, l, r, n⟩ = B at *
  have bA := (Below.refl w.heap.size w).alloc (Nat.le_refl _) (.cells #[.int .i64 0, .slice pi id.length ci, .slice pk key.length ck, .int .i64 si, .int .i64 d, .slice pp pre.length cp, .int .i64 nw, .slice pl l.length cl, .slice pr r.length cr, .slice pq n cq] 26)
  have gA := heap_alloc_new w (.cells #[.int .i64 0, .slice pi id.length ci, .slice pk key.length ck, .int .i64 si, .int .i64 d, .slice pp pre.length cp, .int .i64 nw, .slice pl l.length cl, .slice pr r.length cr, .slice pq n cq] 26)
  obtain ⟨V, hV⟩ : ∃ V, w.alloc (.cells #[.int .i64 0, .slice pi id.length ci, .slice pk key.length ck, .int .i64 si, .int .i64 d, .slice pp pre.length cp, .int .i64 nw, .slice pl l.length cl, .slice pr r.length cr, .slice pq n cq] 26) = V := ⟨_, rfl⟩
  rw [hV] at bA gA
  have kp := hp.later bA
  have ki := hi.later bA
  have kr := hr.later bA
  have hcells : ∀ W, Below V.heap.size V W → W.heap[w.heap.size]? = some (.cells #[.int .i64 0, .slice pi id.length ci, .slice pk key.length ck, .int .i64 si, .int .i64 d, .slice pp pre.length cp, .int .i64 nw, .slice pl l.length cl, .slice pr r.length cr, .slice pq n cq] 26 (0, 0)) := fun W hb => (hb.block _ (Array.getElem?_eq_some_iff.1 gA).1).trans gA
  have hbV : Below V.heap.size V V := Below.refl _ V
  obtain ⟨q0, q1, q2, q3, q4, q5, q6, q7, q8, q9⟩ := cells10 (hcells _ hbV)
  clear hp gA hi hr
  go_enter Tryz.func23, Tryz.ntmps23
  go_wp2_with fail
  refine (FSh _ (kp.later hbV)).mono ?_
  rintro e w1 ⟨rfl, hx1⟩
  have hb1 := hbV.trans (hx1.mono hbV.size)
  clear hx1 hbV q0 q1 q2 q3 q4 q5 q6 q7 q8 q9
  obtain ⟨q0, q1, q2, q3, q4, q5, q6, q7, q8, q9⟩ := cells10 (hcells w1 hb1)
  cases B with
  | false =>
    have HW := bA.trans (hb1.mono bA.size)
    clear bA hb1
    go_wp2
    go_ret
    rw [HS.out]
    exact ⟨by simp, HW⟩
  | true =>
    have mp := hBP rfl
    clear hBP
    clear mp
    have HW := bA.trans (hb1.mono bA.size)
    clear bA hb1
    by_cases h1 : s = 0
    · have t1 : (s == 0) = true := by simpa using h1
      go_wp2
      go_ret
      rw [HS.out]
      exact ⟨by simp [*], HW⟩
    · have t1 : (s == 0) = false := by simpa using h1
      go_wp2
      go_ret
      rw [HS.out]
      exact ⟨by simp [*], HW⟩

set_option maxRecDepth 100000 in
set_option maxHeartbeats 4000000 in
theorem ends_K1 (size s : Int) (rv : Value) (row : List UInt8) (x : Pt) (pi pk pp pl pr pq : Option Addr) (ci ck cp cl cr cq : Nat) (w : World) (hr : HB w rv row) (_hrow : row.length ≤ 256) (hi : HB w (.slice pi x.id.length ci) x.id) (hp : HB w (.slice pp x.pre.length cp) x.pre) (ml : x.l.length ≤ maxLen) (mr : x.r.length ≤ maxLen) (hk : x.k = 1) :
    Calls Tryz.prog 23 #[.int .i64 size, rv, .int .i64 s, .agg #[.int .i64 x.k, .slice pi x.id.length ci, .slice pk x.key.length ck, .int .i64 x.si, .int .i64 x.d, .slice pp x.pre.length cp, .int .i64 x.nw, .slice pl x.l.length cl, .slice pr x.r.length cr, .slice pq x.kids cq]] w fun e w' => e = .returned (.bool (endsB size row s x)) ∧ Below w.heap.size w w' := by
  obtain ⟨k, id, key, si, d, pre, nw, l, r, n⟩ := x
  dsimp only at *
  subst hk
  obtain ⟨pv, cv, rfl⟩ := hr.shape
  have FSh := fun W h => shaped_any size ⟨1, id, key, si, d, pre, nw, l, r, n⟩ pi pk pp pl pr pq ci ck cp cl cr cq W h ml mr
  have HS : Hid (endsB size row s ⟨1, id, key, si, d, pre, nw, l, r, n⟩ = (shapedB size ⟨1, id, key, si, d, pre, nw, l, r, n⟩ && decide (s ≤ (com (keyF id) row : Int)))) := by
    show _ = _
    unfold endsB
    dsimp only
    rw [if_neg (show ¬ (1 : Int) = 0 by decide), if_pos rfl]
  have hBP : shapedB size ⟨1, id, key, si, d, pre, nw, l, r, n⟩ = true → pre.length ≤ 257 := fun h => shaped_pre h
  generalize endsB size row s ⟨1, id, key, si, d, pre, nw, l, r, n⟩ = R at *
  generalize shapedB size ⟨1, id, key, si, d, pre, nw, l, r, n⟩ = B at *
  have bA := (Below.refl w.heap.size w).alloc (Nat.le_refl _) (.cells #[.int .i64 1, .slice pi id.length ci, .slice pk key.length ck, .int .i64 si, .int .i64 d, .slice pp pre.length cp, .int .i64 nw, .slice pl l.length cl, .slice pr r.length cr, .slice pq n cq] 26)
  have gA := heap_alloc_new w (.cells #[.int .i64 1, .slice pi id.length ci, .slice pk key.length ck, .int .i64 si, .int .i64 d, .slice pp pre.length cp, .int .i64 nw, .slice pl l.length cl, .slice pr r.length cr, .slice pq n cq] 26)
  obtain ⟨V, hV⟩ : ∃ V, w.alloc (.cells #[.int .i64 1, .slice pi id.length ci, .slice pk key.length ck, .int .i64 si, .int .i64 d, .slice pp pre.length cp, .int .i64 nw, .slice pl l.length cl, .slice pr r.length cr, .slice pq n cq] 26) = V := ⟨_, rfl⟩
  rw [hV] at bA gA
  have kp := hp.later bA
  have ki := hi.later bA
  have kr := hr.later bA
  have hcells : ∀ W, Below V.heap.size V W → W.heap[w.heap.size]? = some (.cells #[.int .i64 1, .slice pi id.length ci, .slice pk key.length ck, .int .i64 si, .int .i64 d, .slice pp pre.length cp, .int .i64 nw, .slice pl l.length cl, .slice pr r.length cr, .slice pq n cq] 26 (0, 0)) := fun W hb => (hb.block _ (Array.getElem?_eq_some_iff.1 gA).1).trans gA
  have hbV : Below V.heap.size V V := Below.refl _ V
  obtain ⟨q0, q1, q2, q3, q4, q5, q6, q7, q8, q9⟩ := cells10 (hcells _ hbV)
  clear hp gA hi hr
  go_enter Tryz.func23, Tryz.ntmps23
  go_wp2_with fail
  refine (FSh _ (kp.later hbV)).mono ?_
  rintro e w1 ⟨rfl, hx1⟩
  have hb1 := hbV.trans (hx1.mono hbV.size)
  clear hx1 hbV q0 q1 q2 q3 q4 q5 q6 q7 q8 q9
  obtain ⟨q0, q1, q2, q3, q4, q5, q6, q7, q8, q9⟩ := cells10 (hcells w1 hb1)
  cases B with
  | false =>
    have HW := bA.trans (hb1.mono bA.size)
    clear bA hb1
    go_wp2
    go_ret
    rw [HS.out]
    exact ⟨by simp, HW⟩
  | true =>
    have mp := hBP rfl
    clear hBP
    clear mp
    go_wp2_with fail
    refine (key_any _ id _ (ki.later hb1)).mono ?_
    rintro e w2 ⟨p2, c2, rfl, kk, hx2⟩
    have hb2 := hb1.trans (hx2.mono hb1.size)
    clear q0 q1 q2 q3 q4 q5 q6 q7 q8 q9
    have hl := keyF_le id
    generalize keyF id = K at *
    go_wp2_with fail
    refine (begins_any _ _ K row s _ kk (kr.later hb2) (by omega)).mono ?_
    rintro e w3 ⟨rfl, hx3⟩
    have hb3 := hb2.trans (hx3.mono hb2.size)
    have HW := bA.trans (hb3.mono bA.size)
    clear bA hb1 hb2 hb3 hx2 hx3 kk
    generalize decide (s ≤ (com K row : Int)) = C at *
    go_wp2
    go_ret
    rw [HS.out]
    exact ⟨by simp, HW⟩

set_option maxRecDepth 100000 in
set_option maxHeartbeats 4000000 in
theorem ends_K2 (size s : Int) (rv : Value) (row : List UInt8) (x : Pt) (pi pk pp pl pr pq : Option Addr) (ci ck cp cl cr cq : Nat) (w : World) (hr : HB w rv row) (_hrow : row.length ≤ 256) (hi : HB w (.slice pi x.id.length ci) x.id) (hp : HB w (.slice pp x.pre.length cp) x.pre) (ml : x.l.length ≤ maxLen) (mr : x.r.length ≤ maxLen) (hk : x.k = 2) :
    Calls Tryz.prog 23 #[.int .i64 size, rv, .int .i64 s, .agg #[.int .i64 x.k, .slice pi x.id.length ci, .slice pk x.key.length ck, .int .i64 x.si, .int .i64 x.d, .slice pp x.pre.length cp, .int .i64 x.nw, .slice pl x.l.length cl, .slice pr x.r.length cr, .slice pq x.kids cq]] w fun e w' => e = .returned (.bool (endsB size row s x)) ∧ Below w.heap.size w w' := by
  obtain ⟨k, id, key, si, d, pre, nw, l, r, n⟩ := x
  dsimp only at *
  subst hk
  obtain ⟨pv, cv, rfl⟩ := hr.shape
  have FSh := fun W h => shaped_any size ⟨2, id, key, si, d, pre, nw, l, r, n⟩ pi pk pp pl pr pq ci ck cp cl cr cq W h ml mr
  have HS : Hid (endsB size row s ⟨2, id, key, si, d, pre, nw, l, r, n⟩ = (shapedB size ⟨2, id, key, si, d, pre, nw, l, r, n⟩ && (decide (s ≤ d) && (decide (s ≤ (com pre row : Int)) && !decide (d ≤ (com row pre : Int)))))) := by
    show _ = _
    unfold endsB
    dsimp only
    rw [if_neg (show ¬ (2 : Int) = 0 by decide), if_neg (show ¬ (2 : Int) = 1 by decide), if_pos rfl]
  have hBP : shapedB size ⟨2, id, key, si, d, pre, nw, l, r, n⟩ = true → pre.length ≤ 257 := fun h => shaped_pre h
  generalize endsB size row s ⟨2, id, key, si, d, pre, nw, l, r, n⟩ = R at *
  generalize shapedB size ⟨2, id, key, si, d, pre, nw, l, r, n⟩ = B at *
  have bA := (Below.refl w.heap.size w).alloc (Nat.le_refl _) (.cells #[.int .i64 2, .slice pi id.length ci, .slice pk key.length ck, .int .i64 si, .int .i64 d, .slice pp pre.length cp, .int .i64 nw, .slice pl l.length cl, .slice pr r.length cr, .slice pq n cq] 26)
  have gA := heap_alloc_new w (.cells #[.int .i64 2, .slice pi id.length ci, .slice pk key.length ck, .int .i64 si, .int .i64 d, .slice pp pre.length cp, .int .i64 nw, .slice pl l.length cl, .slice pr r.length cr, .slice pq n cq] 26)
  obtain ⟨V, hV⟩ : ∃ V, w.alloc (.cells #[.int .i64 2, .slice pi id.length ci, .slice pk key.length ck, .int .i64 si, .int .i64 d, .slice pp pre.length cp, .int .i64 nw, .slice pl l.length cl, .slice pr r.length cr, .slice pq n cq] 26) = V := ⟨_, rfl⟩
  rw [hV] at bA gA
  have kp := hp.later bA
  have ki := hi.later bA
  have kr := hr.later bA
  have hcells : ∀ W, Below V.heap.size V W → W.heap[w.heap.size]? = some (.cells #[.int .i64 2, .slice pi id.length ci, .slice pk key.length ck, .int .i64 si, .int .i64 d, .slice pp pre.length cp, .int .i64 nw, .slice pl l.length cl, .slice pr r.length cr, .slice pq n cq] 26 (0, 0)) := fun W hb => (hb.block _ (Array.getElem?_eq_some_iff.1 gA).1).trans gA
  have hbV : Below V.heap.size V V := Below.refl _ V
  obtain ⟨q0, q1, q2, q3, q4, q5, q6, q7, q8, q9⟩ := cells10 (hcells _ hbV)
  clear hp gA hi hr
  go_enter Tryz.func23, Tryz.ntmps23
  go_wp2_with fail
  refine (FSh _ (kp.later hbV)).mono ?_
  rintro e w1 ⟨rfl, hx1⟩
  have hb1 := hbV.trans (hx1.mono hbV.size)
  clear hx1 hbV q0 q1 q2 q3 q4 q5 q6 q7 q8 q9
  obtain ⟨q0, q1, q2, q3, q4, q5, q6, q7, q8, q9⟩ := cells10 (hcells w1 hb1)
  cases B with
  | false =>
    have HW := bA.trans (hb1.mono bA.size)
    clear bA hb1
    go_wp2
    go_ret
    rw [HS.out]
    exact ⟨by simp, HW⟩
  | true =>
    have mp := hBP rfl
    clear hBP
    by_cases h1 : s ≤ d
    · have t1 : decide (s ≤ d) = true := by simpa using h1
      have FB := begins_any _ _ pre row s _ (kp.later hb1) (kr.later hb1) (by omega)
      have FC := fun W h1 h2 => begins_any _ _ row pre d W (kr.later h1) (kp.later h2) (by omega)
      generalize decide (s ≤ (com pre row : Int)) = B2 at *
      generalize decide (d ≤ (com row pre : Int)) = B3 at *
      go_wp2_with fail
      refine FB.mono ?_
      rintro e w2 ⟨rfl, hx2⟩
      have hb2 := hb1.trans (hx2.mono hb1.size)
      clear q0 q1 q2 q3 q4 q5 q6 q7 q8 q9 FB
      obtain ⟨q0, q1, q2, q3, q4, q5, q6, q7, q8, q9⟩ := cells10 (hcells w2 hb2)
      cases B2 with
      | false =>
        have HW := bA.trans (hb2.mono bA.size)
        clear bA hb1 hb2 hx2 FC hcells
        go_wp2
        go_ret
        rw [HS.out]
        exact ⟨by simp [*], HW⟩
      | true =>
        go_wp2_with fail
        refine (FC _ hb2 hb2).mono ?_
        rintro e w3 ⟨rfl, hx3⟩
        have hb3 := hb2.trans (hx3.mono hb2.size)
        have HW := bA.trans (hb3.mono bA.size)
        clear bA hb1 hb2 hb3 hx2 hx3 FC hcells
        go_wp2
        go_ret
        rw [HS.out]
        exact ⟨by simp [*], HW⟩
    · have t1 : decide (s ≤ d) = false := by simpa using h1
      have HW := bA.trans (hb1.mono bA.size)
      clear bA hb1
      go_wp2
      go_ret
      rw [HS.out]
      exact ⟨by simp [*], HW⟩

set_option maxRecDepth 100000 in
set_option maxHeartbeats 4000000 in
theorem ends_KE (size s : Int) (rv : Value) (row : List UInt8) (x : Pt) (pi pk pp pl pr pq : Option Addr) (ci ck cp cl cr cq : Nat) (w : World) (hr : HB w rv row) (_hrow : row.length ≤ 256) (hi : HB w (.slice pi x.id.length ci) x.id) (hp : HB w (.slice pp x.pre.length cp) x.pre) (ml : x.l.length ≤ maxLen) (mr : x.r.length ≤ maxLen) (k0 : x.k ≠ 0) (k1 : x.k ≠ 1) (k2 : x.k ≠ 2) :
    Calls Tryz.prog 23 #[.int .i64 size, rv, .int .i64 s, .agg #[.int .i64 x.k, .slice pi x.id.length ci, .slice pk x.key.length ck, .int .i64 x.si, .int .i64 x.d, .slice pp x.pre.length cp, .int .i64 x.nw, .slice pl x.l.length cl, .slice pr x.r.length cr, .slice pq x.kids cq]] w fun e w' => e = .returned (.bool (endsB size row s x)) ∧ Below w.heap.size w w' := by
  obtain ⟨k, id, key, si, d, pre, nw, l, r, n⟩ := x
  dsimp only at *
  have n0 : (k == 0) = false := by simpa using k0
  have n1 : (k == 1) = false := by simpa using k1
  have n2 : (k == 2) = false := by simpa using k2
  obtain ⟨pv, cv, rfl⟩ := hr.shape
  have FSh := fun W h => shaped_any size ⟨k, id, key, si, d, pre, nw, l, r, n⟩ pi pk pp pl pr pq ci ck cp cl cr cq W h ml mr
  have HS : Hid (endsB size row s ⟨k, id, key, si, d, pre, nw, l, r, n⟩ = (shapedB size ⟨k, id, key, si, d, pre, nw, l, r, n⟩ && false)) := by
    show _ = _
    unfold endsB
    dsimp only
    rw [if_neg k0, if_neg k1, if_neg k2]
  have hBP : shapedB size ⟨k, id, key, si, d, pre, nw, l, r, n⟩ = true → pre.length ≤ 257 := fun h => shaped_pre h
  generalize endsB size row s ⟨k, id, key, si, d, pre, nw, l, r, n⟩ = R at *
  generalize shapedB size ⟨k, id, key, si, d, pre, nw, l, r, n⟩ = B at *
  have bA := (Below.refl w.heap.size w).alloc (Nat.le_refl _) (.cells #[.int .i64 k, .slice pi id.length ci, .slice pk key.length ck, .int .i64 si, .int .i64 d, .slice pp pre.length cp, .int .i64 nw, .slice pl l.length cl, .slice pr r.length cr, .slice pq n cq] 26)
  have gA := heap_alloc_new w (.cells #[.int .i64 k, .slice pi id.length ci, .slice pk key.length ck, .int .i64 si, .int .i64 d, .slice pp pre.length cp, .int .i64 nw, .slice pl l.length cl, .slice pr r.length cr, .slice pq n cq] 26)
  obtain ⟨V, hV⟩ : ∃ V, w.alloc (.cells #[.int .i64 k, .slice pi id.length ci, .slice pk key.length ck, .int .i64 si, .int .i64 d, .slice pp pre.length cp, .int .i64 nw, .slice pl l.length cl, .slice pr r.length cr, .slice pq n cq] 26) = V := ⟨_, rfl⟩
  rw [hV] at bA gA
  have kp := hp.later bA
  have ki := hi.later bA
  have kr := hr.later bA
  have hcells : ∀ W, Below V.heap.size V W → W.heap[w.heap.size]? = some (.cells #[.int .i64 k, .slice pi id.length ci, .slice pk key.length ck, .int .i64 si, .int .i64 d, .slice pp pre.length cp, .int .i64 nw, .slice pl l.length cl, .slice pr r.length cr, .slice pq n cq] 26 (0, 0)) := fun W hb => (hb.block _ (Array.getElem?_eq_some_iff.1 gA).1).trans gA
  have hbV : Below V.heap.size V V := Below.refl _ V
  obtain ⟨q0, q1, q2, q3, q4, q5, q6, q7, q8, q9⟩ := cells10 (hcells _ hbV)
  clear hp gA hi hr
  go_enter Tryz.func23, Tryz.ntmps23
  go_wp2_with fail
  refine (FSh _ (kp.later hbV)).mono ?_
  rintro e w1 ⟨rfl, hx1⟩
  have hb1 := hbV.trans (hx1.mono hbV.size)
  clear hx1 hbV q0 q1 q2 q3 q4 q5 q6 q7 q8 q9
  obtain ⟨q0, q1, q2, q3, q4, q5, q6, q7, q8, q9⟩ := cells10 (hcells w1 hb1)
  cases B with
  | false =>
    have HW := bA.trans (hb1.mono bA.size)
    clear bA hb1
    go_wp2
    go_ret
    rw [HS.out]
    exact ⟨by simp, HW⟩
  | true =>
    have mp := hBP rfl
    clear hBP
    clear mp
    have HW := bA.trans (hb1.mono bA.size)
    clear bA hb1
    go_wp2
    go_ret
    rw [HS.out]
    exact ⟨by simp, HW⟩

theorem ends_any (size s : Int) (rv : Value) (row : List UInt8) (x : Pt) (pi pk pp pl pr pq : Option Addr) (ci ck cp cl cr cq : Nat) (w : World) (hr : HB w rv row) (_hrow : row.length ≤ 256) (hi : HB w (.slice pi x.id.length ci) x.id) (hp : HB w (.slice pp x.pre.length cp) x.pre) (ml : x.l.length ≤ maxLen) (mr : x.r.length ≤ maxLen) :
    Calls Tryz.prog 23 #[.int .i64 size, rv, .int .i64 s, .agg #[.int .i64 x.k, .slice pi x.id.length ci, .slice pk x.key.length ck, .int .i64 x.si, .int .i64 x.d, .slice pp x.pre.length cp, .int .i64 x.nw, .slice pl x.l.length cl, .slice pr x.r.length cr, .slice pq x.kids cq]] w fun e w' => e = .returned (.bool (endsB size row s x)) ∧ Below w.heap.size w w' := by
  by_cases k0 : x.k = 0
  · exact ends_K0 size s rv row x pi pk pp pl pr pq ci ck cp cl cr cq w hr _hrow hi hp ml mr k0
  by_cases k1 : x.k = 1
  · exact ends_K1 size s rv row x pi pk pp pl pr pq ci ck cp cl cr cq w hr _hrow hi hp ml mr k1
  by_cases k2 : x.k = 2
  · exact ends_K2 size s rv row x pi pk pp pl pr pq ci ck cp cl cr cq w hr _hrow hi hp ml mr k2
  exact ends_KE size s rv row x pi pk pp pl pr pq ci ck cp cl cr cq w hr _hrow hi hp ml mr k0 k1 k2

end Go.Proofs.YtahfjemllkbpgaaGreatDoor

namespace Go.Proofs.YtahfjemllkbpgaaGreatDoor
open Go.RowKit

theorem downF_step {size : Int} {row : List UInt8} {hs : List Hp} {k : Nat} {h : Hp} {s : Int} (hx : hs[k]? = some h) :
    downF size row (hs.drop k) s = if h.d < s ∨ 8 * (row.length : Int) ≤ h.d ∨ epB h.n = false ∨ (h.s.length : Int) ≠ size then none else downF size row (hs.drop (k + 1)) (h.d + 1) := by
  have hk : k < hs.length := (List.getElem?_eq_some_iff.1 hx).1
  have e : hs.drop k = h :: hs.drop (k + 1) := by
    rw [List.drop_eq_getElem_cons hk]
    congr 1
    have := (List.getElem?_eq_some_iff.1 hx).2
    exact this
  rw [e]
  rfl

set_option maxRecDepth 100000 in
set_option maxHeartbeats 4000000 in
theorem down_any (size : Int) (rv hv : Value) (row : List UInt8) (hs : List Hp) (w : World) (hr : HB w rv row) (hrow : row.length ≤ 256) (hh : HA w hv hs) :
    Calls Tryz.prog 22 #[.int .i64 size, rv, hv] w fun x w' => x = .returned (.tuple #[.int .i64 ((downF size row hs 0).getD 0), .bool (downF size row hs 0).isSome]) ∧ Below w.heap.size w w' := by
  obtain ⟨p, c, rfl⟩ := hr.shape
  obtain ⟨q, d, rfl⟩ := hh.shape
  have hm := hh.len
  unfold maxLen at hm
  obtain ⟨R, hR⟩ : ∃ R, downF size row hs 0 = R := ⟨_, rfl⟩
  have HR : Hid (downF size row (hs.drop 0) 0 = R) := by simpa [Hid] using hR
  rw [hR]
  clear hR hr
  obtain ⟨N, hN⟩ : ∃ N, row.length = N := ⟨_, rfl⟩
  have HN : Hid (row.length = N) := hN
  rw [hN] at hrow ⊢
  clear hN
  have e8 : wrap64 ((N : Int) * 8) = 8 * (N : Int) := by unfold wrap64; omega
  go_enter Tryz.func22, Tryz.ntmps22
  go_wp2
  go_loopw [8, 13] (fun v i wr => ∃ (k : Nat) (s : Int), k ≤ hs.length ∧ i = .int .i64 k ∧ v = .int .i64 s ∧ 0 ≤ s ∧ Hid (downF size row (hs.drop k) s = R) ∧ Below w.heap.size w wr) (fun _ i _ => hs.length - (intOf i).toNat)
  case atStart => exact ⟨0, 0, Nat.zero_le _, rfl, rfl, Int.le_refl _, HR, Below.refl _ _⟩
  case round =>
    obtain ⟨k, s, hk, rfl, rfl, h0, hS, hbe⟩ := hrel
    clear HR
    by_cases hlt : k < hs.length
    · obtain ⟨b, o, rfl⟩ := hh.addr (by omega)
      obtain ⟨h, qs, cs, hx, c0, c1, c2, h3⟩ := (hh.later hbe).get k hlt
      have hlt2 : (k : Int) < (hs.length : Int) := by omega
      have HST : Hid ((if h.d < s ∨ 8 * (row.length : Int) ≤ h.d ∨ epB h.n = false ∨ (h.s.length : Int) ≠ size then none else downF size row (hs.drop (k + 1)) (h.d + 1)) = R) := by
        show _ = R
        rw [← downF_step hx.out]
        exact hS.out
      rw [HN.out] at HST
      have hbA := hbe.alloc hbe.size (.cells #[.int .i64 h.d, .int .i64 h.n, .slice qs h.s.length cs] 57)
      have hE := fun W => isEpoch_any h.n W
      clear hx h3 hS
      obtain ⟨hd, hn, sb⟩ := h
      dsimp only at *
      generalize sb.length = L at *
      by_cases g1 : hd < s
      · have HF : Hid (R = none) := by show R = none; rw [← HST.out, if_pos (Or.inl g1)]
        clear HST HN
        go_wp2
        go_ret2
        rw [HF.out]
        exact ⟨rfl, hbA⟩
      · have n1 : decide (hd < s) = false := by simpa using g1
        by_cases g2 : 8 * (N : Int) ≤ hd
        · have HF : Hid (R = none) := by show R = none; rw [← HST.out, if_pos (Or.inr (Or.inl g2))]
          clear HST HN
          go_wp2
          go_ret2
          rw [HF.out]
          exact ⟨rfl, hbA⟩
        · have n2 : decide (8 * (N : Int) ≤ hd) = false := by simpa using g2
          by_cases g3 : epB hn = false
          · have HF : Hid (R = none) := by show R = none; rw [← HST.out, if_pos (Or.inr (Or.inr (Or.inl g3)))]
            rw [g3] at hE
            clear HST HN
            go_wp2_with fail
            refine (hE _).mono ?_
            rintro x w1 ⟨rfl, hw⟩
            subst hw
            go_wp2
            go_ret2
            rw [HF.out]
            exact ⟨rfl, hbA⟩
          · rw [Bool.not_eq_false] at g3
            rw [g3] at hE
            by_cases g4 : (L : Int) = size
            · have HF : Hid (downF size row (hs.drop (k + 1)) (hd + 1) = R) := by
                show _ = R
                rw [← HST.out, if_neg]
                simp only [not_or, Decidable.not_not]
                exact ⟨g1, g2, by simp [g3], g4⟩
              have ew : wrap64 (hd + 1) = hd + 1 := by unfold wrap64; omega
              have n4 : ((L : Int) != size) = false := by simpa using g4
              clear HST g4
              go_wp2_with fail
              refine (hE _).mono ?_
              rintro x w1 ⟨rfl, hw⟩
              subst hw
              clear hE
              go_wp2
              go_roundw
              case rel => first | exact ⟨k + 1, hd + 1, by omega, by go_num, rfl, by omega, HF, hbA⟩ | ((repeat apply Exists.intro); exact ⟨⟨k + 1, hd + 1, by omega, by go_num, rfl, by omega, HF, hbA⟩, rfl⟩)
              case measure => simp [intOf]; omega
            · have HF : Hid (R = none) := by show R = none; rw [← HST.out, if_pos (Or.inr (Or.inr (Or.inr g4)))]
              have n4 : ((L : Int) != size) = true := by simpa using g4
              clear HST HN
              go_wp2_with fail
              refine (hE _).mono ?_
              rintro x w1 ⟨rfl, hw⟩
              subst hw
              clear hE
              go_wp2
              go_ret2
              rw [HF.out]
              exact ⟨rfl, hbA⟩
    · have HF : Hid (R = some s) := by
        show R = some s
        rw [← hS.out, List.drop_of_length_le (by omega)]
        rfl
      clear hS
      go_wp2
      go_ret2
      rw [HF.out]
      exact ⟨rfl, hbe⟩

end Go.Proofs.YtahfjemllkbpgaaGreatDoor

namespace Go.Proofs.YtahfjemllkbpgaaGreatDoor
open Go.RowKit

theorem cells11 {W : World} {g : Nat} {t : TypeId} {c0 c1 c2 c3 c4 c5 c6 c7 c8 c9 c10 : Value} (h : W.heap[g]? = some (.cells #[c0, c1, c2, c3, c4, c5, c6, c7, c8, c9, c10] t (0, 0))) :
    W.cell? ⟨g, 0, none⟩ = some c0 ∧ W.cell? ⟨g, 1, none⟩ = some c1 ∧ W.cell? ⟨g, 2, none⟩ = some c2 ∧ W.cell? ⟨g, 3, none⟩ = some c3 ∧ W.cell? ⟨g, 4, none⟩ = some c4 ∧ W.cell? ⟨g, 5, none⟩ = some c5 ∧ W.cell? ⟨g, 6, none⟩ = some c6 ∧ W.cell? ⟨g, 7, none⟩ = some c7 ∧ W.cell? ⟨g, 8, none⟩ = some c8 ∧ W.cell? ⟨g, 9, none⟩ = some c9 ∧ W.cell? ⟨g, 10, none⟩ = some c10 := by
  refine ⟨?_, ?_, ?_, ?_, ?_, ?_, ?_, ?_, ?_, ?_, ?_⟩ <;> (rw [cell_of_row _ _ _ _ _ _ h]; rfl)

def errW (b : Bool) : Int := if b then 0 else 95

set_option maxRecDepth 100000 in
set_option maxHeartbeats 8000000 in
theorem check_any17 (size : Int) (iv hv : Value) (id : List UInt8) (hs : List Hp) (x : Pt) (pi pk pp pl pr pq : Option Addr) (ci ck cp cl cr cq : Nat) (w : World) (hid : HB w iv id) (hh : HA w hv hs) (hi : HB w (.slice pi x.id.length ci) x.id) (hp : HB w (.slice pp x.pre.length cp) x.pre) (ml : x.l.length ≤ maxLen) (mr : x.r.length ≤ maxLen) :
    Calls Tryz.prog 9 #[.int .i64 size, iv, .agg #[hv, .int .i64 x.k, .slice pi x.id.length ci, .slice pk x.key.length ck, .int .i64 x.si, .int .i64 x.d, .slice pp x.pre.length cp, .int .i64 x.nw, .slice pl x.l.length cl, .slice pr x.r.length cr, .slice pq x.kids cq]] w fun e w' => e = .returned (.int .i64 (errW (chkW size id hs x))) ∧ Below w.heap.size w w' := by
  obtain ⟨pv, cv, rfl⟩ := hid.shape
  obtain ⟨ph, ch, rfl⟩ := hh.shape
  have hlen := hid.len.2
  unfold maxLen at hlen
  have HC : Hid (chkW size id hs x = ((decide (1 ≤ size) && decide (size ≤ 32)) && (decide (id.length ≤ 24) && wayB size (keyF id) 0 hs x))) := by
    show _ = _
    unfold chkW
    rw [Bool.and_assoc]
  have HWB : Hid (wayB size (keyF id) 0 hs x = match downF size (keyF id) hs 0 with | none => false | some s' => endsB size (keyF id) s' x) := rfl
  have hK := fun W h => key_any (.slice pv id.length cv) id W h
  have hkl := keyF_le id
  have hD := fun rv W h1 h2 => down_any size rv (.slice ph hs.length ch) (keyF id) hs W h1 hkl h2
  have hE := fun s rv W h1 h2 h3 => ends_any size s rv (keyF id) x pi pk pp pl pr pq ci ck cp cl cr cq W h1 hkl h2 h3 ml mr
  have hZ := fun W => isSize_any size W
  obtain ⟨k, xid, key, si, d, pre, nw, l, r, n⟩ := x
  dsimp only at *
  generalize chkW size id hs ⟨k, xid, key, si, d, pre, nw, l, r, n⟩ = R at *
  generalize wayB size (keyF id) 0 hs ⟨k, xid, key, si, d, pre, nw, l, r, n⟩ = B at *
  generalize keyF id = K at *
  generalize hdn : downF size K hs 0 = D at *
  clear hdn
  generalize (decide (1 ≤ size) && decide (size ≤ 32)) = Z at *
  have bA := (Below.refl w.heap.size w).alloc (Nat.le_refl _) (.cells #[.slice ph hs.length ch, .int .i64 k, .slice pi xid.length ci, .slice pk key.length ck, .int .i64 si, .int .i64 d, .slice pp pre.length cp, .int .i64 nw, .slice pl l.length cl, .slice pr r.length cr, .slice pq n cq] 28)
  have gA := heap_alloc_new w (.cells #[.slice ph hs.length ch, .int .i64 k, .slice pi xid.length ci, .slice pk key.length ck, .int .i64 si, .int .i64 d, .slice pp pre.length cp, .int .i64 nw, .slice pl l.length cl, .slice pr r.length cr, .slice pq n cq] 28)
  obtain ⟨V, hV⟩ : ∃ V, w.alloc (.cells #[.slice ph hs.length ch, .int .i64 k, .slice pi xid.length ci, .slice pk key.length ck, .int .i64 si, .int .i64 d, .slice pp pre.length cp, .int .i64 nw, .slice pl l.length cl, .slice pr r.length cr, .slice pq n cq] 28) = V := ⟨_, rfl⟩
  rw [hV] at bA gA
  have kid := hid.later bA
  have kh := hh.later bA
  have kp := hp.later bA
  have ki := hi.later bA
  have hcells : ∀ W, Below V.heap.size V W → W.heap[w.heap.size]? = some (.cells #[.slice ph hs.length ch, .int .i64 k, .slice pi xid.length ci, .slice pk key.length ck, .int .i64 si, .int .i64 d, .slice pp pre.length cp, .int .i64 nw, .slice pl l.length cl, .slice pr r.length cr, .slice pq n cq] 28 (0, 0)) := fun W hb => (hb.block _ (Array.getElem?_eq_some_iff.1 gA).1).trans gA
  have hbV : Below V.heap.size V V := Below.refl _ V
  clear hp gA hi hid hh ml mr
  go_enter Tryz.func9, Tryz.ntmps9
  go_wp2_with fail
  refine (hZ _).mono ?_
  rintro e w1 ⟨rfl, hw⟩
  subst hw
  clear hZ
  cases Z with
  | false =>
    have HF : Hid (R = false) := by show R = false; rw [HC.out]; rfl
    clear HC HWB hK hD hE hcells
    go_wp2
    go_ret
    rw [HF.out]
    exact ⟨rfl, bA⟩
  | true =>
    by_cases h24 : id.length ≤ 24
    · have t24 : decide ((24 : Int) < (id.length : Int)) = false := by simp; omega
      have HF : Hid (R = B) := by show R = B; rw [HC.out]; simp [h24]
      clear HC
      go_wp2_with fail
      refine (hK _ (kid.later hbV)).mono ?_
      rintro e w2 ⟨p2, c2, rfl, kk, hx2⟩
      have hb2 := hbV.trans (hx2.mono hbV.size)
      obtain ⟨q0, q1, q2, q3, q4, q5, q6, q7, q8, q9, q10⟩ := cells11 (hcells w2 hb2)
      clear hK hbV hx2
      go_wp2_with fail
      refine (hD _ _ kk (kh.later hb2)).mono ?_
      rintro e w3 ⟨rfl, hx3⟩
      have hb3 := hb2.trans (hx3.mono hb2.size)
      have kk3 := kk.later hx3
      clear hD q0 q1 q2 q3 q4 q5 q6 q7 q8 q9 q10 kk hx3
      obtain ⟨q0, q1, q2, q3, q4, q5, q6, q7, q8, q9, q10⟩ := cells11 (hcells w3 hb3)
      cases D with
      | none =>
        have HG : Hid (R = false) := by show R = false; rw [HF.out, HWB.out]
        have HW := bA.trans (hb3.mono bA.size)
        clear HF HWB hE hcells bA hb2 hb3
        simp only [Option.getD_none, Option.isSome_none]
        go_wp2
        go_ret
        rw [HG.out]
        exact ⟨rfl, HW⟩
      | some s =>
        have HG : Hid (R = endsB size K s ⟨k, xid, key, si, d, pre, nw, l, r, n⟩) := by show R = _; rw [HF.out, HWB.out]
        have hE' := hE s _ _ kk3 (ki.later hb3) (kp.later hb3)
        generalize endsB size K s ⟨k, xid, key, si, d, pre, nw, l, r, n⟩ = E at *
        clear HF HWB hE kk3
        simp only [Option.getD_some, Option.isSome_some]
        go_wp2_with fail
        refine hE'.mono ?_
        rintro e w4 ⟨rfl, hx4⟩
        have hb4 := hb3.trans (hx4.mono hb3.size)
        have HW := bA.trans (hb4.mono bA.size)
        clear hE' q0 q1 q2 q3 q4 q5 q6 q7 q8 q9 q10 hb2 hb3 hb4 hx4 hcells bA
        cases E with
        | false =>
          go_wp2
          go_ret
          rw [HG.out]
          exact ⟨rfl, HW⟩
        | true =>
          go_wp2
          go_ret
          rw [HG.out]
          exact ⟨rfl, HW⟩
    · have t24 : decide ((24 : Int) < (id.length : Int)) = true := by simp; omega
      have HF : Hid (R = false) := by show R = false; rw [HC.out]; simp [h24]
      clear HC HWB hK hD hE hcells h24
      go_wp2
      go_ret
      rw [HF.out]
      exact ⟨rfl, bA⟩

end Go.Proofs.YtahfjemllkbpgaaGreatDoor
