/- What this text proves: the walk of the document's Root (annalsref11) over this program: the root over any digests. What this text holds: a row of N rows of bytes that the call made, the first k of them laid (plain facts). What this text proves: the walks of change.Leaf, Leaves, List and the document's (annalsref12) over this program: the digests of a batch, and their root. -/
import Derived.Test.YtcgpgnajmfemhaaGreatDoorJK1
import Derived.Test.YtcgpgnajmfemhaaGreatDoorJK2
import Derived.Test.YtcgpgnajmfemhaaGreatDoorJV3
import Derived.Test.YtcgpgnajmfemhaaGreatDoorJQ1
import Derived.Test.YtcgpgnajmfemhaaGreatDoorJOw
import Derived.Test.YtcgpgnajmfemhaaGreatDoorJQ12
namespace Go.Proofs.YtcgpgnajmfemhaaGreatDoor
open Go.RowKit

theorem rootF_fork (size : Int) (ls : List (List UInt8)) (h : 2 ≤ ls.length) (hb : ls.length ≤ 1048576) : rootF size ls = hashF size 4 [rootF size (ls.take (half ls.length)), rootF size (ls.drop (half ls.length))] := by
  obtain ⟨q1, q2, q3⟩ := half_bounds h (by omega)
  have n1 : ls.take (half ls.length) ≠ [] := fun e => by have := congrArg List.length e; rw [List.length_take, List.length_nil] at this; omega
  have n2 : ls.drop (half ls.length) ≠ [] := fun e => by have := congrArg List.length e; rw [List.length_drop, List.length_nil] at this; omega
  rw [rootF_rt size 21 ls (List.length_pos_iff.1 (by omega)) (by omega) (by omega), rtF_more size 20 h, rootF_rt size 20 _ n1 (by simp; omega) (by simp; omega), rootF_rt size 20 _ n2 (by simp; omega) (by simp; omega)]
  rfl

end Go.Proofs.YtcgpgnajmfemhaaGreatDoor

namespace Go.Proofs.YtcgpgnajmfemhaaGreatDoor
open Go.RowKit

/-- A made list of N rows of bytes that the call owns, the first k of them told. -/
def RQ (w : World) (base g N k : Nat) (sig : Nat → List UInt8) : Prop :=
  ∃ vs : List Value, w.ownsRow base 37 1 (.slice (some ⟨g, 0, none⟩) N N) N vs ∧ ∀ (j : Nat) u, j < k → vs[j]? = some u → HB w u (sig j) ∧ TB w u

theorem RQ.later {w w' : World} {base g N k : Nat} {sig : Nat → List UInt8} (h : RQ w base g N k sig) (hb : Below w.heap.size w w') : RQ w' base g N k sig := by
  obtain ⟨vs, h1, h3⟩ := h
  exact ⟨vs, owns_later h1 hb, fun j u hj hu => ⟨(h3 j u hj hu).1.later hb, (h3 j u hj hu).2.later hb⟩⟩

theorem RQ.rs {w : World} {base g N : Nat} {sig : Nat → List UInt8} (h : RQ w base g N N sig) : RS w base (.slice (some ⟨g, 0, none⟩) N N) N sig := by
  obtain ⟨vs, h1, h3⟩ := h
  have hl := h1.1
  rw [Nat.mul_one] at hl
  exact ⟨vs, h1, fun j u hu => h3 j u (by have := (List.getElem?_eq_some_iff.1 hu).1; omega) hu⟩

theorem RQ.cell {w : World} {base g N k : Nat} {sig : Nat → List UInt8} (h : RQ w base g N k sig) (i : Nat) (hi : i < N) : ∃ y, w.cell? ⟨g, i, none⟩ = some y ∧ w.frozen? ⟨g, i, none⟩ = false := by
  obtain ⟨vs, q1, _⟩ := h
  have hl := q1.1
  rw [Nat.mul_one] at hl
  have hc := q1.cellAt i (by omega)
  rw [List.getElem?_eq_getElem (by omega)] at hc
  exact ⟨_, hc, q1.frozenAt i⟩

theorem RQ.put {w : World} {base g N k : Nat} {sig : Nat → List UInt8} (h : RQ w base g N k sig) (x : Value) (hx : HB w x (sig k)) (tx : TB w x) : RQ (w.setCell ⟨g, k, none⟩ x) base g N (k + 1) sig := by
  obtain ⟨vs, h1, h3⟩ := h
  obtain ⟨q1, q2⟩ := h1.stored k x
  refine ⟨vs.set k x, q1, fun j u hj hu => ?_⟩
  by_cases hjk : k = j
  · subst hjk
    rw [List.getElem?_set_self'] at hu
    cases hv : vs[k]? with
    | none => rw [hv] at hu; simp at hu
    | some y =>
      rw [hv] at hu
      simp at hu
      subst hu
      exact hb_grown h1 q2 hx tx
  · rw [List.getElem?_set_ne hjk] at hu
    obtain ⟨a, b⟩ := h3 j u (by omega) hu
    exact hb_grown h1 q2 a b

end Go.Proofs.YtcgpgnajmfemhaaGreatDoor

namespace Go.Proofs.YtcgpgnajmfemhaaGreatDoor
open Go.RowKit

/-- A change's digest. -/
def clF (size : Int) (x : List UInt8 × List UInt8) : List UInt8 := hashF size 3 [x.1, x.2]

set_option maxRecDepth 100000 in
set_option maxHeartbeats 1000000 in
theorem leaf_any12 (size : Int) (u t : Value) (x : List UInt8 × List UInt8) (w : World) (hu : HB w u x.1) (ht : HB w t x.2) (hT : Tabs w) :
    Calls Tryz.prog 137 #[.int .i64 size, .agg #[u, t]] w fun e w' => ∃ p c, e = .returned (.slice p (clF size x).length c) ∧ HB w' (.slice p (clF size x).length c) (clF size x) ∧ Below w.heap.size w w' ∧ TB w' (.slice p (clF size x).length c) := by
  obtain ⟨pu, cu, rfl⟩ := hu.shape
  obtain ⟨pt, ct, rfl⟩ := ht.shape
  have bA := (Below.refl w.heap.size w).alloc (Nat.le_refl _) (.cells #[.slice pu x.1.length cu, .slice pt x.2.length ct] 90)
  have sA : (w.alloc (.cells #[.slice pu x.1.length cu, .slice pt x.2.length ct] 90)).heap.size = w.heap.size + 1 := by simp
  have hpa := PA.two (w.alloc (.cells #[.slice pu x.1.length cu, .slice pt x.2.length ct] 90)) _ _ _ _ (hu.later bA) (ht.later bA)
  have bB := bA.alloc bA.size (.cells #[.slice pu x.1.length cu, .slice pt x.2.length ct] 37)
  have hH := hash_toT size 3 _ [x.1, x.2] _ (by simp) (by decide) hpa (hT.later bB)
  rw [sA] at hH
  have HB0 : Hid (Below w.heap.size w ((w.alloc (.cells #[.slice pu x.1.length cu, .slice pt x.2.length ct] 90)).alloc (.cells #[.slice pu x.1.length cu, .slice pt x.2.length ct] 37))) := bB
  have e : hashF size 3 [x.1, x.2] = clF size x := rfl
  rw [e] at hH
  clear hpa bA bB hT hu ht sA e
  generalize clF size x = F at *
  go_enter Tryz.func137, Tryz.ntmps137
  go_wp2_with fail
  refine hH.mono ?_
  rintro r w1 ⟨p1, c1, rfl, k1, hb1, t1⟩
  have hb := HB0.out.trans (hb1.mono HB0.out.size)
  clear hH HB0 hb1
  go_wp2
  go_ret
  exact ⟨p1, c1, rfl, k1, hb, t1⟩

set_option maxRecDepth 100000 in
set_option maxHeartbeats 4000000 in
theorem leaves12_any (size : Int) (v : Value) (bs : List (List UInt8 × List UInt8)) (w : World) (h : BA w v bs) (hbig : bs.length ≤ 1048576) (hT : Tabs w) :
    Calls Tryz.prog 91 #[.int .i64 size, v] w fun e w' => ∃ p c, e = .returned (.slice p (bs.map (clF size)).length c) ∧ PA w' (.slice p (bs.map (clF size)).length c) (bs.map (clF size)) ∧ Below w.heap.size w w' := by
  obtain ⟨p, c, rfl⟩ := h.shape
  rw [List.length_map]
  obtain ⟨i0, hi0, hz0, hz1, hz2⟩ := info_parts i_bytes
  have hsig : ∀ k x, bs[k]? = some x → (fun j => (bs.map (clF size)).getD j []) k = clF size x := by
    intro k x hx
    simp [List.getD, hx]
  have HP : Hid ((List.range bs.length).map (fun j => (bs.map (clF size)).getD j []) = bs.map (clF size)) := by
    show _ = _
    apply List.ext_getElem
    · simp
    · intro i h1 h2; simp at h1; simp [List.getD, h1]
  generalize (fun j => (bs.map (clF size)).getD j []) = sig at *
  have HS : Hid (∀ k x, bs[k]? = some x → sig k = clF size x) := hsig
  clear hsig
  go_enter Tryz.func91, Tryz.ntmps91
  go_wp2_with (first | (at_make; refine wpList_make_full _ rfl _ _ 38 rfl w.heap.size 37 i0 (.slice none 0 0) 1 Tryz.underlying38 hi0 hz0 hz1 .i64 .i64 _ _ bs.length rfl rfl ?_ ?_ ?_ ?_ ?_ ?_))
  all_goals (try (first | omega | (unfold maxLen; omega) | (rw [hz2]; omega)))
  intro w1 hown1 hgrow1
  have hb1 : Below w.heap.size w w1 := (Below.refl _ w).grown hgrow1 (Nat.le_refl _) (by intro k hk; cases hk)
  have hq1 : RQ w1 w.heap.size w.heap.size bs.length 0 sig := ⟨_, hown1, fun j u hj => by omega⟩
  clear hown1 hgrow1
  go_wp2
  go_loopw [13] (fun i wr => ∃ k : Nat, k ≤ bs.length ∧ i = .int .i64 k ∧ RQ wr w.heap.size w.heap.size bs.length k sig ∧ Below w.heap.size w wr) (fun i _ => bs.length - (Go.RowKit.intOf i).toNat)
  case atStart => exact ⟨0, Nat.zero_le _, rfl, hq1, hb1⟩
  case round =>
    obtain ⟨k, hk, rfl, hq, hbe⟩ := hrel
    clear hq1 hb1
    have hsz := hbe.size
    by_cases hlt : k < bs.length
    · obtain ⟨bl, o, rfl⟩ := h.addr (by omega)
      obtain ⟨x, q, kc, r, d, hx, c1, c2, h1, h2⟩ := h.get k hlt
      have hlt2 : (k : Int) < (bs.length : Int) := by omega
      have e1 := cell_later hbe c1
      have e2 := cell_later hbe c2
      have bA := (Below.refl wr.heap.size wr).alloc (Nat.le_refl _) (.cells #[.slice q x.1.length kc, .slice r x.2.length d] 90)
      have hbA := hbe.alloc hsz (.cells #[.slice q x.1.length kc, .slice r x.2.length d] 90)
      have hqA := hq.later bA
      have hL := leaf_any12 size (.slice q x.1.length kc) (.slice r x.2.length d) x _ (h1.later hbA) (h2.later hbA) (hT.later hbA)
      rw [← HS.out k x hx] at hL
      clear h1 h2 c1 c2 hx hq
      go_wp2_with fail
      refine hL.mono ?_
      rintro e w3 ⟨p3, c3, rfl, h3, hb3, t3⟩
      have hq3 := hqA.later hb3
      have hb03 := hbA.trans (hb3.mono hbA.size)
      obtain ⟨y, cy, fy⟩ := hq3.cell k hlt
      have hq4 := hq3.put _ h3 t3
      have hb4 : Below w.heap.size w (w3.setCell ⟨w.heap.size, k, none⟩ (.slice p3 (sig k).length c3)) := hb03.setCell (Nat.le_refl _) _
      clear hqA hq3 hb3 hb03 h3 t3 hL bA hbA e1 e2
      go_wp2
      go_roundw
      case rel => exact ⟨k + 1, by omega, by go_num, hq4, hb4⟩
      case measure => simp [Go.RowKit.intOf]; omega
    · obtain rfl : k = bs.length := by omega
      have hpa := hq.rs.pa
      rw [HP.out] at hpa
      clear hq h HS HP
      go_wp2
      go_ret
      exact ⟨_, _, rfl, hpa, hbe⟩

theorem clF_le (size : Int) (bs : List (List UInt8 × List UInt8)) : ∀ l ∈ bs.map (clF size), l.length ≤ 140737488355328 := by
  intro l hl
  obtain ⟨x, _, rfl⟩ := List.mem_map.1 hl
  exact Nat.le_trans (hashF_le32 _ _ _) (by decide)

set_option maxRecDepth 100000 in
set_option maxHeartbeats 1000000 in
theorem list12_any (size : Int) (v : Value) (bs : List (List UInt8 × List UInt8)) (w : World) (h : BA w v bs) (hbig : bs.length ≤ 1048576) (hT : Tabs w) :
    Calls Tryz.prog 51 #[.int .i64 size, v] w fun e w' => ∃ p c, e = .returned (.slice p (rootF size (bs.map (clF size))).length c) ∧ HB w' (.slice p (rootF size (bs.map (clF size))).length c) (rootF size (bs.map (clF size))) ∧ Below w.heap.size w w' := by
  have hL := leaves12_any size v bs w h hbig hT
  have hl := rootF_len size 140737488355328 (by decide) (bs.map (clF size)) (by simp; omega) (clF_le size bs)
  have hR := fun v W (hp : PA W v (bs.map (clF size))) (hT : Tabs W) => root_any size v (bs.map (clF size)) W hp hT (by simp; omega) hl
  obtain ⟨p, c, rfl⟩ := h.shape
  generalize bs.map (clF size) = ls at *
  generalize rootF size ls = F at *
  clear h
  go_enter Tryz.func51, Tryz.ntmps51
  go_wp2_with fail
  refine hL.mono ?_
  rintro r w1 ⟨p1, c1, rfl, k1, hb1⟩
  have hR' := hR _ _ k1 (hT.later hb1)
  clear hL hR k1 hT
  go_wp2_with fail
  refine hR'.mono ?_
  rintro r w2 ⟨p2, c2, rfl, k2, hb2, _⟩
  have hb := hb1.trans (hb2.mono hb1.size)
  clear hR' hb1 hb2
  go_wp2
  go_ret
  exact ⟨p2, c2, rfl, k2, hb⟩

end Go.Proofs.YtcgpgnajmfemhaaGreatDoor
