/- What this text proves: the walks of change.Leaf, Leaves, List and the document's (annalsref12) over this program: the digests of a batch, and their root. What this text proves: the walks of slices.EqualFunc and SameTexts over this program: they answer whether two slices of slices of bytes hold the same, and leave the world as it was. What this text proves: the walk of the statement ChangeLists over this program: it answers true for any arguments, and writes nothing that was there. Proved here: Rows.ChangeListsCardSaid: for every number, slice of bindings and binding the Go function annalslaw12.ChangeLists returns true (the digests of a batch, and their root, as the document has them). No condition; the two tables of package sha start as the program's text lays them. -/
import Derived.Test.YtichffdkihifpaaDoorJCA
import Derived.Test.YtichffdkihifpaaDoorKRRoot
import Derived.Test.YtichffdkihifpaaDoorRQRow
import Derived.Test.YtichffdkihifpaaDoorEqual
import Derived.Test.YtichffdkihifpaaDoorRegHeld
import Derived.Test.YtichffdkihifpaaDoorOpenD
namespace Go.Proofs.YtichffdkihifpaaDoor
open Go.RowKit

/-- A change's digest. -/
def clF (size : Int) (x : List UInt8 × List UInt8) : List UInt8 := hashF size 3 [x.1, x.2]

set_option maxRecDepth 100000 in
set_option maxHeartbeats 1000000 in
theorem leaf_any12 (size : Int) (u t : Value) (x : List UInt8 × List UInt8) (w : World) (hu : HB w u x.1) (ht : HB w t x.2) (hT : Tabs w) :
    Calls Tryd.prog 22 #[.int .i64 size, .agg #[u, t]] w fun e w' => ∃ p c, e = .returned (.slice p (clF size x).length c) ∧ HB w' (.slice p (clF size x).length c) (clF size x) ∧ Below w.heap.size w w' ∧ TB w' (.slice p (clF size x).length c) := by
  obtain ⟨pu, cu, rfl⟩ := hu.shape
  obtain ⟨pt, ct, rfl⟩ := ht.shape
  have bA := (Below.refl w.heap.size w).alloc (Nat.le_refl _) (.cells #[.slice pu x.1.length cu, .slice pt x.2.length ct] 41)
  have sA : (w.alloc (.cells #[.slice pu x.1.length cu, .slice pt x.2.length ct] 41)).heap.size = w.heap.size + 1 := by simp
  have hpa := PA.two (w.alloc (.cells #[.slice pu x.1.length cu, .slice pt x.2.length ct] 41)) _ _ _ _ (hu.later bA) (ht.later bA)
  have bB := bA.alloc bA.size (.cells #[.slice pu x.1.length cu, .slice pt x.2.length ct] 25)
  have hH := hash_toT size 3 _ [x.1, x.2] _ (by simp) (by decide) hpa (hT.later bB)
  rw [sA] at hH
  have HB0 : Hid (Below w.heap.size w ((w.alloc (.cells #[.slice pu x.1.length cu, .slice pt x.2.length ct] 41)).alloc (.cells #[.slice pu x.1.length cu, .slice pt x.2.length ct] 25))) := bB
  have e : hashF size 3 [x.1, x.2] = clF size x := rfl
  rw [e] at hH
  clear hpa bA bB hT hu ht sA e
  generalize clF size x = F at *
  go_enter Tryd.func22, Tryd.ntmps22
  go_wp2_with fail
  refine hH.mono ?_
  rintro r w1 ⟨p1, c1, rfl, k1, hb1, t1⟩
  have hb := HB0.out.trans (hb1.mono HB0.out.size)
  clear hH HB0 hb1
  go_wp2
  go_ret
  exact ⟨p1, c1, rfl, k1, hb, t1⟩

set_option maxRecDepth 100000 in
set_option maxHeartbeats 1000000 in
theorem rleaf_any12 (size : Int) (u t : Value) (x : List UInt8 × List UInt8) (w : World) (hu : HB w u x.1) (ht : HB w t x.2) :
    Calls Tryd.prog 23 #[.int .i64 size, .agg #[u, t]] w fun e w' => ∃ p c, e = .returned (.slice p (clF size x).length c) ∧ HB w' (.slice p (clF size x).length c) (clF size x) ∧ Below w.heap.size w w' ∧ TB w' (.slice p (clF size x).length c) := by
  obtain ⟨pu, cu, rfl⟩ := hu.shape
  obtain ⟨pt, ct, rfl⟩ := ht.shape
  have bA := (Below.refl w.heap.size w).alloc (Nat.le_refl _) (.cells #[.slice pu x.1.length cu, .slice pt x.2.length ct] 41)
  have sA : (w.alloc (.cells #[.slice pu x.1.length cu, .slice pt x.2.length ct] 41)).heap.size = w.heap.size + 1 := by simp
  have hpa := PA.two (w.alloc (.cells #[.slice pu x.1.length cu, .slice pt x.2.length ct] 41)) _ _ _ _ (hu.later bA) (ht.later bA)
  have bB := bA.alloc bA.size (.cells #[.slice pu x.1.length cu, .slice pt x.2.length ct] 25)
  have hH := rhash_toT size 3 _ [x.1, x.2] _ (by simp) (by decide) hpa
  rw [sA] at hH
  have HB0 : Hid (Below w.heap.size w ((w.alloc (.cells #[.slice pu x.1.length cu, .slice pt x.2.length ct] 41)).alloc (.cells #[.slice pu x.1.length cu, .slice pt x.2.length ct] 25))) := bB
  have e : hashF size 3 [x.1, x.2] = clF size x := rfl
  rw [e] at hH
  clear hpa bA bB hu ht sA e
  generalize clF size x = F at *
  go_enter Tryd.func23, Tryd.ntmps23
  go_wp2_with fail
  refine hH.mono ?_
  rintro r w1 ⟨p1, c1, rfl, k1, hb1, t1⟩
  have hb := HB0.out.trans (hb1.mono HB0.out.size)
  clear hH HB0 hb1
  go_wp2
  go_ret
  exact ⟨p1, c1, rfl, k1, hb, t1⟩

set_option maxRecDepth 100000 in
set_option maxHeartbeats 4000000 in
theorem leaves12_any (size : Int) (v : Value) (bs : List (List UInt8 × List UInt8)) (w : World) (h : BA w v bs) (hbig : bs.length ≤ 1048576) (hT : Tabs w) :
    Calls Tryd.prog 24 #[.int .i64 size, v] w fun e w' => ∃ p c, e = .returned (.slice p (bs.map (clF size)).length c) ∧ PA w' (.slice p (bs.map (clF size)).length c) (bs.map (clF size)) ∧ Below w.heap.size w w' := by
  obtain ⟨p, c, rfl⟩ := h.shape
  rw [List.length_map]
  obtain ⟨i0, hi0, hz0, hz1, hz2⟩ := info_parts i_bytes
  have hsig : ∀ k x, bs[k]? = some x → (fun j => (bs.map (clF size)).getD j []) k = clF size x := by
    intro k x hx
    simp [List.getD, hx]
  have HP : Hid ((List.range bs.length).map (fun j => (bs.map (clF size)).getD j []) = bs.map (clF size)) := by
    show _ = _
    apply List.ext_getElem
    · simp
    · intro i h1 h2; simp at h1; simp [List.getD, h1]
  generalize (fun j => (bs.map (clF size)).getD j []) = sig at *
  have HS : Hid (∀ k x, bs[k]? = some x → sig k = clF size x) := hsig
  clear hsig
  go_enter Tryd.func24, Tryd.ntmps24
  go_wp2_with (first | (at_make; refine wpList_make_full _ rfl _ _ 22 rfl w.heap.size 25 i0 (.slice none 0 0) 1 Tryd.underlying22 hi0 hz0 hz1 .i64 .i64 _ _ bs.length rfl rfl ?_ ?_ ?_ ?_ ?_ ?_))
  all_goals (try (first | omega | (unfold maxLen; omega) | (rw [hz2]; omega)))
  intro w1 hown1 hgrow1
  have hb1 : Below w.heap.size w w1 := (Below.refl _ w).grown hgrow1 (Nat.le_refl _) (by intro k hk; cases hk)
  have hq1 : RQ w1 w.heap.size w.heap.size bs.length 0 sig := ⟨_, hown1, fun j u hj => by omega⟩
  clear hown1 hgrow1
  go_wp2
  go_loopw [13] (fun i wr => ∃ k : Nat, k ≤ bs.length ∧ i = .int .i64 k ∧ RQ wr w.heap.size w.heap.size bs.length k sig ∧ Below w.heap.size w wr) (fun i _ => bs.length - (intOf i).toNat)
  case atStart => exact ⟨0, Nat.zero_le _, rfl, hq1, hb1⟩
  case round =>
    obtain ⟨k, hk, rfl, hq, hbe⟩ := hrel
    clear hq1 hb1
    have hsz := hbe.size
    by_cases hlt : k < bs.length
    · obtain ⟨bl, o, rfl⟩ := h.addr (by omega)
      obtain ⟨x, q, kc, r, d, hx, c1, c2, h1, h2⟩ := h.get k hlt
      have hlt2 : (k : Int) < (bs.length : Int) := by omega
      have e1 := cell_later hbe c1
      have e2 := cell_later hbe c2
      have bA := (Below.refl wr.heap.size wr).alloc (Nat.le_refl _) (.cells #[.slice q x.1.length kc, .slice r x.2.length d] 41)
      have hbA := hbe.alloc hsz (.cells #[.slice q x.1.length kc, .slice r x.2.length d] 41)
      have hqA := hq.later bA
      have hL := leaf_any12 size (.slice q x.1.length kc) (.slice r x.2.length d) x _ (h1.later hbA) (h2.later hbA) (hT.later hbA)
      rw [← HS.out k x hx] at hL
      clear h1 h2 c1 c2 hx hq
      go_wp2_with fail
      refine hL.mono ?_
      rintro e w3 ⟨p3, c3, rfl, h3, hb3, t3⟩
      have hq3 := hqA.later hb3
      have hb03 := hbA.trans (hb3.mono hbA.size)
      obtain ⟨y, cy, fy⟩ := hq3.cell k hlt
      have hq4 := hq3.put _ h3 t3
      have hb4 : Below w.heap.size w (w3.setCell ⟨w.heap.size, k, none⟩ (.slice p3 (sig k).length c3)) := hb03.setCell (Nat.le_refl _) _
      clear hqA hq3 hb3 hb03 h3 t3 hL bA hbA e1 e2
      go_wp2
      go_roundw
      case rel => exact ⟨k + 1, by omega, by go_num, hq4, hb4⟩
      case measure => simp [intOf]; omega
    · obtain rfl : k = bs.length := by omega
      have hpa := hq.rs.pa
      rw [HP.out] at hpa
      clear hq h HS HP
      go_wp2
      go_ret
      exact ⟨_, _, rfl, hpa, hbe⟩

set_option maxRecDepth 100000 in
set_option maxHeartbeats 4000000 in
theorem rleaves12_any (size : Int) (v : Value) (bs : List (List UInt8 × List UInt8)) (w : World) (h : BA w v bs) (hbig : bs.length ≤ 1048576) :
    Calls Tryd.prog 25 #[.int .i64 size, v] w fun e w' => ∃ p c, e = .returned (.slice p (bs.map (clF size)).length c) ∧ PA w' (.slice p (bs.map (clF size)).length c) (bs.map (clF size)) ∧ Below w.heap.size w w' := by
  obtain ⟨p, c, rfl⟩ := h.shape
  obtain ⟨i0, hi0, hz0, hz1, hz2⟩ := info_parts i_bytes
  go_enter Tryd.func25, Tryd.ntmps25
  go_wp2
  go_loopw [5, 10] (fun v i wr => ∃ k : Nat, k ≤ bs.length ∧ i = .int .i64 (k : Int) ∧ RL wr w.heap.size v ((bs.take k).map (clF size)) ∧ Below w.heap.size w wr) (fun _ i _ => bs.length - (intOf i).toNat)
  case atStart => exact ⟨0, Nat.zero_le _, rfl, RL.nil _ _, Below.refl _ _⟩
  case round =>
    obtain ⟨k, hk, rfl, hr, hbe⟩ := hrel
    have hsz := hbe.size
    by_cases hlt : k < bs.length
    · obtain ⟨bl, o, rfl⟩ := h.addr (by omega)
      obtain ⟨x, q, kc, r, d, hx, c1, c2, h1, h2⟩ := h.get k hlt
      have hlt2 : (k : Int) < (bs.length : Int) := by omega
      have e1 := cell_later hbe c1
      have e2 := cell_later hbe c2
      have bA := (Below.refl wr.heap.size wr).alloc (Nat.le_refl _) (.cells #[.slice q x.1.length kc, .slice r x.2.length d] 41)
      have hbA := hbe.alloc hsz (.cells #[.slice q x.1.length kc, .slice r x.2.length d] 41)
      have hrA := hr.later bA
      have hL := rleaf_any12 size (.slice q x.1.length kc) (.slice r x.2.length d) x _ (h1.later hbA) (h2.later hbA)
      have HT : Hid ((bs.take k).map (clF size) ++ [clF size x] = (bs.take (k + 1)).map (clF size)) := by
        show _ = _
        rw [List.take_add_one, hx]
        simp
      have hAl : ((bs.take k).map (clF size)).length ≤ 1048576 := by simp; omega
      generalize (bs.take k).map (clF size) = A at *
      generalize clF size x = F at *
      clear h1 h2 c1 c2 hx hr
      go_wp2_with fail
      refine hL.mono ?_
      rintro e w3 ⟨p3, c3, rfl, h3, hb3, t3⟩
      have hb03 := hbA.trans (hb3.mono hbA.size)
      obtain ⟨vs, o3, q3⟩ := hrA.later hb3
      have bB := (Below.refl w3.heap.size w3).alloc (Nat.le_refl _) (.cells #[.slice p3 F.length c3] 25)
      have oB := owns_later o3 bB
      have s3 := hb03.size
      clear hL hrA bA hbA hb3 e1 e2
      go_wp2_with (first | (at_builtin; refine wpList_append_own _ rfl (.tmp 14) (.tmp 18) 22 rfl w.heap.size 25 i0 (.slice none 0 0) 1 24 Tryd.underlying22 hi0 hz0 hz1 hz2 rfl (by decide) _ _ _ rfl oB ⟨w3.heap.size, 0, none⟩ 1 1 [.slice p3 F.length c3] rfl rfl (cell_one_new _ _ _) ?ub ?uc ?ud ?ue ?_))
      case ub => first | rfl | (intro u hu; simp at hu; subst hu; rfl)
      case uc => unfold maxLen; omega
      case ud => omega
      case ue => first | omega | (simp; omega)
      intro v6 w6 hown6 hgrow6 _
      have r6 : RL w6 w.heap.size v6 (A ++ [F]) := RL.snoc oB (fun j u hu => ⟨(q3 j u hu).1.later bB, (q3 j u hu).2.later bB⟩) (h3.later bB) (t3.later bB) hgrow6 hown6
      have hb6 : Below w.heap.size w w6 := (hb03.alloc s3 _).grown hgrow6 (by simp; omega) (fun k hk => (oB.lt k hk).1)
      rw [HT.out] at r6
      clear hown6 hgrow6 oB o3 q3 bB h3 t3 HT
      go_wp2
      go_roundw
      case rel => exact ⟨k + 1, by omega, by go_num, r6, hb6⟩
      case measure => simp [intOf]; omega
    · obtain rfl : k = bs.length := by omega
      rw [List.take_length] at hr
      have hpa := hr.pa
      obtain ⟨p3, c3, hv⟩ := hpa.shape
      subst hv
      clear hr h
      go_wp2
      go_ret
      exact ⟨_, _, rfl, hpa, hbe⟩

theorem clF_le (size : Int) (bs : List (List UInt8 × List UInt8)) : ∀ l ∈ bs.map (clF size), l.length ≤ 140737488355328 := by
  intro l hl
  obtain ⟨x, _, rfl⟩ := List.mem_map.1 hl
  exact Nat.le_trans (hashF_le32 _ _ _) (by decide)

set_option maxRecDepth 100000 in
set_option maxHeartbeats 1000000 in
theorem list12_any (size : Int) (v : Value) (bs : List (List UInt8 × List UInt8)) (w : World) (h : BA w v bs) (hbig : bs.length ≤ 1048576) (hT : Tabs w) :
    Calls Tryd.prog 26 #[.int .i64 size, v] w fun e w' => ∃ p c, e = .returned (.slice p (rootF size (bs.map (clF size))).length c) ∧ HB w' (.slice p (rootF size (bs.map (clF size))).length c) (rootF size (bs.map (clF size))) ∧ Below w.heap.size w w' := by
  have hL := leaves12_any size v bs w h hbig hT
  have hl := rootF_len size 140737488355328 (by decide) (bs.map (clF size)) (by simp; omega) (clF_le size bs)
  have hR := fun v W (hp : PA W v (bs.map (clF size))) (hT : Tabs W) => root_any size v (bs.map (clF size)) W hp hT (by simp; omega) hl
  obtain ⟨p, c, rfl⟩ := h.shape
  generalize bs.map (clF size) = ls at *
  generalize rootF size ls = F at *
  clear h
  go_enter Tryd.func26, Tryd.ntmps26
  go_wp2_with fail
  refine hL.mono ?_
  rintro r w1 ⟨p1, c1, rfl, k1, hb1⟩
  have hR' := hR _ _ k1 (hT.later hb1)
  clear hL hR k1 hT
  go_wp2_with fail
  refine hR'.mono ?_
  rintro r w2 ⟨p2, c2, rfl, k2, hb2, _⟩
  have hb := hb1.trans (hb2.mono hb1.size)
  clear hR' hb1 hb2
  go_wp2
  go_ret
  exact ⟨p2, c2, rfl, k2, hb⟩

set_option maxRecDepth 100000 in
set_option maxHeartbeats 1000000 in
theorem rlist12_any (size : Int) (v : Value) (bs : List (List UInt8 × List UInt8)) (w : World) (h : BA w v bs) (hbig : bs.length ≤ 1048576) :
    Calls Tryd.prog 27 #[.int .i64 size, v] w fun e w' => ∃ p c, e = .returned (.slice p (rootF size (bs.map (clF size))).length c) ∧ HB w' (.slice p (rootF size (bs.map (clF size))).length c) (rootF size (bs.map (clF size))) ∧ Below w.heap.size w w' := by
  have hL := rleaves12_any size v bs w h hbig
  have hR := fun v W (hp : PA W v (bs.map (clF size))) => rroot_any size 20 v (bs.map (clF size)) W hp (by simp; omega) (by simp; omega) (clF_le size bs)
  obtain ⟨p, c, rfl⟩ := h.shape
  generalize bs.map (clF size) = ls at *
  generalize rootF size ls = F at *
  clear h
  go_enter Tryd.func27, Tryd.ntmps27
  go_wp2_with fail
  refine hL.mono ?_
  rintro r w1 ⟨p1, c1, rfl, k1, hb1⟩
  have hR' := hR _ _ k1
  clear hL hR k1
  go_wp2_with fail
  refine hR'.mono ?_
  rintro r w2 ⟨p2, c2, rfl, k2, hb2, _⟩
  have hb := hb1.trans (hb2.mono hb1.size)
  clear hR' hb1 hb2
  go_wp2
  go_ret
  exact ⟨p2, c2, rfl, k2, hb⟩

end Go.Proofs.YtichffdkihifpaaDoor

namespace Go.Proofs.YtichffdkihifpaaDoor
open Go.RowKit

/-- The first k of both are the same. -/
def same (ls ms : List (List UInt8)) (k : Nat) : Prop := ∀ j, j < k → ls[j]? = ms[j]?

theorem same_all {ls ms : List (List UInt8)} (h : ls.length = ms.length) (hs : same ls ms ls.length) : ls = ms := by
  apply List.ext_getElem? 
  intro i
  by_cases hi : i < ls.length
  · exact hs i hi
  · rw [List.getElem?_eq_none (by omega), List.getElem?_eq_none (by omega)]

theorem same_step {ls ms : List (List UInt8)} {k : Nat} {l m : List UInt8} (hs : same ls ms k) (h1 : ls[k]? = some l) (h2 : ms[k]? = some m) (h : (l == m) = true) : same ls ms (k + 1) := by
  intro j hj
  rcases Nat.lt_succ_iff_lt_or_eq.1 hj with h' | rfl
  · exact hs j h'
  · rw [h1, h2, beq_iff_eq.1 h]

theorem same_not {ls ms : List (List UInt8)} {k : Nat} {l m : List UInt8} (h1 : ls[k]? = some l) (h2 : ms[k]? = some m) (h : (l == m) = false) : (ls == ms) = false := by
  rw [beq_eq_false_iff_ne] at h ⊢
  intro e
  subst e
  rw [h1] at h2
  exact h (by simpa using h2)

set_option maxRecDepth 100000 in
set_option maxHeartbeats 1000000 in
theorem eqfunc_any (a b : Value) (ls ms : List (List UInt8)) (w : World) (ha : PA w a ls) (hb : PA w b ms) :
    Calls Tryd.prog 35 #[a, b, .func (.func 9) #[] #[]] w fun e w' => e = .returned (.bool (ls == ms)) ∧ w' = w := by
  obtain ⟨p, c, rfl⟩ := ha.shape
  obtain ⟨q, d, rfl⟩ := hb.shape
  have hla := ha.len.2
  have hlb := hb.len.2
  unfold maxLen at hla hlb
  by_cases hlen : ls.length = ms.length
  · have hne : ((ls.length : Int) != (ms.length : Int)) = false := by simp [hlen]
    by_cases h0 : ls.length = 0
    · have e1 : ls = [] := List.eq_nil_of_length_eq_zero h0
      have e2 : ms = [] := List.eq_nil_of_length_eq_zero (by omega)
      subst e1; subst e2
      clear hlen h0 hne ha hb hla hlb
      go_enter Tryd.func35, Tryd.ntmps35
      go_wp2
      refine wp_loop_rounds 1 ?_
      rw [rounds_succ]
      go_wp2
      go_ret
      exact ⟨rfl, rfl⟩
    · obtain ⟨b1, o1, rfl⟩ := ha.addr (by omega)
      obtain ⟨b2, o2, rfl⟩ := hb.addr (by omega)
      have HL : Hid (ls.length = ms.length) := hlen
      have hge : ls.length ≤ ms.length := by omega
      clear hlen
      go_enter Tryd.func35, Tryd.ntmps35
      go_wp2
      go_loop [17] (fun i => ∃ k : Nat, k ≤ ls.length ∧ i = .int .i64 k ∧ same ls ms k) (fun i => ls.length - (intOf i).toNat)
      case atStart => exact ⟨0, Nat.zero_le _, rfl, fun j hj => absurd hj (Nat.not_lt_zero _)⟩
      case round =>
        obtain ⟨k, hk, rfl, hs⟩ := hrel
        by_cases hlt : k < ls.length
        · obtain ⟨q1, k1, l1, g1, hc1, hb1⟩ := ha.get k hlt
          obtain ⟨q2, k2, l2, g2, hc2, hb2⟩ := hb.get k (by omega)
          by_cases heq : (l1 == l2) = true
          · go_wp2_with (go_at_call 9; refine (equal_any _ _ _ _ _ hb1 hb2).mono ?_; rintro e w' ⟨rfl, rfl⟩)
            go_round
            case rel => exact ⟨k + 1, by omega, by go_num, same_step hs g1.out g2.out heq⟩
            case measure => simp [intOf]; omega
          · have hf : (l1 == l2) = false := by simpa using heq
            clear heq
            have HN : Hid ((ls == ms) = false) := same_not g1.out g2.out hf
            go_wp2_with (go_at_call 9; refine (equal_any _ _ _ _ _ hb1 hb2).mono ?_; rintro e w' ⟨rfl, rfl⟩)
            go_ret
            exact ⟨by simp [HN.out], rfl⟩
        · have hkl : k = ls.length := by omega
          have HS : Hid (ls = ms) := same_all HL.out (by rw [← hkl]; exact hs)
          clear hs hkl
          go_wp2
          go_ret
          exact ⟨by simp [HS.out], rfl⟩
  · have hne : ((ls.length : Int) != (ms.length : Int)) = true := by simp; omega
    have hf : (ls == ms) = false := by
      rw [beq_eq_false_iff_ne]
      intro e
      exact hlen (by rw [e])
    have HF : Hid ((ls == ms) = false) := hf
    clear hf hlen
    go_enter Tryd.func35, Tryd.ntmps35
    go_wp2
    go_ret
    exact ⟨by simp [HF.out], rfl⟩

set_option maxRecDepth 100000 in
set_option maxHeartbeats 400000 in
theorem same_any (a b : Value) (ls ms : List (List UInt8)) (w : World) (ha : PA w a ls) (hb : PA w b ms) :
    Calls Tryd.prog 12 #[a, b] w fun e w' => e = .returned (.bool (ls == ms)) ∧ w' = w := by
  obtain ⟨p, c, rfl⟩ := ha.shape
  obtain ⟨q, d, rfl⟩ := hb.shape
  go_enter Tryd.func12, Tryd.ntmps12
  go_wp2_with (go_at_call 35; refine (eqfunc_any _ _ _ _ _ ha hb).mono ?_; rintro e w' ⟨rfl, rfl⟩)
  go_ret
  exact ⟨rfl, rfl⟩

theorem same_t (a b : Value) (ls ms : List (List UInt8)) (w : World) (ha : PA w a ls) (hb : PA w b ms) (h : ls = ms) :
    Calls Tryd.prog 12 #[a, b] w fun e w' => e = .returned (.bool true) ∧ w' = w := (same_any a b ls ms w ha hb).mono fun e w' ⟨he, hw⟩ => ⟨by rw [he, h]; simp, hw⟩
theorem same_f (a b : Value) (ls ms : List (List UInt8)) (w : World) (ha : PA w a ls) (hb : PA w b ms) (h : ls ≠ ms) :
    Calls Tryd.prog 12 #[a, b] w fun e w' => e = .returned (.bool false) ∧ w' = w := (same_any a b ls ms w ha hb).mono fun e w' ⟨he, hw⟩ => ⟨by rw [he, beq_eq_false_iff_ne.2 h], hw⟩

end Go.Proofs.YtichffdkihifpaaDoor

namespace Go.Proofs.YtichffdkihifpaaDoor
open Go.RowKit

set_option maxRecDepth 100000 in
set_option maxHeartbeats 4000000 in
theorem clistsWalk (size : Int) (v u t : Value) (b0 : List (List UInt8 × List UInt8)) (l m : List UInt8) (w : World) (h : BA w v b0) (hu : HB w u l) (ht : HB w t m) (hT : Tabs w) :
    Calls Tryd.prog 7 #[.int .i64 size, v, .agg #[u, t]] w fun e w' => e = .returned (.bool true) ∧ Below w.heap.size w w' := by
  obtain ⟨pu, cu, rfl⟩ := hu.shape
  obtain ⟨pt, ct, rfl⟩ := ht.shape
  have bA := (Below.refl w.heap.size w).alloc (Nat.le_refl _) (.cells #[.slice pu l.length cu, .slice pt m.length ct] 41)
  have gA := heap_alloc_new w (.cells #[.slice pu l.length cu, .slice pt m.length ct] 41)
  obtain ⟨V, hV⟩ : ∃ V, V = w.alloc (.cells #[.slice pu l.length cu, .slice pt m.length ct] 41) := ⟨_, rfl⟩
  rw [← hV] at bA gA
  have hF := bfew_any v b0 V (h.later bA)
  have hlen : (b0.take 40).length ≤ 40 := by simp; omega
  generalize b0.take 40 = bs at *
  have hg : w.heap.size < V.heap.size := (Array.getElem?_eq_some_iff.1 gA).1
  have hcells : ∀ W, Below V.heap.size V W → W.cell? ⟨w.heap.size, 0, none⟩ = some (.slice pu l.length cu) ∧ W.cell? ⟨w.heap.size, 1, none⟩ = some (.slice pt m.length ct) := by
    intro W hB
    have g1 := (hB.block _ hg).trans gA
    refine ⟨?_, ?_⟩ <;> (rw [cell_of_row _ _ _ _ _ _ g1]; rfl)
  have hu1 := hu.later bA
  have ht1 := ht.later bA
  have hT1 := hT.later bA
  have c1 := fun W (hB : Below V.heap.size V W) => leaf_any12 size (.slice pu l.length cu) (.slice pt m.length ct) (l, m) W (hu1.later hB) (ht1.later hB) (hT1.later hB)
  have c2 := fun W (hB : Below V.heap.size V W) => rleaf_any12 size (.slice pu l.length cu) (.slice pt m.length ct) (l, m) W (hu1.later hB) (ht1.later hB)
  generalize clF size (l, m) = F at *
  clear h hu ht hT hu1 ht1
  go_enter Tryd.func7, Tryd.ntmps7
  go_wp2_with fail
  rw [← hV]
  refine hF.mono ?_
  rintro e w1 ⟨p1, d1, rfl, k1, hw⟩
  have hw2 := hw.symm
  clear hw hF hV
  subst hw2
  have c3 := fun W (hB : Below V.heap.size V W) => leaves12_any size _ bs W (k1.later hB) (by omega) (hT1.later hB)
  have c4 := fun W (hB : Below V.heap.size V W) => rleaves12_any size _ bs W (k1.later hB) (by omega)
  have c5 := fun W (hB : Below V.heap.size V W) => list12_any size _ bs W (k1.later hB) (by omega) (hT1.later hB)
  have c6 := fun W (hB : Below V.heap.size V W) => rlist12_any size _ bs W (k1.later hB) (by omega)
  generalize bs.map (clF size) = ls at *
  generalize rootF size ls = G at *
  go_wp2
  have hb1 : Below V.heap.size V V.drew := (Below.refl _ V).drew
  have hHeld := hcells V.drew hb1
  refine wp_region_heldN (by kernel_rfl) (fun W => W.cell? ⟨w.heap.size, 0, none⟩ = some (.slice pu l.length cu) ∧ W.cell? ⟨w.heap.size, 1, none⟩ = some (.slice pt m.length ct)) 29 rfl ?_
  refine wpAnyH_take (i := 0) (oi := { dst := some 9, op := Op.move (Operand.tmp 0), type := 3, pos := "law.go:30", after := #[], guard := none }) (v := ?v0) rfl (by kernel_rfl) (by kernel_rfl) (by kernel_rfl) (fun _ _ _ h => h) (Or.inl ⟨by rfl, ?y0⟩) hHeld ?r0
  case y0 => (intro w hSw; (try dsimp only at hSw); go_simp) <;> with_reducible rfl
  try simp only [Act.put, List.setIfInBounds_toArray, List.set_cons_zero, List.set_cons_succ]
  refine wpAnyH_take (i := 1) (oi := { dst := some 10, op := Op.load 41 (Operand.tmp 5), type := 41, pos := "law.go:30", after := #[], guard := none }) (v := ?v1) rfl (by kernel_rfl) (by kernel_rfl) (by kernel_rfl) (fun _ _ _ h => h) (Or.inl ⟨by rfl, ?y1⟩) hHeld ?r1
  case y1 => (intro w hSw; (try dsimp only at hSw); go_simp) <;> with_reducible rfl
  try simp only [Act.put, List.setIfInBounds_toArray, List.set_cons_zero, List.set_cons_succ]
  refine wpAnyH_take (i := 3) (oi := { dst := some 12, op := Op.move (Operand.tmp 0), type := 3, pos := "law.go:30", after := #[], guard := none }) (v := ?v3) rfl (by kernel_rfl) (by kernel_rfl) (by kernel_rfl) (fun _ _ _ h => h) (Or.inl ⟨by rfl, ?y3⟩) hHeld ?r3
  case y3 => (intro w hSw; (try dsimp only at hSw); go_simp) <;> with_reducible rfl
  try simp only [Act.put, List.setIfInBounds_toArray, List.set_cons_zero, List.set_cons_succ]
  refine wpAnyH_take (i := 4) (oi := { dst := some 13, op := Op.load 41 (Operand.tmp 5), type := 41, pos := "law.go:30", after := #[], guard := none }) (v := ?v4) rfl (by kernel_rfl) (by kernel_rfl) (by kernel_rfl) (fun _ _ _ h => h) (Or.inl ⟨by rfl, ?y4⟩) hHeld ?r4
  case y4 => (intro w hSw; (try dsimp only at hSw); go_simp) <;> with_reducible rfl
  try simp only [Act.put, List.setIfInBounds_toArray, List.set_cons_zero, List.set_cons_succ]
  refine wpAnyH_ready (rs := [2]) (by kernel_rfl) (by simp) ?_
  refine AllReadyH.cons (o := { dst := some 11, op := Op.call { callee := Callee.value (Operand.func 22), args := #[Operand.tmp 9, Operand.tmp 10], argTypes := #[3, 41] }, type := 25, pos := "law.go:30", after := #[{ on := 0, ground := Ground.data }, { on := 1, ground := Ground.data }], guard := none }) rfl (fun K hK => ?_) AllReadyH.nil
  go_simp
  refine (c1 _ hb1).mono ?_
  rintro x w2 ⟨p2, d2, rfl, k2, hb2', _⟩
  have hb2 := hb1.trans (hb2'.mono hb1.size)
  replace hHeld := hcells w2 hb2
  refine hK.out _ _ ?_ (fun _ => ?_)
  · exact hHeld
  clear hK K
  try simp only [Act.put, List.setIfInBounds_toArray, List.set_cons_zero, List.set_cons_succ]
  refine wpAnyH_ready (rs := [5]) (by kernel_rfl) (by simp) ?_
  refine AllReadyH.cons (o := { dst := some 14, op := Op.call { callee := Callee.value (Operand.func 23), args := #[Operand.tmp 12, Operand.tmp 13], argTypes := #[3, 41] }, type := 25, pos := "law.go:30", after := #[{ on := 3, ground := Ground.data }, { on := 4, ground := Ground.data }, { on := 2, ground := Ground.chain }], guard := none }) rfl (fun K hK => ?_) AllReadyH.nil
  go_simp
  refine (c2 _ hb2).mono ?_
  rintro x w3 ⟨p3, d3, rfl, k3, hb3', _⟩
  have hb3 := hb2.trans (hb3'.mono hb2.size)
  replace hHeld := hcells w3 hb3
  have E1 := equal_t _ _ F F w3 (k2.later hb3') k3 rfl
  refine hK.out _ _ ?_ (fun _ => ?_)
  · exact hHeld
  clear hK K
  try simp only [Act.put, List.setIfInBounds_toArray, List.set_cons_zero, List.set_cons_succ]
  refine wpAnyH_ready (rs := [6]) (by kernel_rfl) (by simp) ?_
  refine AllReadyH.cons (o := { dst := some 15, op := Op.call { callee := Callee.value (Operand.func 9), args := #[Operand.tmp 11, Operand.tmp 14], argTypes := #[25, 25] }, type := 4, pos := "law.go:30", after := #[{ on := 2, ground := Ground.data }, { on := 5, ground := Ground.data }, { on := 5, ground := Ground.chain }], guard := none }) rfl (fun K hK => ?_) AllReadyH.nil
  go_simp
  refine E1.mono ?_
  rintro x w0 ⟨rfl, hw⟩
  have hw2 := hw.symm
  clear hw E1
  subst hw2
  refine hK.out _ _ ?_ (fun _ => ?_)
  · exact hHeld
  clear hK K
  try simp only [Act.put, List.setIfInBounds_toArray, List.set_cons_zero, List.set_cons_succ]
  refine wpAnyH_take (i := 7) (oi := { dst := some 16, op := Op.move (Operand.tmp 15), type := 4, pos := "law.go:30", after := #[{ on := 6, ground := Ground.data }, { on := 6, ground := Ground.chain }], guard := none }) (v := ?v7) rfl (by kernel_rfl) (by kernel_rfl) (by kernel_rfl) (fun _ _ _ h => h) (Or.inl ⟨by rfl, ?y7⟩) hHeld ?r7
  case y7 => (intro w hSw; (try dsimp only at hSw); go_simp) <;> with_reducible rfl
  try simp only [Act.put, List.setIfInBounds_toArray, List.set_cons_zero, List.set_cons_succ]
  refine wpAnyH_take (i := 8) (oi := { dst := some 17, op := Op.move (Operand.tmp 0), type := 3, pos := "law.go:30", after := #[{ on := 7, ground := Ground.guard }], guard := some (7, true) }) (v := ?v8) rfl (by kernel_rfl) (by kernel_rfl) (by kernel_rfl) (fun _ _ _ h => h) (Or.inl ⟨by rfl, ?y8⟩) hHeld ?r8
  case y8 => (intro w hSw; (try dsimp only at hSw); go_simp) <;> with_reducible rfl
  try simp only [Act.put, List.setIfInBounds_toArray, List.set_cons_zero, List.set_cons_succ]
  refine wpAnyH_take (i := 9) (oi := { dst := some 18, op := Op.move (Operand.tmp 1), type := 39, pos := "law.go:30", after := #[{ on := 7, ground := Ground.guard }], guard := some (7, true) }) (v := ?v9) rfl (by kernel_rfl) (by kernel_rfl) (by kernel_rfl) (fun _ _ _ h => h) (Or.inl ⟨by rfl, ?y9⟩) hHeld ?r9
  case y9 => (intro w hSw; (try dsimp only at hSw); go_simp) <;> with_reducible rfl
  try simp only [Act.put, List.setIfInBounds_toArray, List.set_cons_zero, List.set_cons_succ]
  refine wpAnyH_take (i := 11) (oi := { dst := some 20, op := Op.move (Operand.tmp 0), type := 3, pos := "law.go:30", after := #[{ on := 7, ground := Ground.guard }], guard := some (7, true) }) (v := ?v11) rfl (by kernel_rfl) (by kernel_rfl) (by kernel_rfl) (fun _ _ _ h => h) (Or.inl ⟨by rfl, ?y11⟩) hHeld ?r11
  case y11 => (intro w hSw; (try dsimp only at hSw); go_simp) <;> with_reducible rfl
  try simp only [Act.put, List.setIfInBounds_toArray, List.set_cons_zero, List.set_cons_succ]
  refine wpAnyH_take (i := 12) (oi := { dst := some 21, op := Op.move (Operand.tmp 1), type := 39, pos := "law.go:30", after := #[{ on := 7, ground := Ground.guard }], guard := some (7, true) }) (v := ?v12) rfl (by kernel_rfl) (by kernel_rfl) (by kernel_rfl) (fun _ _ _ h => h) (Or.inl ⟨by rfl, ?y12⟩) hHeld ?r12
  case y12 => (intro w hSw; (try dsimp only at hSw); go_simp) <;> with_reducible rfl
  try simp only [Act.put, List.setIfInBounds_toArray, List.set_cons_zero, List.set_cons_succ]
  refine wpAnyH_ready (rs := [10]) (by kernel_rfl) (by simp) ?_
  refine AllReadyH.cons (o := { dst := some 19, op := Op.call { callee := Callee.value (Operand.func 24), args := #[Operand.tmp 17, Operand.tmp 18], argTypes := #[3, 39] }, type := 22, pos := "law.go:30", after := #[{ on := 8, ground := Ground.data }, { on := 9, ground := Ground.data }, { on := 7, ground := Ground.chain }, { on := 7, ground := Ground.guard }], guard := some (7, true) }) rfl (fun K hK => ?_) AllReadyH.nil
  go_simp
  refine (c3 _ hb3).mono ?_
  rintro x w4 ⟨p4, d4, rfl, k4, hb4'⟩
  have hb4 := hb3.trans (hb4'.mono hb3.size)
  replace hHeld := hcells w4 hb4
  refine hK.out _ _ ?_ (fun _ => ?_)
  · exact hHeld
  clear hK K
  try simp only [Act.put, List.setIfInBounds_toArray, List.set_cons_zero, List.set_cons_succ]
  refine wpAnyH_ready (rs := [13]) (by kernel_rfl) (by simp) ?_
  refine AllReadyH.cons (o := { dst := some 22, op := Op.call { callee := Callee.value (Operand.func 25), args := #[Operand.tmp 20, Operand.tmp 21], argTypes := #[3, 39] }, type := 22, pos := "law.go:30", after := #[{ on := 11, ground := Ground.data }, { on := 12, ground := Ground.data }, { on := 10, ground := Ground.chain }, { on := 7, ground := Ground.guard }], guard := some (7, true) }) rfl (fun K hK => ?_) AllReadyH.nil
  go_simp
  refine (c4 _ hb4).mono ?_
  rintro x w5 ⟨p5, d5, rfl, k5, hb5'⟩
  have hb5 := hb4.trans (hb5'.mono hb4.size)
  replace hHeld := hcells w5 hb5
  have E2 := same_t _ _ ls ls w5 (k4.later hb5') k5 rfl
  refine hK.out _ _ ?_ (fun _ => ?_)
  · exact hHeld
  clear hK K
  try simp only [Act.put, List.setIfInBounds_toArray, List.set_cons_zero, List.set_cons_succ]
  refine wpAnyH_ready (rs := [14]) (by kernel_rfl) (by simp) ?_
  refine AllReadyH.cons (o := { dst := some 23, op := Op.call { callee := Callee.value (Operand.func 12), args := #[Operand.tmp 19, Operand.tmp 22], argTypes := #[22, 22] }, type := 4, pos := "law.go:30", after := #[{ on := 10, ground := Ground.data }, { on := 13, ground := Ground.data }, { on := 13, ground := Ground.chain }, { on := 7, ground := Ground.guard }], guard := some (7, true) }) rfl (fun K hK => ?_) AllReadyH.nil
  go_simp
  refine E2.mono ?_
  rintro x w0 ⟨rfl, hw⟩
  have hw2 := hw.symm
  clear hw E2
  subst hw2
  refine hK.out _ _ ?_ (fun _ => ?_)
  · exact hHeld
  clear hK K
  try simp only [Act.put, List.setIfInBounds_toArray, List.set_cons_zero, List.set_cons_succ]
  refine wpAnyH_take (i := 15) (oi := { dst := some 24, op := Op.pick (Operand.tmp 16) (Operand.tmp 23) (Operand.const (Value.bool false)), type := 4, pos := "law.go:30", after := #[{ on := 7, ground := Ground.data }, { on := 14, ground := Ground.data }], guard := none }) (v := ?v15) rfl (by kernel_rfl) (by kernel_rfl) (by kernel_rfl) (fun _ _ _ h => h) (Or.inl ⟨by rfl, ?y15⟩) hHeld ?r15
  case y15 => (intro w hSw; (try dsimp only at hSw); go_simp) <;> with_reducible rfl
  try simp only [Act.put, List.setIfInBounds_toArray, List.set_cons_zero, List.set_cons_succ]
  refine wpAnyH_take (i := 16) (oi := { dst := some 25, op := Op.move (Operand.tmp 24), type := 4, pos := "law.go:30", after := #[{ on := 15, ground := Ground.data }, { on := 14, ground := Ground.chain }], guard := none }) (v := ?v16) rfl (by kernel_rfl) (by kernel_rfl) (by kernel_rfl) (fun _ _ _ h => h) (Or.inl ⟨by rfl, ?y16⟩) hHeld ?r16
  case y16 => (intro w hSw; (try dsimp only at hSw); go_simp) <;> with_reducible rfl
  try simp only [Act.put, List.setIfInBounds_toArray, List.set_cons_zero, List.set_cons_succ]
  refine wpAnyH_take (i := 17) (oi := { dst := some 26, op := Op.move (Operand.tmp 0), type := 3, pos := "law.go:30", after := #[{ on := 16, ground := Ground.guard }], guard := some (16, true) }) (v := ?v17) rfl (by kernel_rfl) (by kernel_rfl) (by kernel_rfl) (fun _ _ _ h => h) (Or.inl ⟨by rfl, ?y17⟩) hHeld ?r17
  case y17 => (intro w hSw; (try dsimp only at hSw); go_simp) <;> with_reducible rfl
  try simp only [Act.put, List.setIfInBounds_toArray, List.set_cons_zero, List.set_cons_succ]
  refine wpAnyH_take (i := 18) (oi := { dst := some 27, op := Op.move (Operand.tmp 1), type := 39, pos := "law.go:30", after := #[{ on := 16, ground := Ground.guard }], guard := some (16, true) }) (v := ?v18) rfl (by kernel_rfl) (by kernel_rfl) (by kernel_rfl) (fun _ _ _ h => h) (Or.inl ⟨by rfl, ?y18⟩) hHeld ?r18
  case y18 => (intro w hSw; (try dsimp only at hSw); go_simp) <;> with_reducible rfl
  try simp only [Act.put, List.setIfInBounds_toArray, List.set_cons_zero, List.set_cons_succ]
  refine wpAnyH_take (i := 20) (oi := { dst := some 29, op := Op.move (Operand.tmp 0), type := 3, pos := "law.go:30", after := #[{ on := 16, ground := Ground.guard }], guard := some (16, true) }) (v := ?v20) rfl (by kernel_rfl) (by kernel_rfl) (by kernel_rfl) (fun _ _ _ h => h) (Or.inl ⟨by rfl, ?y20⟩) hHeld ?r20
  case y20 => (intro w hSw; (try dsimp only at hSw); go_simp) <;> with_reducible rfl
  try simp only [Act.put, List.setIfInBounds_toArray, List.set_cons_zero, List.set_cons_succ]
  refine wpAnyH_take (i := 21) (oi := { dst := some 30, op := Op.move (Operand.tmp 1), type := 39, pos := "law.go:30", after := #[{ on := 16, ground := Ground.guard }], guard := some (16, true) }) (v := ?v21) rfl (by kernel_rfl) (by kernel_rfl) (by kernel_rfl) (fun _ _ _ h => h) (Or.inl ⟨by rfl, ?y21⟩) hHeld ?r21
  case y21 => (intro w hSw; (try dsimp only at hSw); go_simp) <;> with_reducible rfl
  try simp only [Act.put, List.setIfInBounds_toArray, List.set_cons_zero, List.set_cons_succ]
  refine wpAnyH_ready (rs := [19]) (by kernel_rfl) (by simp) ?_
  refine AllReadyH.cons (o := { dst := some 28, op := Op.call { callee := Callee.value (Operand.func 26), args := #[Operand.tmp 26, Operand.tmp 27], argTypes := #[3, 39] }, type := 25, pos := "law.go:30", after := #[{ on := 17, ground := Ground.data }, { on := 18, ground := Ground.data }, { on := 16, ground := Ground.chain }, { on := 16, ground := Ground.guard }], guard := some (16, true) }) rfl (fun K hK => ?_) AllReadyH.nil
  go_simp
  refine (c5 _ hb5).mono ?_
  rintro x w6 ⟨p6, d6, rfl, k6, hb6'⟩
  have hb6 := hb5.trans (hb6'.mono hb5.size)
  replace hHeld := hcells w6 hb6
  refine hK.out _ _ ?_ (fun _ => ?_)
  · exact hHeld
  clear hK K
  try simp only [Act.put, List.setIfInBounds_toArray, List.set_cons_zero, List.set_cons_succ]
  refine wpAnyH_ready (rs := [22]) (by kernel_rfl) (by simp) ?_
  refine AllReadyH.cons (o := { dst := some 31, op := Op.call { callee := Callee.value (Operand.func 27), args := #[Operand.tmp 29, Operand.tmp 30], argTypes := #[3, 39] }, type := 25, pos := "law.go:30", after := #[{ on := 20, ground := Ground.data }, { on := 21, ground := Ground.data }, { on := 19, ground := Ground.chain }, { on := 16, ground := Ground.guard }], guard := some (16, true) }) rfl (fun K hK => ?_) AllReadyH.nil
  go_simp
  refine (c6 _ hb6).mono ?_
  rintro x w7 ⟨p7, d7, rfl, k7, hb7'⟩
  have hb7 := hb6.trans (hb7'.mono hb6.size)
  replace hHeld := hcells w7 hb7
  have E3 := equal_t _ _ G G w7 (k6.later hb7') k7 rfl
  refine hK.out _ _ ?_ (fun _ => ?_)
  · exact hHeld
  clear hK K
  try simp only [Act.put, List.setIfInBounds_toArray, List.set_cons_zero, List.set_cons_succ]
  refine wpAnyH_ready (rs := [23]) (by kernel_rfl) (by simp) ?_
  refine AllReadyH.cons (o := { dst := some 32, op := Op.call { callee := Callee.value (Operand.func 9), args := #[Operand.tmp 28, Operand.tmp 31], argTypes := #[25, 25] }, type := 4, pos := "law.go:30", after := #[{ on := 19, ground := Ground.data }, { on := 22, ground := Ground.data }, { on := 22, ground := Ground.chain }, { on := 16, ground := Ground.guard }], guard := some (16, true) }) rfl (fun K hK => ?_) AllReadyH.nil
  go_simp
  refine E3.mono ?_
  rintro x w0 ⟨rfl, hw⟩
  have hw2 := hw.symm
  clear hw E3
  subst hw2
  refine hK.out _ _ ?_ (fun _ => ?_)
  · exact hHeld
  clear hK K
  try simp only [Act.put, List.setIfInBounds_toArray, List.set_cons_zero, List.set_cons_succ]
  refine wpAnyH_take (i := 24) (oi := { dst := some 33, op := Op.pick (Operand.tmp 25) (Operand.tmp 32) (Operand.const (Value.bool false)), type := 4, pos := "law.go:30", after := #[{ on := 16, ground := Ground.data }, { on := 23, ground := Ground.data }], guard := none }) (v := ?v24) rfl (by kernel_rfl) (by kernel_rfl) (by kernel_rfl) (fun _ _ _ h => h) (Or.inl ⟨by rfl, ?y24⟩) hHeld ?r24
  case y24 => (intro w hSw; (try dsimp only at hSw); go_simp) <;> with_reducible rfl
  try simp only [Act.put, List.setIfInBounds_toArray, List.set_cons_zero, List.set_cons_succ]
  refine wpAnyH_take (i := 25) (oi := { dst := some 34, op := Op.move (Operand.tmp 33), type := 4, pos := "law.go:30", after := #[{ on := 24, ground := Ground.data }, { on := 23, ground := Ground.chain }], guard := none }) (v := ?v25) rfl (by kernel_rfl) (by kernel_rfl) (by kernel_rfl) (fun _ _ _ h => h) (Or.inl ⟨by rfl, ?y25⟩) hHeld ?r25
  case y25 => (intro w hSw; (try dsimp only at hSw); go_simp) <;> with_reducible rfl
  try simp only [Act.put, List.setIfInBounds_toArray, List.set_cons_zero, List.set_cons_succ]
  refine wpAnyH_ready (rs := [26]) (by kernel_rfl) (by simp) ?_
  refine AllReadyH.cons (o := { dst := some 35, op := Op.call { callee := Callee.value (Operand.func 28), args := #[], argTypes := #[] }, type := 4, pos := "law.go:30", after := #[{ on := 25, ground := Ground.chain }, { on := 25, ground := Ground.guard }], guard := some (25, true) }) rfl (fun K hK => ?_) AllReadyH.nil
  go_simp
  refine (bawake_any _).mono ?_
  rintro x w8 ⟨rfl, hb8'⟩
  have hb8 := hb7.trans (hb8'.mono hb7.size)
  replace hHeld := hcells w8 hb8
  refine hK.out _ _ ?_ (fun _ => ?_)
  · exact hHeld
  clear hK K
  try simp only [Act.put, List.setIfInBounds_toArray, List.set_cons_zero, List.set_cons_succ]
  refine wpAnyH_take (i := 27) (oi := { dst := some 36, op := Op.pick (Operand.tmp 34) (Operand.tmp 35) (Operand.const (Value.bool false)), type := 4, pos := "law.go:30", after := #[{ on := 25, ground := Ground.data }, { on := 26, ground := Ground.data }], guard := none }) (v := ?v27) rfl (by kernel_rfl) (by kernel_rfl) (by kernel_rfl) (fun _ _ _ h => h) (Or.inl ⟨by rfl, ?y27⟩) hHeld ?r27
  case y27 => (intro w hSw; (try dsimp only at hSw); go_simp) <;> with_reducible rfl
  try simp only [Act.put, List.setIfInBounds_toArray, List.set_cons_zero, List.set_cons_succ]
  refine wpAnyH_take (i := 28) (oi := { dst := some 6, op := Op.assign (Operand.tmp 36), type := 4, pos := "law.go:30", after := #[{ on := 27, ground := Ground.data }, { on := 26, ground := Ground.chain }, { on := 0, ground := Ground.phase }, { on := 1, ground := Ground.phase }, { on := 2, ground := Ground.phase }, { on := 3, ground := Ground.phase }, { on := 4, ground := Ground.phase }, { on := 5, ground := Ground.phase }, { on := 6, ground := Ground.phase }, { on := 7, ground := Ground.phase }, { on := 8, ground := Ground.phase }, { on := 9, ground := Ground.phase }, { on := 10, ground := Ground.phase }, { on := 11, ground := Ground.phase }, { on := 12, ground := Ground.phase }, { on := 13, ground := Ground.phase }, { on := 14, ground := Ground.phase }, { on := 15, ground := Ground.phase }, { on := 16, ground := Ground.phase }, { on := 17, ground := Ground.phase }, { on := 18, ground := Ground.phase }, { on := 19, ground := Ground.phase }, { on := 20, ground := Ground.phase }, { on := 21, ground := Ground.phase }, { on := 22, ground := Ground.phase }, { on := 23, ground := Ground.phase }, { on := 24, ground := Ground.phase }, { on := 25, ground := Ground.phase }, { on := 26, ground := Ground.phase }, { on := 27, ground := Ground.phase }], guard := none }) (v := ?v28) rfl (by kernel_rfl) (by kernel_rfl) (by kernel_rfl) (fun _ _ _ h => h) (Or.inl ⟨by rfl, ?y28⟩) hHeld ?r28
  case y28 => (intro w hSw; (try dsimp only at hSw); go_simp) <;> with_reducible rfl
  try simp only [Act.put, List.setIfInBounds_toArray, List.set_cons_zero, List.set_cons_succ]
  refine wpAnyH_done (by kernel_rfl) ?_ _
  have hbF := bA.trans (hb8.mono bA.size)
  clear hHeld hcells hb1 hb2 hb2' hb3 hb3' hb4 hb4' hb5 hb5' hb6 hb6' hb7 hb7' hb8 hb8' c1 c2 c3 c4 c5 c6 k1 k2 k3 k4 k5 k6 k7 gA bA hT1
  go_wp2
  go_ret
  exact ⟨rfl, hbF⟩

end Go.Proofs.YtichffdkihifpaaDoor

namespace Go.Proofs.YtichffdkihifpaaDoor
open Go.ChangeShapes Go.WideShapes Go.ChangeAt Go.RowKit

set_option maxRecDepth 100000 in
theorem changeListsContract (H : Type) (enc : TypeId × Value → H) (W : World) (base : Nat) (args : Array Value) (ds gs : List (DataW H)) (before : List MemPlace)
    (hval : ∀ (j : Nat) t v, Tryd.f7.params[j]? = some t → args[j]? = some v → Value.okWide Tryd.prog W .any base t v)
    (hW : DataW.Whole enc Tryd.prog Tryd.f7.params.toList Rows.changeListsSpec.vars false W args.toList ds gs before) (hsz0 : (DataW.weightsEach Tryd.prog (Tryd.f7.params.toList ++ (OpenSpec.ofChange Rows.changeListsSpec).bare.plain.varTypes Tryd.prog) (ds ++ gs)).all (· ≤ reachBytes) = true) (hL : laidMetH Tryd.prog Rows.changeListsRow.laid W) :
    Calls Tryd.prog 7 args W fun e W' => ∃ v, e = .returned v ∧ Rows.changeListsSpec.post enc Tryd.prog Tryd.f7 false true false false W args v W' := by
  have hT : Tabs W := tabs_of hL
  have hW' := hW
  obtain ⟨p, q, hA0, hV, rfl, hfz, hnd⟩ := hW
  have hA : DataW.TrodAll enc Tryd.prog W 0 (fun _ => true) true Tryd.f7.params.toList args.toList ds p := hA0
  rw [Tryd.params7] at hA hval hsz0
  obtain ⟨v0, vs0, d0, ds0, p0, q0, hargs, rfl, rfl, h0, r0⟩ := trodAll_cons hA
  obtain ⟨v1, vs1, d1, ds1, p1, q1, rfl, rfl, rfl, h1, r1⟩ := trodAll_cons r0
  obtain ⟨v2, vs2, d2, ds2, p2, q2, rfl, rfl, rfl, h2, r2⟩ := trodAll_cons r1
  obtain ⟨rfl, rfl, rfl⟩ := trodAll_nil r2
  obtain rfl : args = #[v0, v1, v2] := by cases args; simp_all
  obtain ⟨rfl, rfl⟩ := trodVars_none hV
  obtain ⟨a0, rfl, rfl, rfl, w0⟩ := open_int Tryd.underlying3 (hval 0 3 v0 rfl rfl) h0
  have k1 := h1
  have lt1 : ∀ x ∈ p1, x.block < W.heap.size := by obtain ⟨m, hm⟩ := k1; exact DataW.trod_lt m _ _ _ hm
  obtain ⟨bs1, hl1, hz1⟩ := open_binds (hval 1 39 v1 rfl rfl) h1
  have k2 := h2
  have lt2 : ∀ x ∈ p2, x.block < W.heap.size := by obtain ⟨m, hm⟩ := k2; exact DataW.trod_lt m _ _ _ hm
  obtain ⟨bu2, bt2, bl2, bm2, rfl, hl2, hm2⟩ := open_bind (hval 2 41 v2 rfl rfl) h2
  clear hA0
  simp only [List.append_nil] at hW'
  refine (clistsWalk a0 v1 bu2 bt2 bs1 bl2 bm2 W hl1 hl2 hm2 hT).mono fun e W' ⟨he, bel⟩ => ?_
  subst he
  exact ⟨_, rfl, _, _, _, [], _, [], hW', trodAll_mk1 (shut_bool Tryd.underlying4 _), (trodAll_cons_mk (shut_int Tryd.underlying3 w0) (trodAll_cons_mk (Below.trod laidOut (by kernel_rfl) (of_decide_eq_true (by kernel_rfl)) k1 bel lt1) (trodAll_cons_mk (Below.trod laidOut (by kernel_rfl) (of_decide_eq_true (by kernel_rfl)) k2 bel lt2) trodAll_mk0))), rfl, bel.frame _, fun h => by cases h⟩

theorem changeListsMet (os : Os) : laidMet Tryd.prog Rows.changeListsRow.laid (({ World.holding Tryd.prog os ⟨#[], #[], []⟩ with heap := ((World.holding Tryd.prog os ⟨#[], #[], []⟩).heap.modify 0 fun | .cells _ t frozen => .cells startCells t frozen | o => o).modify 1 fun | .cells _ t frozen => .cells roundsCells t frozen | o => o } : World).forCall (fun _ _ => 0) ⟨#[], #[.int .i64 0, .slice none 0 0, .agg #[.slice none 0 0, .slice none 0 0]], []⟩).memory :=
  laidMet_of_run' 8 (by kernel_rfl) (by kernel_rfl)
theorem changeListsReads (os : Os) {H : Type} (enc : TypeId × Value → H) : ∃ places, DataW.whole enc Tryd.prog (({ World.holding Tryd.prog os ⟨#[], #[], []⟩ with heap := ((World.holding Tryd.prog os ⟨#[], #[], []⟩).heap.modify 0 fun | .cells _ t frozen => .cells startCells t frozen | o => o).modify 1 fun | .cells _ t frozen => .cells roundsCells t frozen | o => o } : World).forCall (fun _ _ => 0) ⟨#[], #[.int .i64 0, .slice none 0 0, .agg #[.slice none 0 0, .slice none 0 0]], []⟩).memory Tryd.f7.params.toList Rows.changeListsSpec.vars false (#[.int .i64 0, .slice none 0 0, .agg #[.slice none 0 0, .slice none 0 0]] : Array Value).toList 8 = some ([.lit (.int .i64 0), .nil, .agg [.nil, .nil]], [], places) :=
  ⟨[], by kernel_rfl⟩

set_option maxRecDepth 100000 in
theorem changeListsLifted (os : Os) (started : os.Started) (H : Type) (enc : TypeId × Value → H) (F : Stop.Interp) :
    ReturnsInHanded {} Tryd.checked os 7 .any ((OpenSpec.ofChange Rows.changeListsSpec).preRow enc Tryd.prog Tryd.f7 Rows.changeListsRow.domain false Rows.changeListsRow.laid) (((OpenSpec.ofChange Rows.changeListsSpec).at F).post enc Tryd.prog Tryd.f7 false true false false) := by
  obtain ⟨places, hx⟩ := changeListsReads os enc
  refine returnsInHanded_of_row (C := Tryd.checked) (s := OpenSpec.ofChange Rows.changeListsSpec) own started (by kernel_rfl) Tryd.func7
    (witness_row_at (enc := enc) (C := Tryd.checked) false ({ World.holding Tryd.prog os ⟨#[], #[], []⟩ with heap := ((World.holding Tryd.prog os ⟨#[], #[], []⟩).heap.modify 0 fun | .cells _ t frozen => .cells startCells t frozen | o => o).modify 1 fun | .cells _ t frozen => .cells roundsCells t frozen | o => o } : World) #[.int .i64 0, .slice none 0 0, .agg #[.slice none 0 0, .slice none 0 0]] rfl (by kernel_rfl) (by kernel_rfl) (by kernel_rfl)
      (OpenSpec.preRow_of_cond 8 hx (by kernel_rfl) (fun k hk => by cases hk) (by kernel_rfl) (changeListsMet os))) ?_
  intro W base args ds gs before hval hW _ _ hsz hL _ _
  exact changeListsContract H enc W base args ds gs before hval hW hsz hL

theorem changeListsSaid_holds : Rows.ChangeListsSaid :=
  OpenClaim.holds_of_cond 7 Tryd.f7 rfl rfl rfl rfl rfl rfl rfl ⟨rfl, rfl, rfl, rfl, rfl⟩ rfl rfl rfl rfl rfl (by kernel_rfl) Tryd.func7 (by kernel_rfl)
    (of_decide_eq_true (by kernel_rfl)) (by unfold Func.isWrapper; first | (rw [if_pos (by decide +kernel)]; kernel_rfl) | (rw [if_neg (by decide +kernel)]; exact ⟨rfl, rfl⟩))
    (fun os started H enc _ F => by rw [OpenClaim.pre_eq_preRow]; exact changeListsLifted os started H enc F)

theorem changeListsPlain (f : FuncId) (fn : Func) (hf : Tryd.pinned.checked.prog.funcNamed "annals/annalslaw12.ChangeLists" = some f) (hfn : Tryd.pinned.checked.prog.funcs[f]? = some fn) :
    false = Tryd.pinned.checked.prog.looks [] ∧ ∀ (j : Nat) t, fn.params[j]? = some t → Tryd.pinned.checked.prog.wantsStandIn t = false := by
  obtain rfl : f = 7 := Option.some.inj ((show Tryd.prog.funcNamed "annals/annalslaw12.ChangeLists" = some 7 by kernel_rfl).symm.trans hf) |>.symm
  obtain rfl : fn = Tryd.f7 := (Option.some.inj (Tryd.func7.symm.trans hfn)).symm
  refine ⟨by kernel_rfl, fun j t ht => ?_⟩
  rw [Tryd.params7] at ht
  have hm : t = 3 ∨ t = 39 ∨ t = 41 := by simpa using Array.mem_of_getElem? ht
  rcases hm with rfl | rfl | rfl
  · exact (show Tryd.prog.wantsStandIn 3 = false by kernel_rfl)
  · exact (show Tryd.prog.wantsStandIn 39 = false by kernel_rfl)
  · exact (show Tryd.prog.wantsStandIn 41 = false by kernel_rfl)

theorem changeLists_holds : Rows.ChangeListsCardSaid :=
  Claim7.holds_tied_plain_at .later [] _ _ _ _ changeListsSaid_holds (fun _ h => by cases h) (by kernel_rfl) (fun _ h => by cases h) changeLists_row_tie rfl ⟨rfl, rfl⟩ (by kernel_rfl) rfl changeListsPlain (by kernel_rfl)

#print axioms changeLists_holds
end Go.Proofs.YtichffdkihifpaaDoor
