/- What this text holds: a row of N rows of bytes that the call made, the first k of them laid (plain facts). What this text proves: the walks of change.Leaf, Leaves, List and the document's (annalsref12) over this program: the digests of a batch, and their root. What this text holds: plain facts (no program) on what shows a page: the cuts' epochs, the lists of digests. -/
import Derived.Test.YtggficgmjbgmpaaDoorJKr
import Derived.Test.YtggficgmjbgmpaaDoorOwn
import Derived.Test.YtggficgmjbgmpaaDoorBVocab
import Derived.Test.YtggficgmjbgmpaaDoorJKt
import Derived.Test.YtggficgmjbgmpaaDoorJFdPlain
import Derived.Test.YtggficgmjbgmpaaDoorJFdRows
namespace Go.Proofs.YtggficgmjbgmpaaDoor
open Go.RowKit

/-- A made list of N rows of bytes that the call owns, the first k of them told. -/
def RQ (w : World) (base g N k : Nat) (sig : Nat → List UInt8) : Prop :=
  ∃ vs : List Value, w.ownsRow base 39 1 (.slice (some ⟨g, 0, none⟩) N N) N vs ∧ ∀ (j : Nat) u, j < k → vs[j]? = some u → HB w u (sig j) ∧ TB w u

theorem RQ.later {w w' : World} {base g N k : Nat} {sig : Nat → List UInt8} (h : RQ w base g N k sig) (hb : Below w.heap.size w w') : RQ w' base g N k sig := by
  obtain ⟨vs, h1, h3⟩ := h
  exact ⟨vs, owns_later h1 hb, fun j u hj hu => ⟨(h3 j u hj hu).1.later hb, (h3 j u hj hu).2.later hb⟩⟩

theorem RQ.rs {w : World} {base g N : Nat} {sig : Nat → List UInt8} (h : RQ w base g N N sig) : RS w base (.slice (some ⟨g, 0, none⟩) N N) N sig := by
  obtain ⟨vs, h1, h3⟩ := h
  have hl := h1.1
  rw [Nat.mul_one] at hl
  exact ⟨vs, h1, fun j u hu => h3 j u (by have := (List.getElem?_eq_some_iff.1 hu).1; omega) hu⟩

theorem RQ.cell {w : World} {base g N k : Nat} {sig : Nat → List UInt8} (h : RQ w base g N k sig) (i : Nat) (hi : i < N) : ∃ y, w.cell? ⟨g, i, none⟩ = some y ∧ w.frozen? ⟨g, i, none⟩ = false := by
  obtain ⟨vs, q1, _⟩ := h
  have hl := q1.1
  rw [Nat.mul_one] at hl
  have hc := q1.cellAt i (by omega)
  rw [List.getElem?_eq_getElem (by omega)] at hc
  exact ⟨_, hc, q1.frozenAt i⟩

theorem RQ.put {w : World} {base g N k : Nat} {sig : Nat → List UInt8} (h : RQ w base g N k sig) (x : Value) (hx : HB w x (sig k)) (tx : TB w x) : RQ (w.setCell ⟨g, k, none⟩ x) base g N (k + 1) sig := by
  obtain ⟨vs, h1, h3⟩ := h
  obtain ⟨q1, q2⟩ := h1.stored k x
  refine ⟨vs.set k x, q1, fun j u hj hu => ?_⟩
  by_cases hjk : k = j
  · subst hjk
    rw [List.getElem?_set_self'] at hu
    cases hv : vs[k]? with
    | none => rw [hv] at hu; simp at hu
    | some y =>
      rw [hv] at hu
      simp at hu
      subst hu
      exact hb_grown h1 q2 hx tx
  · rw [List.getElem?_set_ne hjk] at hu
    obtain ⟨a, b⟩ := h3 j u (by omega) hu
    exact hb_grown h1 q2 a b

end Go.Proofs.YtggficgmjbgmpaaDoor

namespace Go.Proofs.YtggficgmjbgmpaaDoor
open Go.RowKit

/-- A change's digest. -/
def clF (size : Int) (x : List UInt8 × List UInt8) : List UInt8 := hashF size 3 [x.1, x.2]

set_option maxRecDepth 100000 in
set_option maxHeartbeats 1000000 in
theorem leaf_any12 (size : Int) (u t : Value) (x : List UInt8 × List UInt8) (w : World) (hu : HB w u x.1) (ht : HB w t x.2) (hT : Tabs w) :
    Calls Tryd.prog 33 #[.int .i64 size, .agg #[u, t]] w fun e w' => ∃ p c, e = .returned (.slice p (clF size x).length c) ∧ HB w' (.slice p (clF size x).length c) (clF size x) ∧ Below w.heap.size w w' ∧ TB w' (.slice p (clF size x).length c) := by
  obtain ⟨pu, cu, rfl⟩ := hu.shape
  obtain ⟨pt, ct, rfl⟩ := ht.shape
  have bA := (Below.refl w.heap.size w).alloc (Nat.le_refl _) (.cells #[.slice pu x.1.length cu, .slice pt x.2.length ct] 51)
  have sA : (w.alloc (.cells #[.slice pu x.1.length cu, .slice pt x.2.length ct] 51)).heap.size = w.heap.size + 1 := by simp
  have hpa := PA.two (w.alloc (.cells #[.slice pu x.1.length cu, .slice pt x.2.length ct] 51)) _ _ _ _ (hu.later bA) (ht.later bA)
  have bB := bA.alloc bA.size (.cells #[.slice pu x.1.length cu, .slice pt x.2.length ct] 39)
  have hH := hash_toT size 3 _ [x.1, x.2] _ (by simp) (by decide) hpa (hT.later bB)
  rw [sA] at hH
  have HB0 : Hid (Below w.heap.size w ((w.alloc (.cells #[.slice pu x.1.length cu, .slice pt x.2.length ct] 51)).alloc (.cells #[.slice pu x.1.length cu, .slice pt x.2.length ct] 39))) := bB
  have e : hashF size 3 [x.1, x.2] = clF size x := rfl
  rw [e] at hH
  clear hpa bA bB hT hu ht sA e
  generalize clF size x = F at *
  go_enter Tryd.func33, Tryd.ntmps33
  go_wp2_with fail
  refine hH.mono ?_
  rintro r w1 ⟨p1, c1, rfl, k1, hb1, t1⟩
  have hb := HB0.out.trans (hb1.mono HB0.out.size)
  clear hH HB0 hb1
  go_wp2
  go_ret
  exact ⟨p1, c1, rfl, k1, hb, t1⟩

set_option maxRecDepth 100000 in
set_option maxHeartbeats 1000000 in
theorem rleaf_any12 (size : Int) (u t : Value) (x : List UInt8 × List UInt8) (w : World) (hu : HB w u x.1) (ht : HB w t x.2) :
    Calls Tryd.prog 40 #[.int .i64 size, .agg #[u, t]] w fun e w' => ∃ p c, e = .returned (.slice p (clF size x).length c) ∧ HB w' (.slice p (clF size x).length c) (clF size x) ∧ Below w.heap.size w w' ∧ TB w' (.slice p (clF size x).length c) := by
  obtain ⟨pu, cu, rfl⟩ := hu.shape
  obtain ⟨pt, ct, rfl⟩ := ht.shape
  have bA := (Below.refl w.heap.size w).alloc (Nat.le_refl _) (.cells #[.slice pu x.1.length cu, .slice pt x.2.length ct] 51)
  have sA : (w.alloc (.cells #[.slice pu x.1.length cu, .slice pt x.2.length ct] 51)).heap.size = w.heap.size + 1 := by simp
  have hpa := PA.two (w.alloc (.cells #[.slice pu x.1.length cu, .slice pt x.2.length ct] 51)) _ _ _ _ (hu.later bA) (ht.later bA)
  have bB := bA.alloc bA.size (.cells #[.slice pu x.1.length cu, .slice pt x.2.length ct] 39)
  have hH := rhash_toT size 3 _ [x.1, x.2] _ (by simp) (by decide) hpa
  rw [sA] at hH
  have HB0 : Hid (Below w.heap.size w ((w.alloc (.cells #[.slice pu x.1.length cu, .slice pt x.2.length ct] 51)).alloc (.cells #[.slice pu x.1.length cu, .slice pt x.2.length ct] 39))) := bB
  have e : hashF size 3 [x.1, x.2] = clF size x := rfl
  rw [e] at hH
  clear hpa bA bB hu ht sA e
  generalize clF size x = F at *
  go_enter Tryd.func40, Tryd.ntmps40
  go_wp2_with fail
  refine hH.mono ?_
  rintro r w1 ⟨p1, c1, rfl, k1, hb1, t1⟩
  have hb := HB0.out.trans (hb1.mono HB0.out.size)
  clear hH HB0 hb1
  go_wp2
  go_ret
  exact ⟨p1, c1, rfl, k1, hb, t1⟩

set_option maxRecDepth 100000 in
set_option maxHeartbeats 4000000 in
theorem leaves12_any (size : Int) (v : Value) (bs : List (List UInt8 × List UInt8)) (w : World) (h : BA w v bs) (hbig : bs.length ≤ 1048576) (hT : Tabs w) :
    Calls Tryd.prog 22 #[.int .i64 size, v] w fun e w' => ∃ p c, e = .returned (.slice p (bs.map (clF size)).length c) ∧ PA w' (.slice p (bs.map (clF size)).length c) (bs.map (clF size)) ∧ Below w.heap.size w w' := by
  obtain ⟨p, c, rfl⟩ := h.shape
  rw [List.length_map]
  obtain ⟨i0, hi0, hz0, hz1, hz2⟩ := info_parts i_bytes
  have hsig : ∀ k x, bs[k]? = some x → (fun j => (bs.map (clF size)).getD j []) k = clF size x := by
    intro k x hx
    simp [List.getD, hx]
  have HP : Hid ((List.range bs.length).map (fun j => (bs.map (clF size)).getD j []) = bs.map (clF size)) := by
    show _ = _
    apply List.ext_getElem
    · simp
    · intro i h1 h2; simp at h1; simp [List.getD, h1]
  generalize (fun j => (bs.map (clF size)).getD j []) = sig at *
  have HS : Hid (∀ k x, bs[k]? = some x → sig k = clF size x) := hsig
  clear hsig
  go_enter Tryd.func22, Tryd.ntmps22
  go_wp2_with (first | (at_make; refine wpList_make_full _ rfl _ _ 33 rfl w.heap.size 39 i0 (.slice none 0 0) 1 Tryd.underlying33 hi0 hz0 hz1 .i64 .i64 _ _ bs.length rfl rfl ?_ ?_ ?_ ?_ ?_ ?_))
  all_goals (try (first | omega | (unfold maxLen; omega) | (rw [hz2]; omega)))
  intro w1 hown1 hgrow1
  have hb1 : Below w.heap.size w w1 := (Below.refl _ w).grown hgrow1 (Nat.le_refl _) (by intro k hk; cases hk)
  have hq1 : RQ w1 w.heap.size w.heap.size bs.length 0 sig := ⟨_, hown1, fun j u hj => by omega⟩
  clear hown1 hgrow1
  go_wp2
  go_loopw [13] (fun i wr => ∃ k : Nat, k ≤ bs.length ∧ i = .int .i64 k ∧ RQ wr w.heap.size w.heap.size bs.length k sig ∧ Below w.heap.size w wr) (fun i _ => bs.length - (intOf i).toNat)
  case atStart => exact ⟨0, Nat.zero_le _, rfl, hq1, hb1⟩
  case round =>
    obtain ⟨k, hk, rfl, hq, hbe⟩ := hrel
    clear hq1 hb1
    have hsz := hbe.size
    by_cases hlt : k < bs.length
    · obtain ⟨bl, o, rfl⟩ := h.addr (by omega)
      obtain ⟨x, q, kc, r, d, hx, c1, c2, h1, h2⟩ := h.get k hlt
      have hlt2 : (k : Int) < (bs.length : Int) := by omega
      have e1 := cell_later hbe c1
      have e2 := cell_later hbe c2
      have bA := (Below.refl wr.heap.size wr).alloc (Nat.le_refl _) (.cells #[.slice q x.1.length kc, .slice r x.2.length d] 51)
      have hbA := hbe.alloc hsz (.cells #[.slice q x.1.length kc, .slice r x.2.length d] 51)
      have hqA := hq.later bA
      have hL := leaf_any12 size (.slice q x.1.length kc) (.slice r x.2.length d) x _ (h1.later hbA) (h2.later hbA) (hT.later hbA)
      rw [← HS.out k x hx] at hL
      clear h1 h2 c1 c2 hx hq
      go_wp2_with fail
      refine hL.mono ?_
      rintro e w3 ⟨p3, c3, rfl, h3, hb3, t3⟩
      have hq3 := hqA.later hb3
      have hb03 := hbA.trans (hb3.mono hbA.size)
      obtain ⟨y, cy, fy⟩ := hq3.cell k hlt
      have hq4 := hq3.put _ h3 t3
      have hb4 : Below w.heap.size w (w3.setCell ⟨w.heap.size, k, none⟩ (.slice p3 (sig k).length c3)) := hb03.setCell (Nat.le_refl _) _
      clear hqA hq3 hb3 hb03 h3 t3 hL bA hbA e1 e2
      go_wp2
      go_roundw
      case rel => exact ⟨k + 1, by omega, by go_num, hq4, hb4⟩
      case measure => simp [intOf]; omega
    · obtain rfl : k = bs.length := by omega
      have hpa := hq.rs.pa
      rw [HP.out] at hpa
      clear hq h HS HP
      go_wp2
      go_ret
      exact ⟨_, _, rfl, hpa, hbe⟩

set_option maxRecDepth 100000 in
set_option maxHeartbeats 4000000 in
theorem rleaves12_any (size : Int) (v : Value) (bs : List (List UInt8 × List UInt8)) (w : World) (h : BA w v bs) (hbig : bs.length ≤ 1048576) :
    Calls Tryd.prog 25 #[.int .i64 size, v] w fun e w' => ∃ p c, e = .returned (.slice p (bs.map (clF size)).length c) ∧ PA w' (.slice p (bs.map (clF size)).length c) (bs.map (clF size)) ∧ Below w.heap.size w w' := by
  obtain ⟨p, c, rfl⟩ := h.shape
  obtain ⟨i0, hi0, hz0, hz1, hz2⟩ := info_parts i_bytes
  go_enter Tryd.func25, Tryd.ntmps25
  go_wp2
  go_loopw [5, 10] (fun v i wr => ∃ k : Nat, k ≤ bs.length ∧ i = .int .i64 (k : Int) ∧ RL wr w.heap.size v ((bs.take k).map (clF size)) ∧ Below w.heap.size w wr) (fun _ i _ => bs.length - (intOf i).toNat)
  case atStart => exact ⟨0, Nat.zero_le _, rfl, RL.nil _ _, Below.refl _ _⟩
  case round =>
    obtain ⟨k, hk, rfl, hr, hbe⟩ := hrel
    have hsz := hbe.size
    by_cases hlt : k < bs.length
    · obtain ⟨bl, o, rfl⟩ := h.addr (by omega)
      obtain ⟨x, q, kc, r, d, hx, c1, c2, h1, h2⟩ := h.get k hlt
      have hlt2 : (k : Int) < (bs.length : Int) := by omega
      have e1 := cell_later hbe c1
      have e2 := cell_later hbe c2
      have bA := (Below.refl wr.heap.size wr).alloc (Nat.le_refl _) (.cells #[.slice q x.1.length kc, .slice r x.2.length d] 51)
      have hbA := hbe.alloc hsz (.cells #[.slice q x.1.length kc, .slice r x.2.length d] 51)
      have hrA := hr.later bA
      have hL := rleaf_any12 size (.slice q x.1.length kc) (.slice r x.2.length d) x _ (h1.later hbA) (h2.later hbA)
      have HT : Hid ((bs.take k).map (clF size) ++ [clF size x] = (bs.take (k + 1)).map (clF size)) := by
        show _ = _
        rw [List.take_add_one, hx]
        simp
      have hAl : ((bs.take k).map (clF size)).length ≤ 1048576 := by simp; omega
      generalize (bs.take k).map (clF size) = A at *
      generalize clF size x = F at *
      clear h1 h2 c1 c2 hx hr
      go_wp2_with fail
      refine hL.mono ?_
      rintro e w3 ⟨p3, c3, rfl, h3, hb3, t3⟩
      have hb03 := hbA.trans (hb3.mono hbA.size)
      obtain ⟨vs, o3, q3⟩ := hrA.later hb3
      have bB := (Below.refl w3.heap.size w3).alloc (Nat.le_refl _) (.cells #[.slice p3 F.length c3] 39)
      have oB := owns_later o3 bB
      have s3 := hb03.size
      clear hL hrA bA hbA hb3 e1 e2
      go_wp2_with (first | (at_builtin; refine wpList_append_own _ rfl (.tmp 14) (.tmp 18) 33 rfl w.heap.size 39 i0 (.slice none 0 0) 1 24 Tryd.underlying33 hi0 hz0 hz1 hz2 rfl (by decide) _ _ _ rfl oB ⟨w3.heap.size, 0, none⟩ 1 1 [.slice p3 F.length c3] rfl rfl (cell_one_new _ _ _) ?ub ?uc ?ud ?ue ?_))
      case ub => first | rfl | (intro u hu; simp at hu; subst hu; rfl)
      case uc => unfold maxLen; omega
      case ud => omega
      case ue => first | omega | (simp; omega)
      intro v6 w6 hown6 hgrow6 _
      have r6 : RL w6 w.heap.size v6 (A ++ [F]) := RL.snoc oB (fun j u hu => ⟨(q3 j u hu).1.later bB, (q3 j u hu).2.later bB⟩) (h3.later bB) (t3.later bB) hgrow6 hown6
      have hb6 : Below w.heap.size w w6 := (hb03.alloc s3 _).grown hgrow6 (by simp; omega) (fun k hk => (oB.lt k hk).1)
      rw [HT.out] at r6
      clear hown6 hgrow6 oB o3 q3 bB h3 t3 HT
      go_wp2
      go_roundw
      case rel => exact ⟨k + 1, by omega, by go_num, r6, hb6⟩
      case measure => simp [intOf]; omega
    · obtain rfl : k = bs.length := by omega
      rw [List.take_length] at hr
      have hpa := hr.pa
      obtain ⟨p3, c3, hv⟩ := hpa.shape
      subst hv
      clear hr h
      go_wp2
      go_ret
      exact ⟨_, _, rfl, hpa, hbe⟩

theorem clF_le (size : Int) (bs : List (List UInt8 × List UInt8)) : ∀ l ∈ bs.map (clF size), l.length ≤ 140737488355328 := by
  intro l hl
  obtain ⟨x, _, rfl⟩ := List.mem_map.1 hl
  exact Nat.le_trans (hashF_le32 _ _ _) (by decide)

set_option maxRecDepth 100000 in
set_option maxHeartbeats 1000000 in
theorem rlist12_any (size : Int) (v : Value) (bs : List (List UInt8 × List UInt8)) (w : World) (h : BA w v bs) (hbig : bs.length ≤ 1048576) :
    Calls Tryd.prog 19 #[.int .i64 size, v] w fun e w' => ∃ p c, e = .returned (.slice p (rootF size (bs.map (clF size))).length c) ∧ HB w' (.slice p (rootF size (bs.map (clF size))).length c) (rootF size (bs.map (clF size))) ∧ Below w.heap.size w w' := by
  have hL := rleaves12_any size v bs w h hbig
  have hR := fun v W (hp : PA W v (bs.map (clF size))) => rroot_any size 20 v (bs.map (clF size)) W hp (by simp; omega) (by simp; omega) (clF_le size bs)
  obtain ⟨p, c, rfl⟩ := h.shape
  generalize bs.map (clF size) = ls at *
  generalize rootF size ls = F at *
  clear h
  go_enter Tryd.func19, Tryd.ntmps19
  go_wp2_with fail
  refine hL.mono ?_
  rintro r w1 ⟨p1, c1, rfl, k1, hb1⟩
  have hR' := hR _ _ k1
  clear hL hR k1
  go_wp2_with fail
  refine hR'.mono ?_
  rintro r w2 ⟨p2, c2, rfl, k2, hb2, _⟩
  have hb := hb1.trans (hb2.mono hb1.size)
  clear hR' hb1 hb2
  go_wp2
  go_ret
  exact ⟨p2, c2, rfl, k2, hb⟩

end Go.Proofs.YtggficgmjbgmpaaDoor

namespace Go.Proofs.YtggficgmjbgmpaaDoor

theorem cutsG_idx : ∀ (T : List Int) (k : Nat) (fr lf : Int) (i : Nat) (x : Nat × Int × Int), (cutsG k T fr lf)[i]? = some x → x.1 = k + i ∧ i < T.length := by
  intro T
  induction T with
  | nil => intro k fr lf i x h; simp [cutsG] at h
  | cons c cs ih =>
    intro k fr lf i x h
    rw [cutsG] at h
    split at h
    · simp at h
    · cases i with
      | zero => simp at h; subst h; exact ⟨rfl, by simp⟩
      | succ i =>
        rw [List.getElem?_cons_succ] at h
        obtain ⟨h1, h2⟩ := ih (k + 1) 0 _ i x h
        exact ⟨by omega, by simp; omega⟩

theorem cutsG_mem (T : List Int) (fr lf : Int) (x : Nat × Int × Int) (h : x ∈ cutsG 0 T fr lf) : x.1 < T.length := by
  obtain ⟨i, hi⟩ := List.mem_iff_getElem?.1 h
  obtain ⟨h1, h2⟩ := cutsG_idx T 0 fr lf i x hi
  omega

theorem cutsG_range : ∀ (T : List Int) (k : Nat) (fr lf : Int), (∀ x ∈ T, x ≤ 9223372036854775807) → ∀ x ∈ cutsG k T fr lf, 0 ≤ x.2.1 ∧ x.2.1 < x.2.2 ∧ x.2.2 ≤ 9223372036854775807 := by
  intro T
  induction T with
  | nil => intro k fr lf _ x h; simp [cutsG] at h
  | cons c cs ih =>
    intro k fr lf hT x h
    rw [cutsG] at h
    split at h
    · simp at h
    · have hc := hT c (by simp)
      rcases List.mem_cons.1 h with rfl | h
      · refine ⟨?_, ?_, ?_⟩ <;> simp only <;> omega
      · exact ih (k + 1) 0 _ (fun x hx => hT x (by simp [hx])) x h

/-- How many changes each batch has. -/
def cntL (bss : List (List (List UInt8 × List UInt8))) : List Int := bss.map fun b => (b.length : Int)

/-- What shows one cut. -/
def prv1 (size : Int) (bss : List (List (List UInt8 × List UInt8))) (x : Nat × Int × Int) : List (List UInt8) := rngF size ((bss.getD x.1 []).map (clF size)) x.2.1 x.2.2

/-- What shows a page. -/
def prvF (size : Int) (bss : List (List (List UInt8 × List UInt8))) (ix lm : Int) : List (List (List UInt8)) := (cutsG 0 (cntL bss) ix lm).map (prv1 size bss)

theorem cntL_len (bss : List (List (List UInt8 × List UInt8))) : (cntL bss).length = bss.length := by unfold cntL; simp
theorem cntL_take (bss : List (List (List UInt8 × List UInt8))) (k : Nat) (x : List (List UInt8 × List UInt8)) (h : bss[k]? = some x) : cntL (bss.take k) ++ [(x.length : Int)] = cntL (bss.take (k + 1)) := by
  unfold cntL
  rw [List.take_add_one, h]
  simp
theorem cntL_w (bss : List (List (List UInt8 × List UInt8))) (h : ∀ b ∈ bss, b.length ≤ 1000000) : ∀ x ∈ cntL bss, -9223372036854775808 ≤ x ∧ x ≤ 9223372036854775807 := by
  intro x hx
  unfold cntL at hx
  obtain ⟨b, hb, rfl⟩ := List.mem_map.1 hx
  have := h b hb
  omega

end Go.Proofs.YtggficgmjbgmpaaDoor
