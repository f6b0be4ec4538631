/- What this text proves: the walks of the document's LeafHash and ForkHash (annalsref09) over this program. What this text proves: a law for a walk: an append of a slice of bytes, whatever it holds, onto a row that the call owns, at a step of a region that draws (any program). What this text proves: the walks of the document's arena and tree (annalsref09, annalsref10) over this program, at a place where no node stands. What this text proves: the walk of the document's put (annalsref09) over this program, of an arena without nodes: a first node. What this text proves: the walk of the document's Leaf (annalsref09) over this program, of an arena without nodes: a first leaf. What this text proves: the walks of the document's Needs and Insert (annalsref10) over this program, of an arena without nodes: the errors, and a first leaf. What this text proves: the walk of the document's Insert (annalsref10) over this program, of an arena without nodes: a first leaf. -/
import Derived.Test.YtahfjemllkbpgaaGreatDoorJA3
import Derived.Test.YtahfjemllkbpgaaGreatDoorJB2
import Derived.Test.YtahfjemllkbpgaaGreatDoorJK2
import Derived.Test.YtahfjemllkbpgaaGreatDoorLaws
import Derived.Deep.AppendLies
import Derived.Laws.AppendOwnNone
import Derived.Test.YtahfjemllkbpgaaGreatDoorJA5
import Derived.Test.YtahfjemllkbpgaaGreatDoorJA2
namespace Go.Proofs.YtahfjemllkbpgaaGreatDoor
open Go.RowKit

set_option maxRecDepth 100000 in
set_option maxHeartbeats 1000000 in
theorem rleafHash_any (size since : Int) (vi vk : Value) (id key : List UInt8) (w : World) (hi : HB w vi id) (hk : HB w vk key) :
    Calls Tryz.prog 106 #[.int .i64 size, vi, vk, .int .i64 since] w fun e w' => ∃ p c, e = .returned (.slice p (leafF size id key since).length c) ∧ HB w' (.slice p (leafF size id key since).length c) (leafF size id key since) ∧ Below w.heap.size w w' := by
  obtain ⟨p, c, rfl⟩ := hi.shape
  obtain ⟨q, d, rfl⟩ := hk.shape
  have HF : Hid (leafF size id key since = hashF size 1 [id, key, numB since]) := rfl
  generalize leafF size id key since = F at *
  have hA := fun w' => rnumber_to since w'
  generalize numB since = A at *
  go_enter Tryz.func106, Tryz.ntmps106
  go_wp2_with fail
  refine (hA _).mono ?_
  rintro e w1 ⟨p1, c1, rfl, h1, hb1⟩
  have hi1 := hi.later hb1
  have hk1 := hk.later hb1
  clear hi hk hA
  go_wp2_with fail
  have hbA : Below w.heap.size w (w1.alloc (.cells #[.slice p id.length c, .slice q key.length d, .slice p1 8 c1] 22)) := hb1.alloc hb1.size _
  refine (rhash_to size 1 _ [id, key, A] _ (by simp) (by decide) (PA.lit w1 22 [_, _, _] _ 3 rfl rfl (by decide) (three_hb hi1 hk1 h1))).mono ?_
  rintro e w3 ⟨p3, c3, rfl, h3, hb3⟩
  rw [← HF.out] at h3 ⊢
  have hb03 : Below w.heap.size w w3 := hbA.trans (hb3.mono hbA.size)
  go_wp2
  go_ret
  exact ⟨_, _, rfl, h3, hb03⟩

set_option maxRecDepth 100000 in
set_option maxHeartbeats 1000000 in
theorem rforkHash_any (size depth newest : Int) (vp vl vr : Value) (pre ll lr : List UInt8) (w : World) (hp : HB w vp pre) (hl : HB w vl ll) (hr : HB w vr lr) (h0 : -9223372036854775808 ≤ depth) (h1 : depth ≤ 9223372036854775807) (hbig : pre.length ≤ 140737488351232) :
    Calls Tryz.prog 107 #[.int .i64 size, .int .i64 depth, vp, .int .i64 newest, vl, vr] w fun e w' => ∃ p c, e = .returned (.slice p (forkF size depth pre newest ll lr).length c) ∧ HB w' (.slice p (forkF size depth pre newest ll lr).length c) (forkF size depth pre newest ll lr) ∧ Below w.heap.size w w' := by
  obtain ⟨p, c, rfl⟩ := hp.shape
  obtain ⟨q, d, rfl⟩ := hl.shape
  obtain ⟨r, e, rfl⟩ := hr.shape
  have HF : Hid (forkF size depth pre newest ll lr = hashF size 2 [numB depth, firstF pre depth, numB newest, ll, lr]) := rfl
  generalize forkF size depth pre newest ll lr = F at *
  have hA := fun w' => rnumber_to depth w'
  have hB := fun w' => rnumber_to newest w'
  have hC := fun w' h => rfirst_any (.slice p pre.length c) pre depth w' h h0 h1 (by omega)
  generalize numB depth = A at *
  generalize numB newest = B at *
  generalize firstF pre depth = C at *
  go_enter Tryz.func107, Tryz.ntmps107
  go_wp2_with fail
  refine (hA _).mono ?_
  rintro x w1 ⟨p1, c1, rfl, k1, hb1⟩
  go_wp2_with fail
  refine (hC _ (hp.later hb1)).mono ?_
  rintro x w2 ⟨p2, c2, rfl, k2, hb2⟩
  have hb02 := hb1.trans (hb2.mono hb1.size)
  go_wp2_with fail
  refine (hB _).mono ?_
  rintro x w3 ⟨p3, c3, rfl, k3, hb3⟩
  have hb03 := hb02.trans (hb3.mono hb02.size)
  have k13 := (k1.later hb2).later hb3
  have k23 := k2.later hb3
  have hl3 := hl.later hb03
  have hr3 := hr.later hb03
  clear hp hl hr hA hB hC k1 k2 hb1 hb2 hb02 hb3
  go_wp2_with fail
  have hbA : Below w.heap.size w (w3.alloc (.cells #[.slice p1 8 c1, .slice p2 C.length c2, .slice p3 8 c3, .slice q ll.length d, .slice r lr.length e] 22)) := hb03.alloc hb03.size _
  refine (rhash_to size 2 _ [A, C, B, ll, lr] _ (by simp) (by decide) (PA.lit w3 22 [_, _, _, _, _] _ 5 rfl rfl (by decide) (five_hb k13 k23 k3 hl3 hr3))).mono ?_
  rintro x w4 ⟨p4, c4, rfl, k4, hb4⟩
  rw [← HF.out] at k4 ⊢
  have hb04 : Below w.heap.size w w4 := hbA.trans (hb4.mono hbA.size)
  go_wp2
  go_ret
  exact ⟨_, _, rfl, k4, hb04⟩

end Go.Proofs.YtahfjemllkbpgaaGreatDoor

namespace Go.Proofs.YtahfjemllkbpgaaGreatDoor
open Go.RowKit

theorem step_append_any {P : Program} {w : World} {ops : Array Oper} {o : Oper} {a : Act} {K : Act → World → Prop} {Q : Exit → Act → World → Prop} {E : Prop} (hgd : o.guard = none) (s x : Operand) (t : TypeId)
    (ho : o.op = .call { callee := .builtin .append, args := #[s, x], argTypes := #[t, t] })
    (base : Nat) (e : TypeId) (ht : P.underlying t = some (.slice e)) (hi0 : (P.info? e).map (fun i => (i.zero, i.size, i.bytes)) = some (some (.int .u8 0), 1, 1))
    (v : Value) (n : Nat) (xs : List Value) (hs : a.eval s = v) (hown : w.ownsRow base e 1 v n xs)
    (p : Option Addr) (m c : Nat) (l : List UInt8) (hx : a.eval x = .slice p m c) (hsrc : HB w (.slice p m c) l)
    (hbytes : n + m ≤ 140737488355328) (hbase : base ≤ w.heap.size)
    (h : ∀ v' w', w'.ownsRow base e 1 v' (n + m) (xs ++ bcs l) → w.grownBy w' v.ownBlock → K (a.put o.dst v') w') :
    if Region.wanted o (yielded ops a.tmps) = true then Oper.wp P o a w K Q else E := by
  have hw : Region.wanted o (yielded ops a.tmps) = true := by simp [Region.wanted, hgd]
  rw [if_pos hw]
  obtain ⟨i, hi, hz, h1, h2⟩ := info_parts hi0
  have hm := hsrc.len.1
  rcases Nat.eq_zero_or_pos m with h0 | h0
  · subst h0
    obtain rfl : l = [] := List.eq_nil_of_length_eq_zero hm.symm
    cases p with
    | none =>
      obtain rfl : c = 0 := hsrc.len.2.2.2 rfl
      have hrun := run_append_owned_none (P := P) (w := w) base t o.type e i 1 ht hi v n xs hown
      unfold Oper.wp
      simp [execOp, ho, resolve, invoke, builtin, hs, hx, hrun, Result.andThen]
      exact h v w (by simpa [bcs] using hown) (World.grownBy.refl _ _)
    | some ad =>
      exact wp_append_own w s x t ho base e i (.int .u8 0) 1 1 ht hi hz h1 h2 rfl (by decide) v n xs hs hown ad 0 c [] hx rfl (fun j u hu => by simp at hu) (fun u hu => by cases hu) (by unfold maxLen; omega) (by omega) hbase (fun v' w' q1 q2 _ => h v' w' q1 q2)
  · obtain ⟨b, o', rfl, hc⟩ := hsrc.addr h0
    exact wp_append_own w s x t ho base e i (.int .u8 0) 1 1 ht hi hz h1 h2 rfl (by decide) v n xs hs hown ⟨b, o', none⟩ m c (bcs l) hx (by rw [bcs_length]; omega) hsrc.cells (bcs_one l) (by unfold maxLen; omega) (by omega) hbase (fun v' w' q1 q2 _ => h v' w' q1 q2)

end Go.Proofs.YtahfjemllkbpgaaGreatDoor

namespace Go.Proofs.YtahfjemllkbpgaaGreatDoor
open Go.RowKit

/-- Block g holds the document's arena, with n nodes. -/
def XG (w : World) (g : Nat) (s r : Int) (p : Option Addr) (n c : Nat) : Prop := w.heap[g]? = some (.cells #[.int .i64 s, .int .i64 r, .slice p n c] 102 (0, 0))

theorem XG.cells {w : World} {g : Nat} {s r : Int} {p : Option Addr} {n c : Nat} (h : XG w g s r p n c) : w.cell? ⟨g, 0, none⟩ = some (.int .i64 s) ∧ w.cell? ⟨g, 1, none⟩ = some (.int .i64 r) ∧ w.cell? ⟨g, 2, none⟩ = some (.slice p n c) := by
  have h' : w.heap[g]? = some (.cells #[.int .i64 s, .int .i64 r, .slice p n c] 102 (0, 0)) := h
  refine ⟨?_, ?_, ?_⟩
  · rw [cell_of_row _ _ 0 _ _ _ h']; rfl
  · rw [cell_of_row _ _ 1 _ _ _ h']; rfl
  · rw [cell_of_row _ _ 2 _ _ _ h']; rfl
theorem XG.lt {w : World} {g : Nat} {s r : Int} {p : Option Addr} {n c : Nat} (h : XG w g s r p n c) : g < w.heap.size := (Array.getElem?_eq_some_iff.1 h).1
theorem XG.later {w w' : World} {g : Nat} {s r : Int} {p : Option Addr} {n c : Nat} (h : XG w g s r p n c) (hb : Below w.heap.size w w') : XG w' g s r p n c := (hb.block g h.lt).trans h

set_option maxRecDepth 100000 in
set_option maxHeartbeats 400000 in
theorem ranew_ok (s r : Int) (w : World) (h1 : 1 ≤ s) (h2 : s ≤ 32) (h3 : 1 ≤ r) (h4 : r ≤ 4194304) : Calls Tryz.prog 37 #[.int .i64 s, .int .i64 r] w fun e w' => e = .returned (.tuple #[.pointer (some ⟨w.heap.size, 0, none⟩), .int .i64 0]) ∧ XG w' w.heap.size s r none 0 0 ∧ Below w.heap.size w w' := by
  have a1 : ¬ s < 1 := by omega
  have a2 : ¬ 32 < s := by omega
  have a3 : ¬ r < 1 := by omega
  have a4 : ¬ 4194304 < r := by omega
  go_enter Tryz.func37, Tryz.ntmps37
  go_wp2
  go_ret2
  exact ⟨rfl, heap_alloc_new w _, (Below.refl _ w).alloc (Nat.le_refl _) _⟩

set_option maxRecDepth 100000 in
set_option maxHeartbeats 400000 in
theorem rthere_out (g : Nat) (s r i : Int) (p : Option Addr) (n c : Nat) (w : World) (h : XG w g s r p n c) (hi : i < 0 ∨ (n : Int) ≤ i) : Calls Tryz.prog 102 #[.pointer (some ⟨g, 0, none⟩), .int .i64 i] w fun e w' => e = .returned (.bool false) ∧ w' = w := by
  obtain ⟨c0, c1, c2⟩ := h.cells
  clear h
  go_enter Tryz.func102, Tryz.ntmps102
  by_cases hi2 : i < 0
  · have hi3 : ¬ 0 ≤ i := by omega
    go_wp2
    go_ret
    exact ⟨rfl, rfl⟩
  · have hi3 : 0 ≤ i := by omega
    have hi4 : ¬ i < (n : Int) := by omega
    clear hi
    go_wp2
    go_ret
    exact ⟨rfl, rfl⟩

set_option maxRecDepth 100000 in
set_option maxHeartbeats 400000 in
theorem rnode_out (g : Nat) (s r i : Int) (p : Option Addr) (n c : Nat) (w : World) (h : XG w g s r p n c) (hi : i < 0 ∨ (n : Int) ≤ i) : Calls Tryz.prog 71 #[.pointer (some ⟨g, 0, none⟩), .int .i64 i] w fun e w' => e = .returned (.tuple #[zNode, .bool false]) ∧ Below w.heap.size w w' := by
  have bA := (Below.refl _ w).alloc (Nat.le_refl _) (.cells #[.bool false, .slice none 0 0, .slice none 0 0, .int .i64 0, .int .i64 0, .slice none 0 0, .int .i64 0, .int .i64 0, .int .i64 0, .slice none 0 0] 75)
  have hH := rthere_out g s r i p n c _ (h.later bA) hi
  clear h hi
  go_enter Tryz.func71, Tryz.ntmps71
  go_wp2_with (first | (go_at_call 102; refine hH.mono ?_; rintro e w1 ⟨rfl, hw⟩; subst hw))
  refine bodyPost_ret (v := .tuple #[zNode, .bool false]) ?_ rfl ?_
  · simp only [results, Tryz.results71]
    go_simp
    rfl
  · exact ⟨rfl, bA⟩

set_option maxRecDepth 100000 in
set_option maxHeartbeats 1000000 in
theorem rway_out (g : Nat) (s r i : Int) (p : Option Addr) (n c : Nat) (q : Option Addr) (m d : Nat) (w : World) (h : XG w g s r p n c) (hi : i < 0 ∨ (n : Int) ≤ i) (hm : m ≤ 1000) : Calls Tryz.prog 74 #[.pointer (some ⟨g, 0, none⟩), .int .i64 i, .slice q m d] w fun e w' => e = .returned (.tuple #[.slice none 0 0, .int .i64 (-1)]) ∧ Below w.heap.size w w' := by
  have hN := rnode_out g s r i p n c w h hi
  unfold zNode at hN
  clear h hi
  go_enter Tryz.func74, Tryz.ntmps74
  have hm3 : (0 : Int) < 8 * (m : Int) + 1 := by omega
  go_wp2_with fail
  go_loopw [8, 9, 17] (fun f a k wr => f = .slice none 0 0 ∧ a = .int .i64 i ∧ k = .int .i64 0 ∧ wr = w) (fun _ _ _ _ => 0)
  case atStart => exact ⟨rfl, rfl, rfl, rfl⟩
  case round =>
    obtain ⟨rfl, rfl, rfl, hwr⟩ := hrel
    have hw2 := hwr.symm
    clear hwr
    subst hw2
    go_wp2_with (first | (go_at_call 71; refine hN.mono ?_; rintro e w1 ⟨rfl, hb1⟩; have h2 := hb1.alloc hb1.size (.cells #[.bool false, .slice none 0 0, .slice none 0 0, .int .i64 0, .int .i64 0, .slice none 0 0, .int .i64 0, .int .i64 0, .int .i64 0, .slice none 0 0] 75)))
    go_ret2
    exact ⟨rfl, h2⟩

set_option maxRecDepth 100000 in
set_option maxHeartbeats 400000 in
theorem rused_none (g : Nat) (s r : Int) (w : World) (h : XG w g s r none 0 0) : Calls Tryz.prog 73 #[.pointer (some ⟨g, 0, none⟩)] w fun e w' => e = .returned (.int .i64 0) ∧ Below w.heap.size w w' := by
  obtain ⟨c0, c1, c2⟩ := h.cells
  clear h
  go_enter Tryz.func73, Tryz.ntmps73
  go_wp2_with fail
  go_loopw [3, 10] (fun a k wr => a = .int .i64 0 ∧ k = .int .i64 0 ∧ wr = w) (fun _ _ _ => 0)
  case atStart => exact ⟨rfl, rfl, rfl⟩
  case round =>
    obtain ⟨rfl, rfl, hwr⟩ := hrel
    have hw2 := hwr.symm
    clear hwr
    subst hw2
    go_wp2
    go_ret
    exact ⟨rfl, Below.refl _ _⟩

set_option maxRecDepth 100000 in
set_option maxHeartbeats 1000000 in
theorem rget_out (g : Nat) (s r i : Int) (p : Option Addr) (n c : Nat) (vi : Value) (id : List UInt8) (w : World) (h : XG w g s r p n c) (hi : i < 0 ∨ (n : Int) ≤ i) (hid : HB w vi id) : Calls Tryz.prog 104 #[.pointer (some ⟨g, 0, none⟩), .int .i64 i, vi] w fun e w' => e = .returned (.tuple #[.agg #[.slice none 0 0, .slice none 0 0, .int .i64 0], .bool false]) ∧ Below w.heap.size w w' := by
  obtain ⟨pi, ci, rfl⟩ := hid.shape
  have bA := (Below.refl _ w).alloc (Nat.le_refl _) (.cells #[.slice none 0 0, .slice none 0 0, .int .i64 0] 31)
  have gA := heap_alloc_new w (.cells #[.slice none 0 0, .slice none 0 0, .int .i64 0] 31)
  have hK := rkey_any (.slice pi id.length ci) id _ (hid.later bA)
  have hkl : (keyF id).length ≤ 1000 := by
    rw [keyF_eq id _ rfl]
    simp only [List.length_cons, List.length_take]
    omega
  generalize keyF id = KF at *
  go_enter Tryz.func104, Tryz.ntmps104
  go_wp2_with fail
  refine hK.mono ?_
  rintro e w1 ⟨p1, c1, rfl, k1, hb1⟩
  have b1 := bA.trans (hb1.mono bA.size)
  have g1 := (hb1.block _ (Array.getElem?_eq_some_iff.1 gA).1).trans gA
  have hW := rway_out g s r i p n c p1 KF.length c1 w1 (h.later b1) hi hkl
  clear hK gA k1 hb1 bA
  go_wp2_with fail
  refine hW.mono ?_
  rintro e w2 ⟨rfl, hb2⟩
  have b2 := b1.trans (hb2.mono b1.size)
  have g2 := (hb2.block _ (Array.getElem?_eq_some_iff.1 g1).1).trans g1
  have hN := rnode_out g s r (-1) p n c w2 (h.later b2) (Or.inl (by decide))
  unfold zNode at hN
  clear hW g1 hb2 b1 h hi hid
  go_wp2_with fail
  refine hN.mono ?_
  rintro e w3 ⟨rfl, hb3⟩
  have b3 := b2.trans (hb3.mono b2.size)
  have g3 := (hb3.block _ (Array.getElem?_eq_some_iff.1 g2).1).trans g2
  have bZ := (Below.refl _ w3).alloc (Nat.le_refl _) (.cells #[.bool false, .slice none 0 0, .slice none 0 0, .int .i64 0, .int .i64 0, .slice none 0 0, .int .i64 0, .int .i64 0, .int .i64 0, .slice none 0 0] 75)
  have b3Z := b3.trans (bZ.mono b3.size)
  have gV := (bZ.block _ (Array.getElem?_eq_some_iff.1 g3).1).trans g3
  have x0 : (w3.alloc (.cells #[.bool false, .slice none 0 0, .slice none 0 0, .int .i64 0, .int .i64 0, .slice none 0 0, .int .i64 0, .int .i64 0, .int .i64 0, .slice none 0 0] 75)).cell? ⟨w.heap.size, 0, none⟩ = some (.slice none 0 0) := by rw [cell_of_row _ _ 0 _ _ _ gV]; rfl
  have x1 : (w3.alloc (.cells #[.bool false, .slice none 0 0, .slice none 0 0, .int .i64 0, .int .i64 0, .slice none 0 0, .int .i64 0, .int .i64 0, .int .i64 0, .slice none 0 0] 75)).cell? ⟨w.heap.size, 1, none⟩ = some (.slice none 0 0) := by rw [cell_of_row _ _ 1 _ _ _ gV]; rfl
  have x2 : (w3.alloc (.cells #[.bool false, .slice none 0 0, .slice none 0 0, .int .i64 0, .int .i64 0, .slice none 0 0, .int .i64 0, .int .i64 0, .int .i64 0, .slice none 0 0] 75)).cell? ⟨w.heap.size, 2, none⟩ = some (.int .i64 0) := by rw [cell_of_row _ _ 2 _ _ _ gV]; rfl
  have y0 : (w3.alloc (.cells #[.bool false, .slice none 0 0, .slice none 0 0, .int .i64 0, .int .i64 0, .slice none 0 0, .int .i64 0, .int .i64 0, .int .i64 0, .slice none 0 0] 75)).frozen? ⟨w.heap.size, 0, none⟩ = false := by simp only [World.frozen?, gV]; rfl
  have y1 : (w3.alloc (.cells #[.bool false, .slice none 0 0, .slice none 0 0, .int .i64 0, .int .i64 0, .slice none 0 0, .int .i64 0, .int .i64 0, .int .i64 0, .slice none 0 0] 75)).frozen? ⟨w.heap.size, 1, none⟩ = false := by simp only [World.frozen?, gV]; rfl
  have y2 : (w3.alloc (.cells #[.bool false, .slice none 0 0, .slice none 0 0, .int .i64 0, .int .i64 0, .slice none 0 0, .int .i64 0, .int .i64 0, .int .i64 0, .slice none 0 0] 75)).frozen? ⟨w.heap.size, 2, none⟩ = false := by simp only [World.frozen?, gV]; rfl
  have hon : Only w.heap.size (w3.alloc (.cells #[.bool false, .slice none 0 0, .slice none 0 0, .int .i64 0, .int .i64 0, .slice none 0 0, .int .i64 0, .int .i64 0, .int .i64 0, .slice none 0 0] 75)) ((((w3.alloc (.cells #[.bool false, .slice none 0 0, .slice none 0 0, .int .i64 0, .int .i64 0, .slice none 0 0, .int .i64 0, .int .i64 0, .int .i64 0, .slice none 0 0] 75)).setCell ⟨w.heap.size, 0, none⟩ (.slice none 0 0)).setCell ⟨w.heap.size, 1, none⟩ (.slice none 0 0)).setCell ⟨w.heap.size, 2, none⟩ (.int .i64 0)) := ((((Only.refl _ _).setCell 0 _).setCell 1 _).setCell 2 _)
  have bf := b3Z.trans (hon.below (Nat.le_refl _))
  clear hN g2 hb3 b2 bZ b3Z gV g3 hon b3
  go_wp2
  refine bodyPost_ret (v := .tuple #[.agg #[.slice none 0 0, .slice none 0 0, .int .i64 0], .bool false]) ?_ rfl ?_
  · simp only [results, Tryz.results104]
    go_simp
  · exact ⟨rfl, bf⟩

end Go.Proofs.YtahfjemllkbpgaaGreatDoor

namespace Go.Proofs.YtahfjemllkbpgaaGreatDoor
open Go.RowKit

theorem i_node : (Tryz.prog.info? 75).map (fun i => (i.zero, i.size, i.bytes)) = some (some (.agg #[.bool false, .slice none 0 0, .slice none 0 0, .int .i64 0, .int .i64 0, .slice none 0 0, .int .i64 0, .int .i64 0, .int .i64 0, .slice none 0 0]), 10, 144) := by kernel_rfl

theorem info_parts10 {P : Program} {e : TypeId} {z : Value} {s b : Nat} (h : (P.info? e).map (fun i => (i.zero, i.size, i.bytes)) = some (some z, s, b)) : ∃ i, P.info? e = some i ∧ i.zero = some z ∧ i.size = s ∧ i.bytes = b := by
  obtain ⟨i, hi, he⟩ := Option.map_eq_some_iff.1 h
  simp only [Prod.mk.injEq] at he
  exact ⟨i, hi, he.1, he.2.1, he.2.2⟩

set_option maxRecDepth 100000 in
set_option maxHeartbeats 1000000 in
theorem rput_first (g : Nat) (s r : Int) (x : NodeS) (vi vk vp vh : Value) (w : World) (h : XG w g s r none 0 0) (hr : 1 ≤ r) (ki : ∃ p n c, vi = .slice p n c) (kk : ∃ p n c, vk = .slice p n c) (kp : ∃ p n c, vp = .slice p n c) (kh : ∃ p n c, vh = .slice p n c) (hgl : g < w.heap.size) :
    Calls Tryz.prog 105 #[.pointer (some ⟨g, 0, none⟩), .agg #[.bool x.leaf, vi, vk, .int .i64 x.since, .int .i64 x.depth, vp, .int .i64 x.newest, .int .i64 x.left, .int .i64 x.right, vh]] w fun e w' => ∃ q c cur, e = .returned (.tuple #[.int .i64 0, .int .i64 0]) ∧ XG w' g s r (some ⟨q, 0, none⟩) 1 c ∧ w'.heap[q]? = some (.cells cur 75 (0, 0)) ∧ cur.toList.take 10 = [.bool x.leaf, vi, vk, .int .i64 x.since, .int .i64 x.depth, vp, .int .i64 x.newest, .int .i64 x.left, .int .i64 x.right, vh] ∧ Only g w w' := by
  obtain ⟨pi, ni, ci, rfl⟩ := ki
  obtain ⟨pk, nk, ck, rfl⟩ := kk
  obtain ⟨pp, np, cp, rfl⟩ := kp
  obtain ⟨ph, nh, ch, rfl⟩ := kh
  have bA := (Below.refl _ w).alloc (Nat.le_refl _) (.cells #[.bool x.leaf, .slice pi ni ci, .slice pk nk ck, .int .i64 x.since, .int .i64 x.depth, .slice pp np cp, .int .i64 x.newest, .int .i64 x.left, .int .i64 x.right, .slice ph nh ch] 75)
  have gA := heap_alloc_new w (.cells #[.bool x.leaf, .slice pi ni ci, .slice pk nk ck, .int .i64 x.since, .int .i64 x.depth, .slice pp np cp, .int .i64 x.newest, .int .i64 x.left, .int .i64 x.right, .slice ph nh ch] 75)
  go_enter Tryz.func105, Tryz.ntmps105
  go_wp2_with fail
  obtain ⟨V, hV⟩ : ∃ V, V = w.alloc (.cells #[.bool x.leaf, .slice pi ni ci, .slice pk nk ck, .int .i64 x.since, .int .i64 x.depth, .slice pp np cp, .int .i64 x.newest, .int .i64 x.left, .int .i64 x.right, .slice ph nh ch] 75) := ⟨_, rfl⟩
  rw [← hV] at bA gA ⊢
  clear hV
  have hX := h.later bA
  obtain ⟨c0, c1, c2⟩ := hX.cells
  have hd : Below V.heap.size V V.drew := (Below.refl _ V).drew
  have hU := rused_none g s r _ (hX.later hd)
  have hr3 : ¬ r ≤ 0 := by omega
  go_region_held3 (fun W' => W'.cell? ⟨g, 1, none⟩ = some (.int .i64 r)) (first | exact c1 | exact cell_later hd c1 | exact cell_later h1 c1) (first
    | (go_at_call 73; refine hU.mono ?_; rintro e w1 ⟨rfl, hb1⟩; have h1 : Below V.heap.size V w1 := hd.trans (hb1.mono (by simp))))
  have hX1 := hX.later h1
  obtain ⟨d0, d1, d2⟩ := hX1.cells
  have gA1 := (h1.block _ (Array.getElem?_eq_some_iff.1 gA).1).trans gA
  clear hU hd c0 c1 c2 hX hb1
  have m0 : w1.cell? ⟨w.heap.size, 0, none⟩ = some (.bool x.leaf) := by rw [cell_of_row _ _ 0 _ _ _ gA1]; rfl
  have m1 : w1.cell? ⟨w.heap.size, 1, none⟩ = some (.slice pi ni ci) := by rw [cell_of_row _ _ 1 _ _ _ gA1]; rfl
  have m2 : w1.cell? ⟨w.heap.size, 2, none⟩ = some (.slice pk nk ck) := by rw [cell_of_row _ _ 2 _ _ _ gA1]; rfl
  have m3 : w1.cell? ⟨w.heap.size, 3, none⟩ = some (.int .i64 x.since) := by rw [cell_of_row _ _ 3 _ _ _ gA1]; rfl
  have m4 : w1.cell? ⟨w.heap.size, 4, none⟩ = some (.int .i64 x.depth) := by rw [cell_of_row _ _ 4 _ _ _ gA1]; rfl
  have m5 : w1.cell? ⟨w.heap.size, 5, none⟩ = some (.slice pp np cp) := by rw [cell_of_row _ _ 5 _ _ _ gA1]; rfl
  have m6 : w1.cell? ⟨w.heap.size, 6, none⟩ = some (.int .i64 x.newest) := by rw [cell_of_row _ _ 6 _ _ _ gA1]; rfl
  have m7 : w1.cell? ⟨w.heap.size, 7, none⟩ = some (.int .i64 x.left) := by rw [cell_of_row _ _ 7 _ _ _ gA1]; rfl
  have m8 : w1.cell? ⟨w.heap.size, 8, none⟩ = some (.int .i64 x.right) := by rw [cell_of_row _ _ 8 _ _ _ gA1]; rfl
  have m9 : w1.cell? ⟨w.heap.size, 9, none⟩ = some (.slice ph nh ch) := by rw [cell_of_row _ _ 9 _ _ _ gA1]; rfl
  go_wp2
  go_loopw [19] (fun k wr => k = .int .i64 0 ∧ wr = w1) (fun _ _ => 0)
  case atStart => exact ⟨rfl, rfl⟩
  case round =>
    obtain ⟨rfl, hwr⟩ := hrel
    have hw2 := hwr.symm
    clear hwr
    subst hw2
    obtain ⟨i0, hi, hz0, hz1, hz2⟩ := info_parts10 i_node
    have bL := (Below.refl _ w1).alloc (Nat.le_refl _) (.cells #[.bool x.leaf, .slice pi ni ci, .slice pk nk ck, .int .i64 x.since, .int .i64 x.depth, .slice pp np cp, .int .i64 x.newest, .int .i64 x.left, .int .i64 x.right, .slice ph nh ch] 75)
    have bLd := bL.drew
    have e2 := cell_later bL d2
    go_wp2
    go_region_law (first
      | (refine step_append_lies _ (by rfl) _ _ _ (by rfl) w.heap.size 75 i0 _ 10 144 Tryz.underlying100 hi hz0 hz1 hz2 rfl (by decide) _ 0 [] (by rfl) (World.ownsRow_nil _ _ _ _) ⟨w1.heap.size, 0, none⟩ 1 1 [.bool x.leaf, .slice pi ni ci, .slice pk nk ck, .int .i64 x.since, .int .i64 x.depth, .slice pp np cp, .int .i64 x.newest, .int .i64 x.left, .int .i64 x.right, .slice ph nh ch] (by rfl) (by rfl) (World.news_of_block (cs := #[.bool x.leaf, .slice pi ni ci, .slice pk nk ck, .int .i64 x.since, .int .i64 x.depth, .slice pp np cp, .int .i64 x.newest, .int .i64 x.left, .int .i64 x.right, .slice ph nh ch]) (t := 75) (fr := (0, 0)) (by exact heap_alloc_new w1 _)) (by simp [Value.oneCell']) (by omega) (by unfold maxLen; omega) (by omega) (by have := bA.size; have := h1.size; have := bLd.size; omega) (w1.heap.size + 1) (by simp) ?_; intro g7 cap7 w7 ho7 hg7 hat7 hlt7; have X7 : XG w7 g s r none 0 0 := (hg7.block g (by have := hX1.lt; have := bLd.size; omega) (by intro e; cases e)).trans ((bLd.block g hX1.lt).trans hX1); have y2 := X7.cells.2.2; have z2 : w7.frozen? ⟨g, 2, none⟩ = false := (by have X7' : w7.heap[g]? = some (.cells #[.int .i64 s, .int .i64 r, .slice none 0 0] 102 (0, 0)) := X7; simp [World.frozen?, X7'])))
    all_goals
      have X7' : w7.heap[g]? = some (.cells #[.int .i64 s, .int .i64 r, .slice none 0 0] 102 (0, 0)) := X7
      have X8 : XG (w7.setCell ⟨g, 2, none⟩ (.slice (some ⟨g7, 0, none⟩) 1 cap7)) g s r (some ⟨g7, 0, none⟩) 1 cap7 := by
        show _ = _
        rw [heap_setCell_same w7 g 2 _ _ _ X7']
        rfl
      obtain ⟨cur, q1, q2⟩ : ∃ cur, w7.heap[g7]? = some (.cells cur 75 (0, 0)) ∧ cur.toList.take 10 = [.bool x.leaf, .slice pi ni ci, .slice pk nk ck, .int .i64 x.since, .int .i64 x.depth, .slice pp np cp, .int .i64 x.newest, .int .i64 x.left, .int .i64 x.right, .slice ph nh ch] := by
        rcases ho7.2 with ⟨e, _⟩ | ⟨g', cap, cur, e1, _, e2, _, _, _, e3⟩
        · cases e
        · simp only [Value.slice.injEq, Option.some.injEq, Addr.mk.injEq, and_true, true_and] at e1
          obtain ⟨rfl, _⟩ := e1
          exact ⟨cur, e2, by simpa using e3⟩
      have hne : g7 ≠ g := by
        rintro rfl
        rw [X7'] at q1
        simp at q1
      have q8 : (w7.setCell ⟨g, 2, none⟩ (.slice (some ⟨g7, 0, none⟩) 1 cap7)).heap[g7]? = some (.cells cur 75 (0, 0)) := (heap_setCell_other w7 ⟨g, 2, none⟩ g7 _ hne).trans q1
      have on8 : Only g w (w7.setCell ⟨g, 2, none⟩ (.slice (some ⟨g7, 0, none⟩) 1 cap7)) := by
        have b1 := bA.trans (h1.mono bA.size)
        have bLd' : Below w1.heap.size w1 (w1.alloc (.cells #[.bool x.leaf, .slice pi ni ci, .slice pk nk ck, .int .i64 x.since, .int .i64 x.depth, .slice pp np cp, .int .i64 x.newest, .int .i64 x.left, .int .i64 x.right, .slice ph nh ch] 75)).drew := bLd
        have b2 := b1.trans (bLd'.mono b1.size)
        have b3 := b2.grown hg7 b2.size (fun k hk => by cases hk)
        exact (Only.of_below b3 (by omega)).trans ((Only.refl g w7).setCell 2 _)
      have s8 := X8.cells.2.2
      clear ho7 hg7 hat7 hlt7 X7 X7' y2 z2 q1
      go_wp2
      go_ret2
      exact ⟨_, _, cur, rfl, X8, q8, q2, on8⟩

end Go.Proofs.YtahfjemllkbpgaaGreatDoor

namespace Go.Proofs.YtahfjemllkbpgaaGreatDoor
open Go.RowKit

theorem owns_empty {W : World} {base b : Nat} {e : TypeId} (hb : base ≤ b) (h : W.heap[b]? = some (.cells #[] e (0, 0))) : W.ownsRow base e 1 (.slice (some ⟨b, 0, none⟩) 0 0) 0 [] :=
  ⟨rfl, .inr ⟨b, 0, #[], rfl, hb, h, Nat.le_refl _, Nat.zero_le _, rfl, rfl⟩⟩

set_option maxRecDepth 100000 in
set_option maxHeartbeats 2000000 in
theorem rleaf_first (g : Nat) (s r since : Int) (vi vk : Value) (id key : List UInt8) (w : World) (h : XG w g s r none 0 0) (hr : 1 ≤ r) (hid : HB w vi id) (hkey : HB w vk key) (hs0 : 0 ≤ since) (h1 : id.length ≤ 65535) (h2 : key.length ≤ 65535) :
    Calls Tryz.prog 75 #[.pointer (some ⟨g, 0, none⟩), vi, vk, .int .i64 since] w fun e w' => ∃ q c, e = .returned (.tuple #[.int .i64 0, .int .i64 0]) ∧ XG w' g s r (some ⟨q, 0, none⟩) 1 c ∧ (∃ ph ch, w'.cell? ⟨q, 9, none⟩ = some (.slice ph (leafF s id key since).length ch)) ∧ Only g w w' := by
  obtain ⟨pi, ci, rfl⟩ := hid.shape
  obtain ⟨pk, ck, rfl⟩ := hkey.shape
  have a1 : ¬ since < 0 := by omega
  have a2 : ¬ (65535 : Int) < (id.length : Int) := by omega
  have a3 : ¬ (65535 : Int) < (key.length : Int) := by omega
  have c0 := h.cells.1
  have hL := fun w' h1 h2 => rleafHash_any s since (.slice pi id.length ci) (.slice pk key.length ck) id key w' h1 h2
  generalize leafF s id key since = F at *
  have hd : Below w.heap.size w w.drew := (Below.refl _ w).drew
  have bE := (Below.refl _ w).alloc (Nat.le_refl _) (.cells #[] 5)
  have bEd : Below w.heap.size w (w.alloc (.cells #[] 5)).drew := bE.drew
  have bEE := bE.alloc bE.size (.cells #[] 5)
  have bEEd : Below w.heap.size w ((w.alloc (.cells #[] 5)).alloc (.cells #[] 5)).drew := bEE.drew
  have gE := heap_alloc_new w (.cells #[] 5)
  have gEE1 : ((w.alloc (.cells #[] 5)).alloc (.cells #[] 5)).heap[w.heap.size + 1]? = some (.cells #[] 5 (0, 0)) := by
    have := heap_alloc_new (w.alloc (.cells #[] 5)) (.cells #[] 5)
    simpa using this
  have gEE0 : ((w.alloc (.cells #[] 5)).alloc (.cells #[] 5)).heap[w.heap.size]? = some (.cells #[] 5 (0, 0)) := by
    rw [Below.heap_alloc _ _ _ (by simp)]
    exact gE
  have oE : (w.alloc (.cells #[] 5)).drew.ownsRow w.heap.size 5 1 (.slice (some ⟨w.heap.size, 0, none⟩) 0 0) 0 [] := owns_empty (Nat.le_refl _) gE
  have oEE0 : ((w.alloc (.cells #[] 5)).alloc (.cells #[] 5)).drew.ownsRow w.heap.size 5 1 (.slice (some ⟨w.heap.size, 0, none⟩) 0 0) 0 [] := owns_empty (Nat.le_refl _) gEE0
  have oEE1 : ((w.alloc (.cells #[] 5)).alloc (.cells #[] 5)).drew.ownsRow w.heap.size 5 1 (.slice (some ⟨w.heap.size + 1, 0, none⟩) 0 0) 0 [] := owns_empty (Nat.le_succ _) gEE1
  have hid1 := hid.later bEd
  have hid2 := hid.later bEEd
  have szE : (w.alloc (.cells #[] 5)).drew.heap.size = w.heap.size + 1 := by simp
  have szEE : ((w.alloc (.cells #[] 5)).alloc (.cells #[] 5)).drew.heap.size = w.heap.size + 1 + 1 := by simp
  go_enter Tryz.func75, Tryz.ntmps75
  go_wp2
  go_region_held3 (fun W' => W'.cell? ⟨g, 0, none⟩ = some (.int .i64 s)) (first | exact c0 | exact c9 | exact cell_later b6 c0 | exact cell_later bBw c0 | exact cell_later bAw c0 | exact cell_later hd c0 | exact cell_later bE c0 | exact cell_later bEd c0 | exact cell_later bEE c0 | exact cell_later bEEd c0 | exact cell_later ((Below.refl _ wA).alloc (Nat.le_refl _) _) (cell_later bAw c0) | simpa using c0) (first
    | (refine step_append_any (by rfl) _ _ _ (by rfl) w.heap.size 5 Tryz.underlying22 i_u8 _ 0 [] (by rfl) oE _ _ _ id (by rfl) hid1 (by omega) bEd.size ?_; intro vA wA oA hgA; have bAw : Below w.heap.size w wA := bEd.grown hgA bEd.size (fun k hk => by cases hk; exact Nat.le_refl _); obtain ⟨pA, cA, rfl⟩ := owns_shape oA; have bAE := bAw.alloc bAw.size (.cells #[] 5))
    | (refine step_append_any (by rfl) _ _ _ (by rfl) w.heap.size 5 Tryz.underlying22 i_u8 _ 0 [] (by rfl) oEE0 _ _ _ id (by rfl) hid2 (by omega) bEEd.size ?_; intro vA wA oA hgA; have bAw : Below w.heap.size w wA := bEEd.grown hgA bEEd.size (fun k hk => by cases hk; exact Nat.le_refl _); obtain ⟨pA, cA, rfl⟩ := owns_shape oA; have gBb := (hgA.block (w.heap.size + 1) (by rw [szEE]; omega) (fun e => absurd (Option.some.inj (show some (w.heap.size + 1) = some w.heap.size from e)) (by omega))).trans gEE1)
    | (refine step_append_any (by rfl) _ _ _ (by rfl) w.heap.size 5 Tryz.underlying22 i_u8 _ 0 [] (by rfl) oEE1 _ _ _ id (by rfl) hid2 (by omega) bEEd.size ?_; intro vA wA oA hgA; have bAw : Below w.heap.size w wA := bEEd.grown hgA bEEd.size (fun k hk => by cases hk; exact Nat.le_succ _); obtain ⟨pA, cA, rfl⟩ := owns_shape oA; have gBc := (hgA.block w.heap.size (by rw [szEE]; omega) (fun e => absurd (Option.some.inj (show some w.heap.size = some (w.heap.size + 1) from e)) (by omega))).trans gEE0)
    | (refine step_append_any (by rfl) _ _ _ (by rfl) w.heap.size 5 Tryz.underlying22 i_u8 _ 0 [] (by rfl) (owns_empty bAw.size (heap_alloc_new wA _)) _ _ _ key (by rfl) (hkey.later bAE) (by omega) bAE.size ?_; intro vB wB oB hgB; have bBw : Below w.heap.size w wB := bAE.grown hgB bAE.size (fun k hk => by cases hk; exact bAw.size); obtain ⟨pB, cB, rfl⟩ := owns_shape oB)
    | (refine step_append_any (by rfl) _ _ _ (by rfl) w.heap.size 5 Tryz.underlying22 i_u8 _ 0 [] (by rfl) (owns_empty (Nat.le_succ _) gBb) _ _ _ key (by rfl) (hkey.later bAw) (by omega) bAw.size ?_; intro vB wB oB hgB; have bBw : Below w.heap.size w wB := bAw.grown hgB bAw.size (fun k hk => by cases hk; exact Nat.le_succ _); obtain ⟨pB, cB, rfl⟩ := owns_shape oB)
    | (refine step_append_any (by rfl) _ _ _ (by rfl) w.heap.size 5 Tryz.underlying22 i_u8 _ 0 [] (by rfl) (owns_empty (Nat.le_refl _) gBc) _ _ _ key (by rfl) (hkey.later bAw) (by omega) bAw.size ?_; intro vB wB oB hgB; have bBw : Below w.heap.size w wB := bAw.grown hgB bAw.size (fun k hk => by cases hk; exact Nat.le_refl _); obtain ⟨pB, cB, rfl⟩ := owns_shape oB)
    | (go_at_call 106; refine (hL _ (hid.later bBw) (hkey.later bBw)).mono ?_; rintro e w6 ⟨p6, c6, rfl, k6, hb6⟩; have b6 : Below w.heap.size w w6 := bBw.trans (hb6.mono bBw.size))
    | (go_at_call 105; refine (rput_first g s r ⟨true, [], [], since, 0, [], since, 0, 0, []⟩ _ _ _ _ w6 (h.later b6) hr ⟨_, _, _, rfl⟩ ⟨_, _, _, rfl⟩ ⟨_, _, _, rfl⟩ ⟨_, _, _, rfl⟩ (h.later b6).lt).mono ?_; rintro e w7 ⟨q7, c7, cur, rfl, X7, g7, l7, on7⟩; have c9 := X7.cells.1))
  all_goals
    have h9 : w7.cell? ⟨q7, 9, none⟩ = some (.slice p6 F.length c6) := by
      rw [cell_of_row w7 q7 9 cur 75 (0, 0) g7]
      have := congrArg (fun l : List Value => l[9]?) l7
      simpa [List.getElem?_take] using this
    have on : Only g w w7 := (Only.of_below b6 (by have := h.lt; omega)).trans on7
    clear l7 g7 on7 b6 hb6 k6 hgA hgB oA oB bAw bBw c9 oE oEE0 oEE1 hL hid1 hid2 gE gEE0 gEE1 bE bEd bEE bEEd
    go_wp2
    go_ret2
    exact ⟨_, _, rfl, X7, ⟨_, _, h9⟩, on⟩

set_option maxRecDepth 100000 in
set_option maxHeartbeats 1000000 in
theorem rused_one (g q c : Nat) (s r : Int) (ph : Option Addr) (nh ch : Nat) (w : World) (h : XG w g s r (some ⟨q, 0, none⟩) 1 c) (h9 : w.cell? ⟨q, 9, none⟩ = some (.slice ph nh ch)) (hn : 1 ≤ nh) : Calls Tryz.prog 73 #[.pointer (some ⟨g, 0, none⟩)] w fun e w' => e = .returned (.int .i64 1) ∧ Below w.heap.size w w' := by
  obtain ⟨c0, c1, c2⟩ := h.cells
  have hn2 : (0 : Int) < (nh : Int) := by omega
  have hn3 : decide (0 < nh) = true := decide_eq_true (by omega)
  go_enter Tryz.func73, Tryz.ntmps73
  go_wp2_with fail
  go_loopw [3, 10] (fun a k wr => ∃ m : Nat, m ≤ 1 ∧ a = .int .i64 m ∧ k = .int .i64 m ∧ wr = w) (fun _ k _ => 1 - (intOf k).toNat)
  case atStart => exact ⟨0, by omega, rfl, rfl, rfl⟩
  case round =>
    obtain ⟨m, hm, rfl, rfl, hwr⟩ := hrel
    have hw2 := hwr.symm
    clear hwr
    subst hw2
    have hm2 : m = 0 ∨ m = 1 := by omega
    rcases hm2 with rfl | rfl
    · have hT : Calls Tryz.prog 102 #[.pointer (some ⟨g, 0, none⟩), .int .i64 0] w fun e w' => e = .returned (.bool true) ∧ w' = w := by
        go_enter Tryz.func102, Tryz.ntmps102
        go_wp2
        go_ret
        exact ⟨by first | rfl | simp [hn3] | (simp; omega), rfl⟩
      go_wp2_with (first | (go_at_call 102; refine hT.mono ?_; rintro e w1 ⟨rfl, hw⟩; have hw3 := hw.symm; clear hw; subst hw3))
      go_roundw
      case rel => exact ⟨1, by omega, rfl, rfl, trivial⟩
      case measure => simp [intOf]
    · go_wp2
      go_ret
      exact ⟨rfl, Below.refl _ _⟩

end Go.Proofs.YtahfjemllkbpgaaGreatDoor

namespace Go.Proofs.YtahfjemllkbpgaaGreatDoor
open Go.RowKit

theorem key_short (id : List UInt8) : (keyF id).length ≤ 1000 := by
  rw [keyF_eq id _ rfl]
  simp only [List.length_cons, List.length_take]
  omega

set_option maxRecDepth 100000 in
set_option maxHeartbeats 1000000 in
theorem rneeds_out (g : Nat) (s r i : Int) (p : Option Addr) (n c : Nat) (vi : Value) (id : List UInt8) (w : World) (h : XG w g s r p n c) (hi : i < 0 ∨ (n : Int) ≤ i) (hid : HB w vi id) : Calls Tryz.prog 72 #[.pointer (some ⟨g, 0, none⟩), .int .i64 i, vi] w fun e w' => e = .returned (.int .i64 1) ∧ Below w.heap.size w w' := by
  obtain ⟨pi, ci, rfl⟩ := hid.shape
  have hK := rkey_any (.slice pi id.length ci) id w hid
  have hkl := key_short id
  have hG := fun w' h' hd' => rget_out g s r i p n c (.slice pi id.length ci) id w' h' hi hd'
  generalize keyF id = KF at *
  go_enter Tryz.func72, Tryz.ntmps72
  go_wp2_with fail
  refine hK.mono ?_
  rintro e w1 ⟨p1, c1, rfl, k1, hb1⟩
  have hW := rway_out g s r i p n c p1 KF.length c1 w1 (h.later hb1) hi hkl
  clear hK k1
  go_wp2_with fail
  refine hW.mono ?_
  rintro e w2 ⟨rfl, hb2⟩
  have b2 := hb1.trans (hb2.mono hb1.size)
  have hG2 := hG w2 (h.later b2) (hid.later b2)
  clear hW hG hb1 hb2 h hi hid
  go_wp2_with fail
  refine hG2.mono ?_
  rintro e w3 ⟨rfl, hb3⟩
  have b3 := b2.trans (hb3.mono b2.size)
  clear hG2
  go_wp2
  go_ret
  exact ⟨rfl, b3.alloc b3.size _⟩

set_option maxRecDepth 100000 in
set_option maxHeartbeats 1000000 in
theorem rinsert_arg (g : Nat) (s r i since : Int) (p : Option Addr) (n c : Nat) (vi vk : Value) (id key : List UInt8) (w : World) (h : XG w g s r p n c) (hi : i < 0 ∨ (n : Int) ≤ i) (hid : HB w vi id) (hkey : HB w vk key) (hbad : i ≠ -1 ∨ 255 < id.length ∨ 65535 < key.length ∨ since < 0) :
    Calls Tryz.prog 39 #[.pointer (some ⟨g, 0, none⟩), .int .i64 i, vi, vk, .int .i64 since] w fun e w' => e = .returned (.tuple #[.int .i64 0, .int .i64 1]) ∧ Below w.heap.size w w' := by
  obtain ⟨pi, ci, rfl⟩ := hid.shape
  obtain ⟨pk, ck, rfl⟩ := hkey.shape
  have hN := rnode_out g s r i p n c w h hi
  unfold zNode at hN
  clear h hi
  have hc : i ≠ -1 ∨ (i = -1 ∧ 255 < id.length) ∨ (i = -1 ∧ id.length ≤ 255 ∧ 65535 < key.length) ∨ (i = -1 ∧ id.length ≤ 255 ∧ key.length ≤ 65535 ∧ since < 0) := by omega
  clear hbad
  go_enter Tryz.func39, Tryz.ntmps39
  rcases hc with h1 | ⟨h1, h2⟩ | ⟨h1, h2, h3⟩ | ⟨h1, h2, h3, h4⟩
  · have e1 : (i == -1) = false := by simpa using h1
    have e2 : (i != -1) = true := by simpa using h1
    go_wp2_with fail
    refine hN.mono ?_
    rintro e w1 ⟨rfl, hb1⟩
    clear hN
    go_wp2
    go_ret2
    exact ⟨rfl, hb1.alloc hb1.size _⟩
  · subst h1
    have e2 : (255 : Int) < (id.length : Int) := by omega
    go_wp2_with fail
    refine hN.mono ?_
    rintro e w1 ⟨rfl, hb1⟩
    clear hN
    go_wp2
    go_ret2
    exact ⟨rfl, hb1.alloc hb1.size _⟩
  · subst h1
    have e2 : ¬ (255 : Int) < (id.length : Int) := by omega
    have e3 : (65535 : Int) < (key.length : Int) := by omega
    go_wp2_with fail
    refine hN.mono ?_
    rintro e w1 ⟨rfl, hb1⟩
    clear hN
    go_wp2
    go_ret2
    exact ⟨rfl, hb1.alloc hb1.size _⟩
  · subst h1
    have e2 : ¬ (255 : Int) < (id.length : Int) := by omega
    have e3 : ¬ (65535 : Int) < (key.length : Int) := by omega
    go_wp2_with fail
    refine hN.mono ?_
    rintro e w1 ⟨rfl, hb1⟩
    clear hN
    go_wp2
    go_ret2
    exact ⟨rfl, hb1.alloc hb1.size _⟩

end Go.Proofs.YtahfjemllkbpgaaGreatDoor

namespace Go.Proofs.YtahfjemllkbpgaaGreatDoor
open Go.RowKit

set_option maxRecDepth 100000 in
set_option maxHeartbeats 2000000 in
theorem rinsert_first (g : Nat) (s r since : Int) (vi vk : Value) (id key : List UInt8) (w : World) (h : XG w g s r none 0 0) (hr : 1 ≤ r) (hr2 : r ≤ 1000000) (hid : HB w vi id) (hkey : HB w vk key) (h1 : id.length ≤ 255) (h2 : key.length ≤ 65535) (hs0 : 0 ≤ since) :
    Calls Tryz.prog 39 #[.pointer (some ⟨g, 0, none⟩), .int .i64 (-1), vi, vk, .int .i64 since] w fun e w' => ∃ q c, e = .returned (.tuple #[.int .i64 0, .int .i64 0]) ∧ XG w' g s r (some ⟨q, 0, none⟩) 1 c ∧ (∃ ph ch, w'.cell? ⟨q, 9, none⟩ = some (.slice ph (leafF s id key since).length ch)) ∧ Only g w w' := by
  obtain ⟨pi, ci, rfl⟩ := hid.shape
  obtain ⟨pk, ck, rfl⟩ := hkey.shape
  have hm1 : (-1 : Int) < 0 ∨ ((0 : Nat) : Int) ≤ -1 := .inl (by omega)
  have hN := fun w' h' => rnode_out g s r (-1) none 0 0 w' h' hm1
  unfold zNode at hN
  have e1 : ¬ since < 0 := by omega
  have e2 : ¬ (255 : Int) < (id.length : Int) := by omega
  have e3 : ¬ (65535 : Int) < (key.length : Int) := by omega
  have hNd := fun w' h' hd' => rneeds_out g s r (-1) none 0 0 (.slice pi id.length ci) id w' h' hm1 hd'
  have hU := fun w' h' => rused_none g s r w' h'
  have hK := fun w' hd' => rkey_any (.slice pi id.length ci) id w' hd'
  have hkl := key_short id
  have hL := fun w' h' hd' hk' => rleaf_first g s r since (.slice pi id.length ci) (.slice pk key.length ck) id key w' h' hr hd' hk' hs0 (by omega) h2
  have hW := fun p1 c1 w' h' => rway_out g s r (-1) none 0 0 p1 (keyF id).length c1 w' h' hm1 hkl
  generalize leafF s id key since = F at *
  generalize keyF id = KF at *
  go_enter Tryz.func39, Tryz.ntmps39
  go_wp2_with fail
  refine (hN w h).mono ?_
  rintro e w1 ⟨rfl, b1⟩
  have bA := b1.alloc b1.size (.cells #[.bool false, .slice none 0 0, .slice none 0 0, .int .i64 0, .int .i64 0, .slice none 0 0, .int .i64 0, .int .i64 0, .int .i64 0, .slice none 0 0] 75)
  have bD := bA.drew
  have cA := (h.later bA).cells.2.1
  have cD := (h.later bD).cells.2.1
  have hwr : IntKind.i64.wrap r = r := by simp [IntKind.wrap, IntKind.bits, IntKind.signed]; omega
  have hz : ¬ IntKind.i64.wrap r < 1 := by omega
  go_wp2
  go_region_held3 (fun W' => W'.cell? ⟨g, 1, none⟩ = some (.int .i64 r)) (first | exact cA | exact cD | exact (h.later b3).cells.2.1 | exact (h.later b2).cells.2.1) (first
    | (go_at_call 72; refine (hNd _ (h.later bD) (hid.later bD)).mono ?_; rintro e w2 ⟨rfl, hb2⟩; have b2 := bD.trans (hb2.mono bD.size))
    | (go_at_call 73; refine (hU w2 (h.later b2)).mono ?_; rintro e w3 ⟨rfl, hb3⟩; have b3 := b2.trans (hb3.mono b2.size)))
  all_goals
    clear hb2 hb3 cA cD bA bD b1 b2 hNd hU
    go_wp2_with fail
    refine (hK w3 (hid.later b3)).mono ?_
    rintro e w4 ⟨p4, c4, rfl, k4, hb4⟩
    have b4 := b3.trans (hb4.mono b3.size)
    clear hK hb4 b3 k4
    go_wp2_with fail
    refine (hW p4 c4 w4 (h.later b4)).mono ?_
    rintro e w5 ⟨rfl, hb5⟩
    have b5 := b4.trans (hb5.mono b4.size)
    clear hW hb5 b4
    go_wp2_with fail
    refine (hN w5 (h.later b5)).mono ?_
    rintro e w6 ⟨rfl, hb6⟩
    have b6 := b5.trans (hb6.mono b5.size)
    have b7 := b6.alloc b6.size (.cells #[.bool false, .slice none 0 0, .slice none 0 0, .int .i64 0, .int .i64 0, .slice none 0 0, .int .i64 0, .int .i64 0, .int .i64 0, .slice none 0 0] 75)
    clear hN hb6 b5
    go_wp2_with fail
    refine (hL _ (h.later b7) (hid.later b7) (hkey.later b7)).mono ?_
    rintro e w8 ⟨q, c, rfl, X8, h9, on8⟩
    have on := (Only.of_below b7 (by have := h.lt; omega) : Only g w _).trans on8
    clear hL on8 b6 b7
    go_wp2
    go_loopw [19, 22] (fun a k wr => a = .int .i64 0 ∧ k = .int .i64 (-1) ∧ wr = w8) (fun _ _ _ => 0)
    case atStart => exact ⟨rfl, rfl, rfl⟩
    case round =>
      obtain ⟨rfl, rfl, hwr⟩ := hrel
      have hw2 := hwr.symm
      clear hwr
      subst hw2
      go_wp2
      go_ret2
      exact ⟨_, _, rfl, X8, h9, on⟩

end Go.Proofs.YtahfjemllkbpgaaGreatDoor
