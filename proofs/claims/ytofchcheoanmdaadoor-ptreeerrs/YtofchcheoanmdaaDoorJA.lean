/- What this text proves: the walk of an arena's Size over this program. What this text proves: the walks of ptree.missing, isRoot, down, needs and parts over this program, at a place where no node stands. What this text proves: a law for a walk, over any program: a region that draws its order, cut where all that is left waits for all that came ahead. What this text proves: the walks of an arena's Size and Node over this program, at a place where a node stands: a copy with memory of its own. What this text proves: the walks of math/bits' Len8 and LeadingZeros8 over this program: how many noughts a byte begins with. What this text proves: the walk of bits.Common over this program: how many first bits two rows of bytes have in common; what was there stays. What this text proves: the walk of ptree.down over this program, at a leaf that is the identity's own. What this text proves: the walks of ptree.Get and Deep over this program, at a leaf. What this text proves: the walk of ptree.Deep over this program, at a leaf. -/
import Derived.Test.YtofchcheoanmdaaDoorAHashW
import Derived.Test.YtofchcheoanmdaaDoorKey
import Derived.Test.YtofchcheoanmdaaDoorVocab
import Derived.Deep.RegionHeld3
import Derived.Test.YtofchcheoanmdaaDoorEqual
import Derived.Test.YtofchcheoanmdaaDoorBitsPlain
import Derived.Test.YtofchcheoanmdaaDoorOwn
import Derived.Lib.MinMax
import Derived.BigQuiet
import Derived.WideMake
namespace Go.Proofs.YtofchcheoanmdaaDoor
open Go.RowKit

set_option maxRecDepth 100000 in
set_option maxHeartbeats 400000 in
theorem size_any (g : Nat) (s r : Int) (p : Option Addr) (n c : Nat) (w : World) (h : AG w g s r p n c) (hs : s ≠ 0) : Calls Tryd.prog 29 #[.pointer (some ⟨g, 0, none⟩)] w fun e w' => e = .returned (.int .i64 s) ∧ w' = w := by
  have hM := miss_no g s w h.cells.1 hs
  obtain ⟨c0, c1, c2, c3⟩ := h.cells
  clear h
  go_enter Tryd.func29, Tryd.ntmps29
  go_wp2_with (first | (go_at_call 55; refine hM.mono ?_; rintro e w1 ⟨rfl, hw⟩; have hw2 := hw.symm; clear hw; subst hw2))
  go_ret
  exact ⟨rfl, rfl⟩

end Go.Proofs.YtofchcheoanmdaaDoor

namespace Go.Proofs.YtofchcheoanmdaaDoor
open Go.RowKit

/-- Bytes stay where a block that holds none changes. -/
theorem HB.onlyC {w w' : World} {g : Nat} {v : Value} {l : List UInt8} {cs : Array Value} {t : TypeId} {fr : Nat × Nat} (h : HB w v l) (hg : w.heap[g]? = some (.cells cs t fr)) (hc : ∀ x ∈ cs.toList, ∀ y : UInt8, x ≠ bc y) (ho : Only g w w') : HB w' v l := by
  obtain ⟨p, cap, e, h1, h2, h3, h4⟩ := h
  refine ⟨p, cap, e, h1, h2, h3, fun hne => ?_⟩
  obtain ⟨b, o, e1, e2⟩ := h4 hne
  refine ⟨b, o, e1, fun i x hx => ?_⟩
  have hcx := e2 i x hx
  have hb : b ≠ g := by
    rintro rfl
    rw [cell_of_row w b (o + i) cs t fr hg] at hcx
    exact hc _ (Array.mem_toList_iff.2 (Array.mem_of_getElem? hcx)) x rfl
  rw [World.cell?_of_block (w := w) (ho.block b hb (cell_lt hcx))]
  exact hcx

set_option maxRecDepth 100000 in
set_option maxHeartbeats 400000 in
theorem pmissing_no (g : Nat) (s r : Int) (p : Option Addr) (n c : Nat) (w : World) (h : AG w g s r p n c) (hs : s ≠ 0) : Calls Tryd.prog 62 #[.pointer (some ⟨g, 0, none⟩)] w fun e w' => e = .returned (.bool false) ∧ w' = w := by
  have hS := size_any g s r p n c w h hs
  have hb : (s == 0) = false := by simpa using hs
  clear h
  go_enter Tryd.func62, Tryd.ntmps62
  go_wp2_with (first | (go_at_call 29; refine hS.mono ?_; rintro e w1 ⟨rfl, hw⟩; have hw2 := hw.symm; clear hw; subst hw2))
  go_ret
  exact ⟨rfl, rfl⟩

set_option maxRecDepth 100000 in
set_option maxHeartbeats 400000 in
theorem isRoot_out (g : Nat) (s r i : Int) (p : Option Addr) (n c : Nat) (w : World) (h : AG w g s r p n c) (hs : s ≠ 0) (hi : i < 0 ∨ (n : Int) ≤ i) : Calls Tryd.prog 63 #[.pointer (some ⟨g, 0, none⟩), .int .i64 i] w fun e w' => e = .returned (.bool (i == -1)) ∧ Below w.heap.size w w' := by
  have hN := node_out g s r i p n c w h hs hi
  unfold zNode at hN
  clear h hi
  go_enter Tryd.func63, Tryd.ntmps63
  go_wp2_with fail
  refine hN.mono ?_
  rintro e w1 ⟨rfl, hb1⟩
  clear hN
  go_wp2
  go_ret
  exact ⟨rfl, hb1.alloc hb1.size _⟩

set_option maxRecDepth 100000 in
set_option maxHeartbeats 1000000 in
theorem down_out (g : Nat) (s r i : Int) (p : Option Addr) (n c : Nat) (vi : Value) (id : List UInt8) (w : World) (h : AG w g s r p n c) (hs : s ≠ 0) (hi : i < 0 ∨ (n : Int) ≤ i) (hid : HB w vi id) : Calls Tryd.prog 64 #[.pointer (some ⟨g, 0, none⟩), .int .i64 i, vi] w fun e w' => ∃ p1 c1, e = .returned (.agg #[.slice p1 (keyF id).length c1, .slice none 0 0, .int .i64 i, .int .i64 0, .bool false]) ∧ HB w' (.slice p1 (keyF id).length c1) (keyF id) ∧ Below w.heap.size w w' := by
  obtain ⟨pi, ci, rfl⟩ := hid.shape
  have hN := fun w' h' => node_out g s r i p n c w' h' hs hi
  unfold zNode at hN
  have hK := fun w' h' => key_any (.slice pi id.length ci) id w' h'
  generalize keyF id = KF at *
  go_enter Tryd.func64, Tryd.ntmps64
  have bA := (Below.refl _ w).alloc (Nat.le_refl _) (.cells #[.slice none 0 0, .slice none 0 0, .int .i64 0, .int .i64 0, .bool false] 99)
  go_wp2_with fail
  refine (hK _ (hid.later bA)).mono ?_
  rintro e w1 ⟨p1, c1, rfl, k1, hb1⟩
  have b1 := bA.trans (hb1.mono bA.size)
  obtain ⟨V, hV⟩ : ∃ V, V = w1.alloc (.cells #[.slice p1 KF.length c1, .slice none 0 0, .int .i64 i, .int .i64 0, .bool false] 99) := ⟨_, rfl⟩
  have bV : Below w1.heap.size w1 V := by rw [hV]; exact (Below.refl _ w1).alloc (Nat.le_refl _) _
  have gV : V.heap[w1.heap.size]? = some (.cells #[.slice p1 KF.length c1, .slice none 0 0, .int .i64 i, .int .i64 0, .bool false] 99 (0, 0)) := by rw [hV]; exact heap_alloc_new w1 _
  have gA := heap_alloc_new w (.cells #[.slice none 0 0, .slice none 0 0, .int .i64 0, .int .i64 0, .bool false] 99)
  have gA1 := (hb1.block _ (Array.getElem?_eq_some_iff.1 gA).1).trans gA
  have gAV := (bV.block _ (Array.getElem?_eq_some_iff.1 gA1).1).trans gA1
  have b0V := b1.trans (bV.mono b1.size)
  have hNV := hN V (h.later b0V)
  have kV := k1.later bV
  go_wp2_with fail
  rw [← hV]
  clear hV hN hK gA gA1 k1 bV hb1 bA h
  go_loopw [9] (fun _ wr => wr = V) (fun _ _ => 0)
  case atStart => rfl
  case round =>
    subst hrel
    have c2 : wr.cell? ⟨w1.heap.size, 2, none⟩ = some (.int .i64 i) := by rw [cell_of_row _ _ 2 _ _ _ gV]; rfl
    go_wp2_with fail
    refine hNV.mono ?_
    rintro e w2 ⟨rfl, hb2⟩
    have bZ := (Below.refl _ w2).alloc (Nat.le_refl _) (.cells #[.bool false, .slice none 0 0, .slice none 0 0, .int .i64 0, .int .i64 0, .slice none 0 0, .int .i64 0, .int .i64 0, .int .i64 0, .slice none 0 0] 43)
    have b2Z := hb2.trans (bZ.mono hb2.size)
    have gw2 := (b2Z.block _ (Array.getElem?_eq_some_iff.1 gV).1).trans gV
    have gA2 := (b2Z.block _ (Array.getElem?_eq_some_iff.1 gAV).1).trans gAV
    have d0 : (w2.alloc (.cells #[.bool false, .slice none 0 0, .slice none 0 0, .int .i64 0, .int .i64 0, .slice none 0 0, .int .i64 0, .int .i64 0, .int .i64 0, .slice none 0 0] 43)).cell? ⟨w1.heap.size, 0, none⟩ = some (.slice p1 KF.length c1) := by rw [cell_of_row _ _ 0 _ _ _ gw2]; rfl
    have d1 : (w2.alloc (.cells #[.bool false, .slice none 0 0, .slice none 0 0, .int .i64 0, .int .i64 0, .slice none 0 0, .int .i64 0, .int .i64 0, .int .i64 0, .slice none 0 0] 43)).cell? ⟨w1.heap.size, 1, none⟩ = some (.slice none 0 0) := by rw [cell_of_row _ _ 1 _ _ _ gw2]; rfl
    have d2 : (w2.alloc (.cells #[.bool false, .slice none 0 0, .slice none 0 0, .int .i64 0, .int .i64 0, .slice none 0 0, .int .i64 0, .int .i64 0, .int .i64 0, .slice none 0 0] 43)).cell? ⟨w1.heap.size, 2, none⟩ = some (.int .i64 i) := by rw [cell_of_row _ _ 2 _ _ _ gw2]; rfl
    have d3 : (w2.alloc (.cells #[.bool false, .slice none 0 0, .slice none 0 0, .int .i64 0, .int .i64 0, .slice none 0 0, .int .i64 0, .int .i64 0, .int .i64 0, .slice none 0 0] 43)).cell? ⟨w1.heap.size, 3, none⟩ = some (.int .i64 0) := by rw [cell_of_row _ _ 3 _ _ _ gw2]; rfl
    have d4 : (w2.alloc (.cells #[.bool false, .slice none 0 0, .slice none 0 0, .int .i64 0, .int .i64 0, .slice none 0 0, .int .i64 0, .int .i64 0, .int .i64 0, .slice none 0 0] 43)).cell? ⟨w1.heap.size, 4, none⟩ = some (.bool false) := by rw [cell_of_row _ _ 4 _ _ _ gw2]; rfl
    have r0 : (w2.alloc (.cells #[.bool false, .slice none 0 0, .slice none 0 0, .int .i64 0, .int .i64 0, .slice none 0 0, .int .i64 0, .int .i64 0, .int .i64 0, .slice none 0 0] 43)).cell? ⟨w.heap.size, 0, none⟩ = some (.slice none 0 0) := by rw [cell_of_row _ _ 0 _ _ _ gA2]; rfl
    have q0 : (w2.alloc (.cells #[.bool false, .slice none 0 0, .slice none 0 0, .int .i64 0, .int .i64 0, .slice none 0 0, .int .i64 0, .int .i64 0, .int .i64 0, .slice none 0 0] 43)).frozen? ⟨w.heap.size, 0, none⟩ = false := by simp only [World.frozen?, gA2]; rfl
    have r1 : (w2.alloc (.cells #[.bool false, .slice none 0 0, .slice none 0 0, .int .i64 0, .int .i64 0, .slice none 0 0, .int .i64 0, .int .i64 0, .int .i64 0, .slice none 0 0] 43)).cell? ⟨w.heap.size, 1, none⟩ = some (.slice none 0 0) := by rw [cell_of_row _ _ 1 _ _ _ gA2]; rfl
    have q1 : (w2.alloc (.cells #[.bool false, .slice none 0 0, .slice none 0 0, .int .i64 0, .int .i64 0, .slice none 0 0, .int .i64 0, .int .i64 0, .int .i64 0, .slice none 0 0] 43)).frozen? ⟨w.heap.size, 1, none⟩ = false := by simp only [World.frozen?, gA2]; rfl
    have r2 : (w2.alloc (.cells #[.bool false, .slice none 0 0, .slice none 0 0, .int .i64 0, .int .i64 0, .slice none 0 0, .int .i64 0, .int .i64 0, .int .i64 0, .slice none 0 0] 43)).cell? ⟨w.heap.size, 2, none⟩ = some (.int .i64 0) := by rw [cell_of_row _ _ 2 _ _ _ gA2]; rfl
    have q2 : (w2.alloc (.cells #[.bool false, .slice none 0 0, .slice none 0 0, .int .i64 0, .int .i64 0, .slice none 0 0, .int .i64 0, .int .i64 0, .int .i64 0, .slice none 0 0] 43)).frozen? ⟨w.heap.size, 2, none⟩ = false := by simp only [World.frozen?, gA2]; rfl
    have r3 : (w2.alloc (.cells #[.bool false, .slice none 0 0, .slice none 0 0, .int .i64 0, .int .i64 0, .slice none 0 0, .int .i64 0, .int .i64 0, .int .i64 0, .slice none 0 0] 43)).cell? ⟨w.heap.size, 3, none⟩ = some (.int .i64 0) := by rw [cell_of_row _ _ 3 _ _ _ gA2]; rfl
    have q3 : (w2.alloc (.cells #[.bool false, .slice none 0 0, .slice none 0 0, .int .i64 0, .int .i64 0, .slice none 0 0, .int .i64 0, .int .i64 0, .int .i64 0, .slice none 0 0] 43)).frozen? ⟨w.heap.size, 3, none⟩ = false := by simp only [World.frozen?, gA2]; rfl
    have r4 : (w2.alloc (.cells #[.bool false, .slice none 0 0, .slice none 0 0, .int .i64 0, .int .i64 0, .slice none 0 0, .int .i64 0, .int .i64 0, .int .i64 0, .slice none 0 0] 43)).cell? ⟨w.heap.size, 4, none⟩ = some (.bool false) := by rw [cell_of_row _ _ 4 _ _ _ gA2]; rfl
    have q4 : (w2.alloc (.cells #[.bool false, .slice none 0 0, .slice none 0 0, .int .i64 0, .int .i64 0, .slice none 0 0, .int .i64 0, .int .i64 0, .int .i64 0, .slice none 0 0] 43)).frozen? ⟨w.heap.size, 4, none⟩ = false := by simp only [World.frozen?, gA2]; rfl
    have hon : Only w.heap.size (w2.alloc (.cells #[.bool false, .slice none 0 0, .slice none 0 0, .int .i64 0, .int .i64 0, .slice none 0 0, .int .i64 0, .int .i64 0, .int .i64 0, .slice none 0 0] 43)) ((((((w2.alloc (.cells #[.bool false, .slice none 0 0, .slice none 0 0, .int .i64 0, .int .i64 0, .slice none 0 0, .int .i64 0, .int .i64 0, .int .i64 0, .slice none 0 0] 43)).setCell ⟨w.heap.size, 0, none⟩ (.slice p1 KF.length c1)).setCell ⟨w.heap.size, 1, none⟩ (.slice none 0 0)).setCell ⟨w.heap.size, 2, none⟩ (.int .i64 i)).setCell ⟨w.heap.size, 3, none⟩ (.int .i64 0)).setCell ⟨w.heap.size, 4, none⟩ (.bool false)) := (((((Only.refl _ _).setCell 0 _).setCell 1 _).setCell 2 _).setCell 3 _).setCell 4 _
    have kf := (kV.later b2Z).onlyC gA2 (by intro x hx y; simp at hx; rcases hx with rfl | rfl | rfl <;> simp [bc]) hon
    have bf := (b0V.trans (b2Z.mono b0V.size)).trans (hon.below (Nat.le_refl _))
    clear hNV c2 gA2 gw2 hon kV bZ b2Z gV gAV
    go_wp2
    refine bodyPost_ret (v := .agg #[.slice p1 KF.length c1, .slice none 0 0, .int .i64 i, .int .i64 0, .bool false]) ?_ rfl ?_
    · simp only [results, Tryd.results64]
      go_simp
    · exact ⟨_, _, rfl, kf, bf⟩

end Go.Proofs.YtofchcheoanmdaaDoor

namespace Go.Proofs.YtofchcheoanmdaaDoor
open Go.RowKit

/-- The first part's post: behind it the rest, from there on. -/
def headPost (P : Program) (md : Region.Mode) (ops : Array Oper) (Q : Exit → Act → World → Prop) (m r : Nat) : Exit → Act → World → Prop
  | .normal, a, w => wpAny P md ops Q r (Array.replicate m true ++ Array.replicate r false) a w
  | e, a, w => Q e a w

/-- Whether one operation waits for another, by way of those between. -/
def waitsFor (md : Region.Mode) (ops : Array Oper) : Nat → Nat → Nat → Bool
  | 0, _, _ => false
  | f + 1, i, j => match ops[i]? with
    | none => false
    | some o => o.after.any fun e => Region.binds md e && (e.on == j || waitsFor md ops f e.on j)

/-- What has come up came up behind what it waits for. -/
def Closed (md : Region.Mode) (ops : Array Oper) (L : Array Bool) : Prop := ∀ i o, L.getD i false = true → ops[i]? = some o → ∀ e ∈ o.after, Region.binds md e = true → L.getD e.on false = true

theorem waitsFor_listed {md : Region.Mode} {ops : Array Oper} {L : Array Bool} (hL : Closed md ops L) (j : Nat) : ∀ (f i : Nat) (o : Oper), ops[i]? = some o → (∀ e ∈ o.after, Region.binds md e = true → L.getD e.on false = true) → waitsFor md ops f i j = true → L.getD j false = true := by
  intro f
  induction f with
  | zero => intro i o _ _ h; simp [waitsFor] at h
  | succ f ih =>
    intro i o ho hw h
    simp only [waitsFor, ho, Array.any_eq_true', Bool.and_eq_true, Bool.or_eq_true, beq_iff_eq] at h
    obtain ⟨e, he, hb, hj⟩ := h
    have hl := hw e he hb
    rcases hj with rfl | hj
    · exact hl
    · cases ho2 : ops[e.on]? with
      | none => cases f <;> simp [waitsFor, ho2] at hj
      | some o2 => exact ih e.on o2 ho2 (hL e.on o2 hl ho2) hj

/-- Of the first m operations none waits for a later one and none has a guard; each of the others waits for all of these, or for one of the others. -/
def cutsAt (md : Region.Mode) (ops : Array Oper) (m r : Nat) : Bool :=
  ops.size == m + r &&
  (List.range m).all (fun i => match ops[i]? with
    | none => false
    | some o => o.guard.isNone && o.after.all fun e => !Region.binds md e || decide (e.on < i)) &&
  (List.range r).all (fun k => match ops[m + k]? with
    | none => false
    | some o => (List.range m).all (fun j => waitsFor md ops (m + r) (m + k) j) || o.after.any fun e => Region.binds md e && decide (m ≤ e.on))

theorem wpAny_more {P : Program} {md : Region.Mode} {ops : Array Oper} {Q : Exit → Act → World → Prop} : ∀ (fuel : Nat) (listed : Array Bool) (a : Act) (w : World), wpAny P md ops Q fuel listed a w → wpAny P md ops Q (fuel + 1) listed a w := by
  intro fuel
  induction fuel with
  | zero => intro listed a w h; exact ⟨fun _ => h.2, fun i hi => by rw [h.1] at hi; cases hi⟩
  | succ fuel ih => intro listed a w h; exact ⟨h.1, fun i hi => wpOp_mono (fun a' w' h' => ih _ a' w' h') (h.2 i hi)⟩

theorem wpAny_more2 {P : Program} {md : Region.Mode} {ops : Array Oper} {Q : Exit → Act → World → Prop} (k fuel : Nat) (listed : Array Bool) (a : Act) (w : World) (h : wpAny P md ops Q fuel listed a w) : wpAny P md ops Q (k + fuel) listed a w := by
  induction k with
  | zero => rw [Nat.zero_add]; exact h
  | succ k ih => rw [Nat.add_right_comm]; exact wpAny_more _ _ _ _ ih

theorem wp_head {P : Program} {o : Oper} {a : Act} {w : World} {K : Act → World → Prop} {Q Q' : Exit → Act → World → Prop} (h : ∀ e a w, e ≠ .normal → Q e a w → Q' e a w) (hh : o.wp P a w K Q) : o.wp P a w K Q' := by
  have hl : LetsOut Q → LetsOut Q' := fun ⟨a, w, hx⟩ => ⟨a, w, h _ _ _ (by simp) hx⟩
  unfold Oper.wp at *
  generalize (execOp a.eval o).run P w = r at *
  cases r with
  | ok n w' =>
    cases n <;> simp only [Oper.upon] at hh ⊢ <;>
      first
        | exact hh
        | exact Calls.mono hh (fun e w'' he => by cases e <;> first | exact he | exact hl he | exact h _ _ _ (by simp) he)
  | halt x w' => cases x <;> simp only [Oper.upon] at hh ⊢ <;> first | exact hh | exact h _ _ _ (by simp) hh

theorem getD_app {l : Array Bool} {r j : Nat} {d : Bool} : (l ++ Array.replicate r false).getD j d = if j < l.size then l.getD j d else if j < l.size + r then false else d := by
  simp only [Array.getD_eq_getD_getElem?, Array.getElem?_append]
  split
  · rfl
  · simp only [Array.getElem?_replicate]
    split <;> split <;> first | rfl | omega

theorem wpAny_split {P : Program} {md : Region.Mode} {ops ops1 : Array Oper} {Q : Exit → Act → World → Prop} (m r : Nat) (h1 : ops1 = ops.extract 0 m) (hc : cutsAt md ops m r = true) :
    ∀ (fuel : Nat) (l : Array Bool) (a : Act) (w : World), l.size = m → Closed md ops (l ++ Array.replicate r false) → wpAny P md ops1 (headPost P md ops Q m r) fuel l a w → wpAny P md ops Q (fuel + r) (l ++ Array.replicate r false) a w := by
  unfold cutsAt at hc
  simp only [Bool.and_eq_true, beq_iff_eq, List.all_eq_true, List.mem_range] at hc
  obtain ⟨⟨hn, hA⟩, hB⟩ := hc
  have hop : ∀ i, i < m → ops1[i]? = ops[i]? := by
    intro i hi
    rw [h1, Array.getElem?_extract]
    simp only [Nat.sub_zero, Nat.zero_add]
    rw [if_pos (by omega)]
  have hs1 : ops1.size = m := by rw [h1, Array.size_extract]; omega
  have hA2 : ∀ i, i < m → ∃ o, ops[i]? = some o ∧ o.guard = none ∧ ∀ e ∈ o.after, Region.binds md e = true → e.on < i := by
    intro i hi
    have := hA i hi
    revert this
    cases ops[i]? with
    | none => intro h; cases h
    | some o =>
      intro h
      simp only [Bool.and_eq_true, Option.isNone_iff_eq_none, Array.all_eq_true_iff_forall_mem, Bool.or_eq_true, Bool.not_eq_true', decide_eq_true_eq] at h
      exact ⟨o, rfl, h.1, fun e he hb => (h.2 e he).resolve_left (by simp [hb])⟩
  have hB2 : ∀ k, k < r → ∃ o, ops[m + k]? = some o ∧ ((∀ j, j < m → waitsFor md ops (m + r) (m + k) j = true) ∨ ∃ e ∈ o.after, Region.binds md e = true ∧ m ≤ e.on) := by
    intro k hk
    have := hB k hk
    revert this
    cases ops[m + k]? with
    | none => intro h; cases h
    | some o =>
      intro h
      simp only [Bool.or_eq_true, List.all_eq_true, List.mem_range, Array.any_eq_true', Bool.and_eq_true, decide_eq_true_eq] at h
      exact ⟨o, rfl, h⟩
  -- all of the first part have come up, where none of it may
  have hall : ∀ l : Array Bool, l.size = m → Region.ready md ops1 l = [] → l = Array.replicate m true := by
    intro l hl hr
    have key : ∀ n i, i < n → i < m → l.getD i true = true := by
      intro n
      induction n with
      | zero => intro i hi; omega
      | succ n ih =>
        intro i hi hm
        rcases hb : l.getD i true with _ | _
        · exfalso
          obtain ⟨o, ho, _, hw⟩ := hA2 i hm
          have : i ∈ Region.ready md ops1 l := by
            refine mem_ready.2 ⟨hb, o, (hop i hm).trans ho, fun e he hbb => ?_⟩
            have hlt := hw e he hbb
            have := ih e.on (by omega) (by omega)
            simp only [Array.getD_eq_getD_getElem?] at this ⊢
            rw [Array.getElem?_eq_getElem (by omega)] at this ⊢
            exact this
          rw [hr] at this
          cases this
        · rfl
    refine Array.ext (by simp [hl]) fun i h1 h2 => ?_
    have := key (i + 1) i (by omega) (by omega)
    simpa [Array.getD_eq_getD_getElem?, Array.getElem?_eq_getElem h1] using this
  intro fuel
  induction fuel with
  | zero =>
    intro l a w hl _ h
    have e := hall l hl h.1
    subst e
    rw [Nat.zero_add]
    exact h.2
  | succ fuel ih =>
    intro l a w hl hcl h
    by_cases hr : Region.ready md ops1 l = []
    · have e := hall l hl hr
      have := h.1 hr
      subst e
      exact wpAny_more2 _ _ _ _ _ this
    · have hin : ∀ i, i ∈ Region.ready md ops1 l → i ∈ Region.ready md ops (l ++ Array.replicate r false) := by
        intro i hi
        obtain ⟨h0, o, ho, hw⟩ := mem_ready.1 hi
        have him : i < m := by rw [← hs1]; exact (Array.getElem?_eq_some_iff.1 ho).1
        refine mem_ready.2 ⟨by rw [getD_app, if_pos (by omega)]; exact h0, o, (hop i him).symm.trans ho, fun e he hb => ?_⟩
        obtain ⟨o', ho', _, hw'⟩ := hA2 i him
        obtain rfl : o' = o := Option.some.inj (ho'.symm.trans ((hop i him).symm.trans ho))
        have := hw' e he hb
        rw [getD_app, if_pos (by omega)]
        exact hw e he hb
      obtain ⟨i0, hi0⟩ := List.exists_mem_of_ne_nil _ hr
      have hi0m : i0 < m ∧ l.getD i0 true = false := by
        obtain ⟨h0, o, ho, _⟩ := mem_ready.1 hi0
        exact ⟨by rw [← hs1]; exact (Array.getElem?_eq_some_iff.1 ho).1, h0⟩
      rw [Nat.add_right_comm]
      refine ⟨fun h0 => ?_, fun i hi => ?_⟩
      · have := hin i0 hi0
        rw [h0] at this
        cases this
      · obtain ⟨h0, o, ho, hw⟩ := mem_ready.1 hi
        have hilt : i < m + r := by rw [← hn]; exact (Array.getElem?_eq_some_iff.1 ho).1
        have him : i < m := by
          rcases Nat.lt_or_ge i m with h' | h'
          · exact h'
          · exfalso
            obtain ⟨o', ho', hx⟩ := hB2 (i - m) (by omega)
            rw [show m + (i - m) = i by omega, ho] at ho'
            obtain rfl := Option.some.inj ho'
            rcases hx with hx | ⟨e, he, hb, hme⟩
            · have := waitsFor_listed hcl i0 (m + r) i o ho hw (by have := hx i0 hi0m.1; rwa [show m + (i - m) = i by omega] at this)
              rw [getD_app, if_pos (by omega)] at this
              have h2 := hi0m.2
              simp only [Array.getD_eq_getD_getElem?] at this h2
              rw [Array.getElem?_eq_getElem (by omega)] at this h2
              simp at this h2
              rw [h2] at this
              cases this
            · have := hw e he hb
              rw [getD_app, if_neg (by omega)] at this
              split at this <;> cases this
        obtain ⟨o', ho', hg, hw'⟩ := hA2 i him
        obtain rfl : o' = o := Option.some.inj (ho'.symm.trans ho)
        have hi1 : i ∈ Region.ready md ops1 l := by
          refine mem_ready.2 ⟨by rw [getD_app, if_pos (by omega)] at h0; exact h0, o', (hop i him).trans ho, fun e he hb => ?_⟩
          have := hw e he hb
          have hlt := hw' e he hb
          rw [getD_app, if_pos (by omega)] at this
          exact this
        have hst := h.2 i hi1
        have hse : (l ++ Array.replicate r false).setIfInBounds i true = l.setIfInBounds i true ++ Array.replicate r false := by
          rw [Array.setIfInBounds_append_left]; omega
        have hcl2 : Closed md ops (l.setIfInBounds i true ++ Array.replicate r false) := by
          rw [← hse]
          intro j oj hj hoj e he hb
          have hup : (l ++ Array.replicate r false).getD e.on false = true → ((l ++ Array.replicate r false).setIfInBounds i true).getD e.on false = true := by
            intro hx
            by_cases hie : i = e.on
            · rw [← hie]
              simp [hl]; omega
            · rw [getD_set_ne false hie]; exact hx
          refine hup ?_
          by_cases hij : i = j
          · subst hij
            obtain rfl := Option.some.inj (hoj.symm.trans ho)
            exact hw e he hb
          · rw [getD_set_ne false hij] at hj
            exact hcl j oj hj hoj e he hb
        have hst2 := wpOp_mono (fun a' w' h' => ih (l.setIfInBounds i true) a' w' (by simp [hl]) hcl2 h') hst
        rw [hse]
        unfold wpOp at hst2 ⊢
        rw [hop i him, ho] at hst2
        rw [ho]
        simp only [Region.wanted, hg, if_true] at hst2 ⊢
        refine hst2.imp (wp_head ?_) (fun ⟨x, a, w, hx⟩ => ⟨x, a, w, hx⟩)
        intro e a w hne hx
        cases e <;> first | exact absurd rfl hne | exact hx

/-- A region that draws, in two parts: the first by itself; the rest from where it ends. -/
theorem wp_region_split {P : Program} {id : Nat} {ops : Array Oper} {Q : Exit → Act → World → Prop} {a : Act} {w : World} (hm : P.follows .mixedOrders = true) (S : World → Prop) (m r : Nat) (ops1 : Array Oper) (h1 : ops1 = ops.extract 0 m) (hc : cutsAt .any ops m r = true)
    (h : wpAnyH P .any ops1 (headPost P .any ops Q m r) S m (Array.replicate m false) a w.drew) : (Code.region id ops true).wp P Q a w := by
  have hn : ops.size = m + r := by
    unfold cutsAt at hc
    simp only [Bool.and_eq_true, beq_iff_eq] at hc
    exact hc.1.1
  refine wp_region_any hm ?_
  have := wpAny_split m r h1 hc m (Array.replicate m false) a w.drew (by simp) (by intro i o hi; exfalso; rw [getD_app] at hi; revert hi; simp only [Array.size_replicate, Array.getD_eq_getD_getElem?, Array.getElem?_replicate]; split <;> simp_all) (wpAny_of_held _ _ _ _ h)
  rw [hn, show Array.replicate (m + r) false = Array.replicate m false ++ Array.replicate r false by simp]
  exact this

/-- Whether the rest comes up in one way alone. -/
def chainFrom (md : Region.Mode) (ops : Array Oper) : Nat → Nat → Array Bool → Bool
  | 0, _, L => (Region.ready md ops L).isEmpty
  | n + 1, i, L => Region.ready md ops L == [i] && chainFrom md ops n (i + 1) (L.setIfInBounds i true)

theorem wpAny_chain {P : Program} {md : Region.Mode} {ops : Array Oper} {Q : Exit → Act → World → Prop} : ∀ (n i : Nat) (L : Array Bool) (a : Act) (w : World), chainFrom md ops n i L = true → wpOps P ops Q (List.range' i n) a w → wpAny P md ops Q n L a w := by
  intro n
  induction n with
  | zero =>
    intro i L a w hc h
    exact ⟨by simpa [chainFrom] using hc, by simpa [wpOps] using h⟩
  | succ n ih =>
    intro i L a w hc h
    simp only [chainFrom, Bool.and_eq_true, beq_iff_eq] at hc
    rw [List.range'_succ, wpOps_cons] at h
    refine ⟨fun h0 => (by rw [hc.1] at h0; cases h0), fun j hj => ?_⟩
    rw [hc.1, List.mem_singleton] at hj
    subst hj
    exact wpOp_mono (fun a' w' h' => ih _ _ a' w' hc.2 h') h

/-- The rest, where it comes up in one way alone. -/
theorem headPost_rest {P : Program} {md : Region.Mode} {ops : Array Oper} {Q : Exit → Act → World → Prop} {m r : Nat} {a : Act} {w : World} (l : List Oper) (hl : l = ops.toList.drop m) (hr : l.length = r) (hc : chainFrom md ops r m (Array.replicate m true ++ Array.replicate r false) = true) (h : wpList P ops Q l a w) : headPost P md ops Q m r .normal a w := by
  refine wpAny_chain r m _ a w hc ?_
  rw [← hr, wpOps_eq_wpList l m fun j => by rw [hl, List.getElem?_drop]; simp]
  exact h

theorem wpList_post {P : Program} {ops : Array Oper} {Q Q' : Exit → Act → World → Prop} (h : ∀ e a w, Q e a w → Q' e a w) : ∀ (l : List Oper) (a : Act) (w : World), wpList P ops Q l a w → wpList P ops Q' l a w := by
  intro l
  induction l with
  | nil => intro a w hh; exact h _ _ _ hh
  | cons o l ih =>
    intro a w hh
    unfold wpList at hh ⊢
    split at hh
    · rw [if_pos (by assumption)]
      exact hh.imp (fun hx => wp_head (fun e a w _ hy => h e a w hy) (Oper.wp_mono (fun a w hz => ih a w hz) hx)) (fun ⟨hx, a, w, hy⟩ => ⟨hx, a, w, h _ _ _ hy⟩)
    · rw [if_neg (by assumption)]
      exact ih _ _ hh

/-- A post of the normal end alone. -/
def atEnd (R : Act → World → Prop) : Exit → Act → World → Prop
  | .normal, a, w => R a w
  | _, _, _ => False

/-- The rest in one way alone, and what is known behind it. -/
theorem headPost_end {P : Program} {md : Region.Mode} {ops : Array Oper} {Q : Exit → Act → World → Prop} {m r : Nat} {a : Act} {w : World} (l : List Oper) (hl : l = ops.toList.drop m) (hr : l.length = r) (hc : chainFrom md ops r m (Array.replicate m true ++ Array.replicate r false) = true) (A : Act) (R : World → Prop)
    (h : wpList P ops (atEnd fun a' w' => a' = A ∧ R w') l a w) (hR : ∀ w', R w' → Q .normal A w') : headPost P md ops Q m r .normal a w := by
  refine headPost_rest l hl hr hc (wpList_post ?_ l a w h)
  intro e a w hx
  cases e <;> first | exact hx.elim | (obtain ⟨rfl, hx⟩ := hx; exact hR _ hx)

end Go.Proofs.YtofchcheoanmdaaDoor

namespace Go.Proofs.YtofchcheoanmdaaDoor
open Go.RowKit

set_option maxRecDepth 100000 in
set_option maxHeartbeats 40000000 in
theorem node_at (g n c base i nb : Nat) (s r : Int) (p : Option Addr) (xs : List Value) (x : NodeS) (w : World) (h : AG w g s r p n c) (ho : w.ownsRow base 91 1 (.slice p n c) n xs) (hs : s ≠ 0) (hx : xs[i]? = some (.pointer (some ⟨nb, 0, none⟩))) (hX : NB w nb x) (hl : x.id.length ≤ 65535 ∧ x.key.length ≤ 65535 ∧ x.pre.length ≤ 65535 ∧ x.hash.length ≤ 65535) :
    Calls Tryd.prog 23 #[.pointer (some ⟨g, 0, none⟩), .int .i64 (i : Int)] w fun e w' => ∃ p1 c1 p2 c2 p3 c3 p4 c4, e = .returned (.tuple #[.agg #[.bool x.leaf, .slice p1 x.id.length c1, .slice p2 x.key.length c2, .int .i64 x.since, .int .i64 x.depth, .slice p3 x.pre.length c3, .int .i64 x.newest, .int .i64 x.left, .int .i64 x.right, .slice p4 x.hash.length c4], .bool true]) ∧ HB w' (.slice p1 x.id.length c1) x.id ∧ HB w' (.slice p2 x.key.length c2) x.key ∧ HB w' (.slice p3 x.pre.length c3) x.pre ∧ HB w' (.slice p4 x.hash.length c4) x.hash ∧ Below w.heap.size w w' := by
  have bA := (Below.refl _ w).alloc (Nat.le_refl _) (.cells #[.bool false, .slice none 0 0, .slice none 0 0, .int .i64 0, .int .i64 0, .slice none 0 0, .int .i64 0, .int .i64 0, .int .i64 0, .slice none 0 0] 43)
  have g0 := heap_alloc_new w (.cells #[.bool false, .slice none 0 0, .slice none 0 0, .int .i64 0, .int .i64 0, .slice none 0 0, .int .i64 0, .int .i64 0, .int .i64 0, .slice none 0 0] 43)
  obtain ⟨W, hW⟩ : ∃ W, W = w.alloc (.cells #[.bool false, .slice none 0 0, .slice none 0 0, .int .i64 0, .int .i64 0, .slice none 0 0, .int .i64 0, .int .i64 0, .int .i64 0, .slice none 0 0] 43) := ⟨_, rfl⟩
  rw [← hW] at bA g0
  have hA := h.later bA
  have oA := owns_later ho bA
  have hM := miss_no g s W hA.cells.1 hs
  have hi : i < n := by
    have := ho.1
    have := (List.getElem?_eq_some_iff.1 hx).1
    omega
  obtain ⟨b, rfl, hc⟩ := owns_get oA hx
  have hH := has_in g s r i b n c ⟨nb, 0, none⟩ W hA hi hc
  obtain ⟨c0, c1, c2, c3⟩ := hA.cells
  obtain ⟨vi, vk, vp, vh, n0, n1, n2, n3, n4, n5, n6, n7, n8, n9, k1, k2, k3, k4⟩ := (hX.later bA).cells
  obtain ⟨pi, ci, rfl⟩ := k1.1.shape
  obtain ⟨pk, ck, rfl⟩ := k2.1.shape
  obtain ⟨pp, cp, rfl⟩ := k3.1.shape
  obtain ⟨ph, ch, rfl⟩ := k4.1.shape
  have hi3 : (0 : Int) ≤ (i : Int) := by omega
  have hi4 : (i : Int) < (n : Int) := by omega
  go_enter Tryd.func23, Tryd.ntmps23
  go_wp2_with fail
  rw [← hW]
  clear hW
  go_wp2_with (first | (go_at_call 55; refine hM.mono ?_; rintro e w1 ⟨rfl, hw⟩; have hw2 := hw.symm; clear hw; subst hw2) | (go_at_call 58; refine hH.mono ?_; rintro e w1 ⟨rfl, hw⟩; have hw2 := hw.symm; clear hw; subst hw2))
  obtain ⟨V, hV⟩ : ∃ V, V = W.alloc (.cells #[.bool x.leaf, .slice pi x.id.length ci, .slice pk x.key.length ck, .int .i64 x.since, .int .i64 x.depth, .slice pp x.pre.length cp, .int .i64 x.newest, .int .i64 x.left, .int .i64 x.right, .slice ph x.hash.length ch] 43) := ⟨_, rfl⟩
  have bV : Below W.heap.size W V := by rw [hV]; exact (Below.refl _ W).alloc (Nat.le_refl _) _
  have gV : V.heap[W.heap.size]? = some (.cells #[.bool x.leaf, .slice pi x.id.length ci, .slice pk x.key.length ck, .int .i64 x.since, .int .i64 x.depth, .slice pp x.pre.length cp, .int .i64 x.newest, .int .i64 x.left, .int .i64 x.right, .slice ph x.hash.length ch] 43 (0, 0)) := by rw [hV]; exact heap_alloc_new W _
  rw [← hV]
  have j1 := k1.later bV
  have j2 := k2.later bV
  have j3 := k3.later bV
  have j4 := k4.later bV
  clear hV n0 n1 n2 n3 n4 n5 n6 n7 n8 n9 k1 k2 k3 k4 c0 c1 c2 c3 hM hH hc oA hA hX h ho
  have hcell : ∀ W', Below V.heap.size V W' → W'.cell? ⟨W.heap.size, 1, none⟩ = some (.slice pi x.id.length ci) ∧ W'.cell? ⟨W.heap.size, 2, none⟩ = some (.slice pk x.key.length ck) ∧ W'.cell? ⟨W.heap.size, 5, none⟩ = some (.slice pp x.pre.length cp) ∧ W'.cell? ⟨W.heap.size, 9, none⟩ = some (.slice ph x.hash.length ch) := by
    intro W' hb
    refine ⟨cell_later hb ?_, cell_later hb ?_, cell_later hb ?_, cell_later hb ?_⟩
    · rw [cell_of_row _ _ 1 _ _ _ gV]; rfl
    · rw [cell_of_row _ _ 2 _ _ _ gV]; rfl
    · rw [cell_of_row _ _ 5 _ _ _ gV]; rfl
    · rw [cell_of_row _ _ 9 _ _ _ gV]; rfl
  have hfroz : ∀ W', Below V.heap.size V W' → W'.frozen? ⟨W.heap.size, 1, none⟩ = false ∧ W'.frozen? ⟨W.heap.size, 2, none⟩ = false ∧ W'.frozen? ⟨W.heap.size, 5, none⟩ = false ∧ W'.frozen? ⟨W.heap.size, 9, none⟩ = false := by
    intro W' hb
    have g := (hb.block _ (Array.getElem?_eq_some_iff.1 gV).1).trans gV
    refine ⟨?_, ?_, ?_, ?_⟩ <;> simp [World.frozen?, g]
  obtain ⟨m1, m2, m5, m9⟩ := hcell V (Below.refl _ _)
  have hd : Below V.heap.size V V.drew := (Below.refl _ V).drew
  have hC1 := clone_own _ x.id _ (j1.later hd).1 (by omega)
  have hHeld := hcell V.drew hd
  refine wp_region_split (by kernel_rfl) (fun W' => W'.cell? ⟨W.heap.size, 1, none⟩ = some (.slice pi x.id.length ci) ∧ W'.cell? ⟨W.heap.size, 2, none⟩ = some (.slice pk x.key.length ck) ∧ W'.cell? ⟨W.heap.size, 5, none⟩ = some (.slice pp x.pre.length cp) ∧ W'.cell? ⟨W.heap.size, 9, none⟩ = some (.slice ph x.hash.length ch)) 13 7 #[{ dst := some 25, op := Op.fieldAddr 43 (Operand.tmp 6) 1, type := 0, pos := "arena.go:115", after := #[], guard := none },
    { dst := some 26, op := Op.load 31 (Operand.tmp 25), type := 31, pos := "arena.go:115", after := #[{ on := 0, ground := Ground.data }], guard := none },
    { dst := some 27, op := Op.call { callee := Callee.value (Operand.func 60), args := #[Operand.tmp 26], argTypes := #[31] }, type := 31, pos := "arena.go:115", after := #[{ on := 1, ground := Ground.data }], guard := none },
    { dst := some 28, op := Op.fieldAddr 43 (Operand.tmp 6) 2, type := 0, pos := "arena.go:115", after := #[], guard := none },
    { dst := some 29, op := Op.load 31 (Operand.tmp 28), type := 31, pos := "arena.go:115", after := #[{ on := 3, ground := Ground.data }], guard := none },
    { dst := some 30, op := Op.call { callee := Callee.value (Operand.func 60), args := #[Operand.tmp 29], argTypes := #[31] }, type := 31, pos := "arena.go:115", after := #[{ on := 4, ground := Ground.data }, { on := 2, ground := Ground.chain }], guard := none },
    { dst := some 31, op := Op.fieldAddr 43 (Operand.tmp 6) 5, type := 0, pos := "arena.go:115", after := #[], guard := none },
    { dst := some 32, op := Op.load 31 (Operand.tmp 31), type := 31, pos := "arena.go:115", after := #[{ on := 6, ground := Ground.data }], guard := none },
    { dst := some 33, op := Op.call { callee := Callee.value (Operand.func 60), args := #[Operand.tmp 32], argTypes := #[31] }, type := 31, pos := "arena.go:115", after := #[{ on := 7, ground := Ground.data }, { on := 5, ground := Ground.chain }], guard := none },
    { dst := some 34, op := Op.fieldAddr 43 (Operand.tmp 6) 9, type := 0, pos := "arena.go:115", after := #[], guard := none },
    { dst := some 35, op := Op.load 31 (Operand.tmp 34), type := 31, pos := "arena.go:115", after := #[{ on := 9, ground := Ground.data }], guard := none },
    { dst := some 36, op := Op.call { callee := Callee.value (Operand.func 60), args := #[Operand.tmp 35], argTypes := #[31] }, type := 31, pos := "arena.go:115", after := #[{ on := 10, ground := Ground.data }, { on := 8, ground := Ground.chain }], guard := none },
    { dst := some 37, op := Op.fieldAddr 43 (Operand.tmp 6) 1, type := 0, pos := "arena.go:115", after := #[{ on := 0, ground := Ground.phase }, { on := 1, ground := Ground.phase }, { on := 2, ground := Ground.phase }, { on := 3, ground := Ground.phase }, { on := 4, ground := Ground.phase }, { on := 5, ground := Ground.textOnly Departure.lateStoresUnsure }, { on := 6, ground := Ground.phase }, { on := 7, ground := Ground.phase }, { on := 8, ground := Ground.textOnly Departure.lateStoresUnsure }, { on := 9, ground := Ground.phase }, { on := 10, ground := Ground.phase }, { on := 11, ground := Ground.textOnly Departure.lateStoresUnsure }], guard := none }] (by kernel_rfl) (by kernel_rfl) ?_
  refine wpAnyH_take (i := 0) (oi := { dst := some 25, op := Op.fieldAddr 43 (Operand.tmp 6) 1, type := 0, pos := "arena.go:115", after := #[], guard := none }) (v := ?v0) rfl (by kernel_rfl) (by kernel_rfl) (by kernel_rfl) (fun _ _ _ h => h) (Or.inl ⟨by rfl, ?y0⟩) hHeld ?r0
  case y0 => (intro w hSw; (try dsimp only at hSw); go_simp) <;> with_reducible rfl
  try simp only [Act.put, List.setIfInBounds_toArray, List.set_cons_zero, List.set_cons_succ]
  refine wpAnyH_take (i := 1) (oi := { dst := some 26, op := Op.load 31 (Operand.tmp 25), type := 31, pos := "arena.go:115", after := #[{ on := 0, ground := Ground.data }], guard := none }) (v := ?v1) rfl (by kernel_rfl) (by kernel_rfl) (by kernel_rfl) (fun _ _ _ h => h) (Or.inl ⟨by rfl, ?y1⟩) hHeld ?r1
  case y1 => (intro w hSw; (try dsimp only at hSw); go_simp) <;> with_reducible rfl
  try simp only [Act.put, List.setIfInBounds_toArray, List.set_cons_zero, List.set_cons_succ]
  refine wpAnyH_take (i := 3) (oi := { dst := some 28, op := Op.fieldAddr 43 (Operand.tmp 6) 2, type := 0, pos := "arena.go:115", after := #[], guard := none }) (v := ?v3) rfl (by kernel_rfl) (by kernel_rfl) (by kernel_rfl) (fun _ _ _ h => h) (Or.inl ⟨by rfl, ?y3⟩) hHeld ?r3
  case y3 => (intro w hSw; (try dsimp only at hSw); go_simp) <;> with_reducible rfl
  try simp only [Act.put, List.setIfInBounds_toArray, List.set_cons_zero, List.set_cons_succ]
  refine wpAnyH_take (i := 4) (oi := { dst := some 29, op := Op.load 31 (Operand.tmp 28), type := 31, pos := "arena.go:115", after := #[{ on := 3, ground := Ground.data }], guard := none }) (v := ?v4) rfl (by kernel_rfl) (by kernel_rfl) (by kernel_rfl) (fun _ _ _ h => h) (Or.inl ⟨by rfl, ?y4⟩) hHeld ?r4
  case y4 => (intro w hSw; (try dsimp only at hSw); go_simp) <;> with_reducible rfl
  try simp only [Act.put, List.setIfInBounds_toArray, List.set_cons_zero, List.set_cons_succ]
  refine wpAnyH_take (i := 6) (oi := { dst := some 31, op := Op.fieldAddr 43 (Operand.tmp 6) 5, type := 0, pos := "arena.go:115", after := #[], guard := none }) (v := ?v6) rfl (by kernel_rfl) (by kernel_rfl) (by kernel_rfl) (fun _ _ _ h => h) (Or.inl ⟨by rfl, ?y6⟩) hHeld ?r6
  case y6 => (intro w hSw; (try dsimp only at hSw); go_simp) <;> with_reducible rfl
  try simp only [Act.put, List.setIfInBounds_toArray, List.set_cons_zero, List.set_cons_succ]
  refine wpAnyH_take (i := 7) (oi := { dst := some 32, op := Op.load 31 (Operand.tmp 31), type := 31, pos := "arena.go:115", after := #[{ on := 6, ground := Ground.data }], guard := none }) (v := ?v7) rfl (by kernel_rfl) (by kernel_rfl) (by kernel_rfl) (fun _ _ _ h => h) (Or.inl ⟨by rfl, ?y7⟩) hHeld ?r7
  case y7 => (intro w hSw; (try dsimp only at hSw); go_simp) <;> with_reducible rfl
  try simp only [Act.put, List.setIfInBounds_toArray, List.set_cons_zero, List.set_cons_succ]
  refine wpAnyH_take (i := 9) (oi := { dst := some 34, op := Op.fieldAddr 43 (Operand.tmp 6) 9, type := 0, pos := "arena.go:115", after := #[], guard := none }) (v := ?v9) rfl (by kernel_rfl) (by kernel_rfl) (by kernel_rfl) (fun _ _ _ h => h) (Or.inl ⟨by rfl, ?y9⟩) hHeld ?r9
  case y9 => (intro w hSw; (try dsimp only at hSw); go_simp) <;> with_reducible rfl
  try simp only [Act.put, List.setIfInBounds_toArray, List.set_cons_zero, List.set_cons_succ]
  refine wpAnyH_take (i := 10) (oi := { dst := some 35, op := Op.load 31 (Operand.tmp 34), type := 31, pos := "arena.go:115", after := #[{ on := 9, ground := Ground.data }], guard := none }) (v := ?v10) rfl (by kernel_rfl) (by kernel_rfl) (by kernel_rfl) (fun _ _ _ h => h) (Or.inl ⟨by rfl, ?y10⟩) hHeld ?r10
  case y10 => (intro w hSw; (try dsimp only at hSw); go_simp) <;> with_reducible rfl
  try simp only [Act.put, List.setIfInBounds_toArray, List.set_cons_zero, List.set_cons_succ]
  refine wpAnyH_ready (rs := [2]) (by kernel_rfl) (by simp) ?_
  refine AllReadyH.cons (o := { dst := some 27, op := Op.call { callee := Callee.value (Operand.func 60), args := #[Operand.tmp 26], argTypes := #[31] }, type := 31, pos := "arena.go:115", after := #[{ on := 1, ground := Ground.data }], guard := none }) rfl (fun K hK => ?_) AllReadyH.nil
  go_simp
  refine hC1.mono ?_
  rintro e w1 ⟨p1, c1, rfl, o1, hb1'⟩
  have hb1 : Below V.heap.size V w1 := hd.trans (hb1'.mono (by simp))
  replace hHeld := hcell w1 hb1
  refine hK.out _ _ ?_ (fun _ => ?_)
  · exact hHeld
  clear hK K
  try simp only [Act.put, List.setIfInBounds_toArray, List.set_cons_zero, List.set_cons_succ]
  refine wpAnyH_take (i := 12) (oi := { dst := some 37, op := Op.fieldAddr 43 (Operand.tmp 6) 1, type := 0, pos := "arena.go:115", after := #[{ on := 0, ground := Ground.phase }, { on := 1, ground := Ground.phase }, { on := 2, ground := Ground.phase }, { on := 3, ground := Ground.phase }, { on := 4, ground := Ground.phase }, { on := 5, ground := Ground.textOnly Departure.lateStoresUnsure }, { on := 6, ground := Ground.phase }, { on := 7, ground := Ground.phase }, { on := 8, ground := Ground.textOnly Departure.lateStoresUnsure }, { on := 9, ground := Ground.phase }, { on := 10, ground := Ground.phase }, { on := 11, ground := Ground.textOnly Departure.lateStoresUnsure }], guard := none }) (v := ?v12) rfl (by kernel_rfl) (by kernel_rfl) (by kernel_rfl) (fun _ _ _ h => h) (Or.inl ⟨by rfl, ?y12⟩) hHeld ?r12
  case y12 => (intro w hSw; (try dsimp only at hSw); go_simp) <;> with_reducible rfl
  try simp only [Act.put, List.setIfInBounds_toArray, List.set_cons_zero, List.set_cons_succ]
  refine wpAnyH_ready (rs := [5]) (by kernel_rfl) (by simp) ?_
  refine AllReadyH.cons (o := { dst := some 30, op := Op.call { callee := Callee.value (Operand.func 60), args := #[Operand.tmp 29], argTypes := #[31] }, type := 31, pos := "arena.go:115", after := #[{ on := 4, ground := Ground.data }, { on := 2, ground := Ground.chain }], guard := none }) rfl (fun K hK => ?_) AllReadyH.nil
  go_simp
  refine (clone_own _ x.key _ (j2.later hb1).1 (by omega)).mono ?_
  rintro e w2 ⟨p2, c2, rfl, o2, hb2'⟩
  have hb2 : Below V.heap.size V w2 := hb1.trans (hb2'.mono hb1.size)
  replace hHeld := hcell w2 hb2
  refine hK.out _ _ ?_ (fun _ => ?_)
  · exact hHeld
  clear hK K
  try simp only [Act.put, List.setIfInBounds_toArray, List.set_cons_zero, List.set_cons_succ]
  refine wpAnyH_ready (rs := [8]) (by kernel_rfl) (by simp) ?_
  refine AllReadyH.cons (o := { dst := some 33, op := Op.call { callee := Callee.value (Operand.func 60), args := #[Operand.tmp 32], argTypes := #[31] }, type := 31, pos := "arena.go:115", after := #[{ on := 7, ground := Ground.data }, { on := 5, ground := Ground.chain }], guard := none }) rfl (fun K hK => ?_) AllReadyH.nil
  go_simp
  refine (clone_own _ x.pre _ (j3.later hb2).1 (by omega)).mono ?_
  rintro e w3 ⟨p3, c3, rfl, o3, hb3'⟩
  have hb3 : Below V.heap.size V w3 := hb2.trans (hb3'.mono hb2.size)
  replace hHeld := hcell w3 hb3
  refine hK.out _ _ ?_ (fun _ => ?_)
  · exact hHeld
  clear hK K
  try simp only [Act.put, List.setIfInBounds_toArray, List.set_cons_zero, List.set_cons_succ]
  refine wpAnyH_ready (rs := [11]) (by kernel_rfl) (by simp) ?_
  refine AllReadyH.cons (o := { dst := some 36, op := Op.call { callee := Callee.value (Operand.func 60), args := #[Operand.tmp 35], argTypes := #[31] }, type := 31, pos := "arena.go:115", after := #[{ on := 10, ground := Ground.data }, { on := 8, ground := Ground.chain }], guard := none }) rfl (fun K hK => ?_) AllReadyH.nil
  go_simp
  refine (clone_own _ x.hash _ (j4.later hb3).1 (by omega)).mono ?_
  rintro e w4 ⟨p4, c4, rfl, o4, hb4'⟩
  have hb4 : Below V.heap.size V w4 := hb3.trans (hb4'.mono hb3.size)
  replace hHeld := hcell w4 hb4
  refine hK.out _ _ ?_ (fun _ => ?_)
  · exact hHeld
  clear hK K
  try simp only [Act.put, List.setIfInBounds_toArray, List.set_cons_zero, List.set_cons_succ]
  refine wpAnyH_done (by kernel_rfl) ?_ _
  have g4 := (hb4.block _ (Array.getElem?_eq_some_iff.1 gV).1).trans gV
  have n1 : w4.cell? ⟨W.heap.size, 1, none⟩ = some (.slice pi x.id.length ci) := by rw [cell_of_row _ _ 1 _ _ _ g4]; rfl
  have n2 : w4.cell? ⟨W.heap.size, 2, none⟩ = some (.slice pk x.key.length ck) := by rw [cell_of_row _ _ 2 _ _ _ g4]; rfl
  have n5 : w4.cell? ⟨W.heap.size, 5, none⟩ = some (.slice pp x.pre.length cp) := by rw [cell_of_row _ _ 5 _ _ _ g4]; rfl
  have n9 : w4.cell? ⟨W.heap.size, 9, none⟩ = some (.slice ph x.hash.length ch) := by rw [cell_of_row _ _ 9 _ _ _ g4]; rfl
  clear hHeld hC1 hcell m1 m2 m5 m9
  obtain ⟨f1, f2, f5, f9⟩ := hfroz w4 hb4
  clear hfroz
  refine headPost_end [{ dst := none, op := Op.store 31 (Operand.tmp 37) (Operand.tmp 27), type := 0, pos := "arena.go:115", after := #[{ on := 12, ground := Ground.data }, { on := 2, ground := Ground.data }, { on := 11, ground := Ground.chain }, { on := 0, ground := Ground.phase }, { on := 1, ground := Ground.phase }, { on := 2, ground := Ground.phase }, { on := 3, ground := Ground.phase }, { on := 4, ground := Ground.phase }, { on := 5, ground := Ground.textOnly Departure.lateStoresUnsure }, { on := 6, ground := Ground.phase }, { on := 7, ground := Ground.phase }, { on := 8, ground := Ground.textOnly Departure.lateStoresUnsure }, { on := 9, ground := Ground.phase }, { on := 10, ground := Ground.phase }, { on := 11, ground := Ground.textOnly Departure.lateStoresUnsure }], guard := none },
    { dst := some 38, op := Op.fieldAddr 43 (Operand.tmp 6) 2, type := 0, pos := "arena.go:115", after := #[{ on := 0, ground := Ground.phase }, { on := 1, ground := Ground.phase }, { on := 2, ground := Ground.phase }, { on := 3, ground := Ground.phase }, { on := 4, ground := Ground.phase }, { on := 5, ground := Ground.phase }, { on := 6, ground := Ground.phase }, { on := 7, ground := Ground.phase }, { on := 8, ground := Ground.textOnly Departure.lateStoresUnsure }, { on := 9, ground := Ground.phase }, { on := 10, ground := Ground.phase }, { on := 11, ground := Ground.textOnly Departure.lateStoresUnsure }, { on := 12, ground := Ground.phase }, { on := 13, ground := Ground.phase }], guard := none },
    { dst := none, op := Op.store 31 (Operand.tmp 38) (Operand.tmp 30), type := 0, pos := "arena.go:115", after := #[{ on := 14, ground := Ground.data }, { on := 5, ground := Ground.data }, { on := 13, ground := Ground.chain }, { on := 0, ground := Ground.phase }, { on := 1, ground := Ground.phase }, { on := 2, ground := Ground.phase }, { on := 3, ground := Ground.phase }, { on := 4, ground := Ground.phase }, { on := 5, ground := Ground.phase }, { on := 6, ground := Ground.phase }, { on := 7, ground := Ground.phase }, { on := 8, ground := Ground.textOnly Departure.lateStoresUnsure }, { on := 9, ground := Ground.phase }, { on := 10, ground := Ground.phase }, { on := 11, ground := Ground.textOnly Departure.lateStoresUnsure }, { on := 12, ground := Ground.phase }, { on := 13, ground := Ground.phase }], guard := none },
    { dst := some 39, op := Op.fieldAddr 43 (Operand.tmp 6) 5, type := 0, pos := "arena.go:115", after := #[{ on := 0, ground := Ground.phase }, { on := 1, ground := Ground.phase }, { on := 2, ground := Ground.phase }, { on := 3, ground := Ground.phase }, { on := 4, ground := Ground.phase }, { on := 5, ground := Ground.phase }, { on := 6, ground := Ground.phase }, { on := 7, ground := Ground.phase }, { on := 8, ground := Ground.phase }, { on := 9, ground := Ground.phase }, { on := 10, ground := Ground.phase }, { on := 11, ground := Ground.textOnly Departure.lateStoresUnsure }, { on := 12, ground := Ground.phase }, { on := 13, ground := Ground.phase }, { on := 14, ground := Ground.phase }, { on := 15, ground := Ground.phase }], guard := none },
    { dst := none, op := Op.store 31 (Operand.tmp 39) (Operand.tmp 33), type := 0, pos := "arena.go:115", after := #[{ on := 16, ground := Ground.data }, { on := 8, ground := Ground.data }, { on := 15, ground := Ground.chain }, { on := 0, ground := Ground.phase }, { on := 1, ground := Ground.phase }, { on := 2, ground := Ground.phase }, { on := 3, ground := Ground.phase }, { on := 4, ground := Ground.phase }, { on := 5, ground := Ground.phase }, { on := 6, ground := Ground.phase }, { on := 7, ground := Ground.phase }, { on := 8, ground := Ground.phase }, { on := 9, ground := Ground.phase }, { on := 10, ground := Ground.phase }, { on := 11, ground := Ground.textOnly Departure.lateStoresUnsure }, { on := 12, ground := Ground.phase }, { on := 13, ground := Ground.phase }, { on := 14, ground := Ground.phase }, { on := 15, ground := Ground.phase }], guard := none },
    { dst := some 40, op := Op.fieldAddr 43 (Operand.tmp 6) 9, type := 0, pos := "arena.go:115", after := #[{ on := 0, ground := Ground.phase }, { on := 1, ground := Ground.phase }, { on := 2, ground := Ground.phase }, { on := 3, ground := Ground.phase }, { on := 4, ground := Ground.phase }, { on := 5, ground := Ground.phase }, { on := 6, ground := Ground.phase }, { on := 7, ground := Ground.phase }, { on := 8, ground := Ground.phase }, { on := 9, ground := Ground.phase }, { on := 10, ground := Ground.phase }, { on := 11, ground := Ground.phase }, { on := 12, ground := Ground.phase }, { on := 13, ground := Ground.phase }, { on := 14, ground := Ground.phase }, { on := 15, ground := Ground.phase }, { on := 16, ground := Ground.phase }, { on := 17, ground := Ground.phase }], guard := none },
    { dst := none, op := Op.store 31 (Operand.tmp 40) (Operand.tmp 36), type := 0, pos := "arena.go:115", after := #[{ on := 18, ground := Ground.data }, { on := 11, ground := Ground.data }, { on := 17, ground := Ground.chain }, { on := 0, ground := Ground.phase }, { on := 1, ground := Ground.phase }, { on := 2, ground := Ground.phase }, { on := 3, ground := Ground.phase }, { on := 4, ground := Ground.phase }, { on := 5, ground := Ground.phase }, { on := 6, ground := Ground.phase }, { on := 7, ground := Ground.phase }, { on := 8, ground := Ground.phase }, { on := 9, ground := Ground.phase }, { on := 10, ground := Ground.phase }, { on := 11, ground := Ground.phase }, { on := 12, ground := Ground.phase }, { on := 13, ground := Ground.phase }, { on := 14, ground := Ground.phase }, { on := 15, ground := Ground.phase }, { on := 16, ground := Ground.phase }, { on := 17, ground := Ground.phase }], guard := none }] (by kernel_rfl) rfl (by kernel_rfl) { tmps := #[.pointer (some ⟨g, 0, none⟩), .int .i64 (i : Int), undef, undef, .pointer (some ⟨w.heap.size, 0, none⟩), .bool false, .pointer (some ⟨W.heap.size, 0, none⟩), .pointer (some ⟨g, 0, none⟩), .bool false, .bool false, .pointer (some ⟨g, 0, none⟩), .int .i64 (i : Int), .bool true, .bool false, .bool false, undef, .pointer (some ⟨g, 0, none⟩), .pointer (some ⟨g, 0, none⟩), .pointer (some ⟨g, 2, none⟩), .slice (some ⟨b, 0, none⟩) n c, .int .i64 (i : Int), .pointer (some ⟨b, i, none⟩), .pointer (some ⟨nb, 0, none⟩), .pointer (some ⟨nb, 0, none⟩), .agg #[.bool x.leaf, .slice pi x.id.length ci, .slice pk x.key.length ck, .int .i64 x.since, .int .i64 x.depth, .slice pp x.pre.length cp, .int .i64 x.newest, .int .i64 x.left, .int .i64 x.right, .slice ph x.hash.length ch], .pointer (some ⟨W.heap.size, 1, none⟩), .slice pi x.id.length ci, .slice p1 x.id.length c1, .pointer (some ⟨W.heap.size, 2, none⟩), .slice pk x.key.length ck, .slice p2 x.key.length c2, .pointer (some ⟨W.heap.size, 5, none⟩), .slice pp x.pre.length cp, .slice p3 x.pre.length c3, .pointer (some ⟨W.heap.size, 9, none⟩), .slice ph x.hash.length ch, .slice p4 x.hash.length c4, .pointer (some ⟨W.heap.size, 1, none⟩), .pointer (some ⟨W.heap.size, 2, none⟩), .pointer (some ⟨W.heap.size, 5, none⟩), .pointer (some ⟨W.heap.size, 9, none⟩), undef], defers := [] } (fun U => U = (((w4.setCell ⟨W.heap.size, 1, none⟩ (.slice p1 x.id.length c1)).setCell ⟨W.heap.size, 2, none⟩ (.slice p2 x.key.length c2)).setCell ⟨W.heap.size, 5, none⟩ (.slice p3 x.pre.length c3)).setCell ⟨W.heap.size, 9, none⟩ (.slice p4 x.hash.length c4)) ?hst ?htl
  case hst =>
    go_wp2
    exact ⟨rfl, rfl⟩
  intro U hU
  have hWw : w.heap.size < W.heap.size := (Array.getElem?_eq_some_iff.1 g0).1
  have hVW : W.heap.size < V.heap.size := (Array.getElem?_eq_some_iff.1 gV).1
  have onU : Only W.heap.size w4 U := by
    rw [hU]
    exact ((((Only.refl _ _).setCell _ _).setCell _ _).setCell _ _).setCell _ _
  have gU : U.heap[W.heap.size]? = some (.cells #[.bool x.leaf, .slice p1 x.id.length c1, .slice p2 x.key.length c2, .int .i64 x.since, .int .i64 x.depth, .slice p3 x.pre.length c3, .int .i64 x.newest, .int .i64 x.left, .int .i64 x.right, .slice p4 x.hash.length c4] 43 (0, 0)) := by
    have e1 := heap_setCell_same w4 _ 1 _ _ (.slice p1 x.id.length c1) g4
    have e2 := heap_setCell_same _ _ 2 _ _ (.slice p2 x.key.length c2) e1
    have e3 := heap_setCell_same _ _ 5 _ _ (.slice p3 x.pre.length c3) e2
    have e4 := heap_setCell_same _ _ 9 _ _ (.slice p4 x.hash.length c4) e3
    rw [hU, e4]
    rfl
  have gR : U.heap[w.heap.size]? = some (.cells #[.bool false, .slice none 0 0, .slice none 0 0, .int .i64 0, .int .i64 0, .slice none 0 0, .int .i64 0, .int .i64 0, .int .i64 0, .slice none 0 0] 43 (0, 0)) :=
    (onU.block _ (by omega) (by have := hb4.size; omega)).trans ((hb4.block _ (by omega)).trans ((bV.block _ hWw).trans g0))
  have q1 := HB.of_owns (owns_later (owns_later (owns_later o1 hb2') hb3') hb4')
  have q2 := HB.of_owns (owns_later (owns_later o2 hb3') hb4')
  have q3 := HB.of_owns (owns_later o3 hb4')
  have q4 := HB.of_owns o4
  have hnb : ∀ v ∈ (#[.bool x.leaf, .slice pi x.id.length ci, .slice pk x.key.length ck, .int .i64 x.since, .int .i64 x.depth, .slice pp x.pre.length cp, .int .i64 x.newest, .int .i64 x.left, .int .i64 x.right, .slice ph x.hash.length ch] : Array Value).toList, ∀ y : UInt8, v ≠ bc y := by
    intro v hv y
    simp only [List.mem_cons, List.not_mem_nil, or_false] at hv
    rcases hv with rfl | rfl | rfl | rfl | rfl | rfl | rfl | rfl | rfl | rfl <;> simp [bc]
  have hnz : ∀ v ∈ (#[.bool false, .slice none 0 0, .slice none 0 0, .int .i64 0, .int .i64 0, .slice none 0 0, .int .i64 0, .int .i64 0, .int .i64 0, .slice none 0 0] : Array Value).toList, ∀ y : UInt8, v ≠ bc y := by
    intro v hv y
    simp only [List.mem_cons, List.not_mem_nil, or_false] at hv
    rcases hv with rfl | rfl | rfl | rfl | rfl | rfl | rfl | rfl | rfl | rfl <;> simp [bc]
  replace q1 := q1.onlyC g4 hnb onU
  replace q2 := q2.onlyC g4 hnb onU
  replace q3 := q3.onlyC g4 hnb onU
  replace q4 := q4.onlyC g4 hnb onU
  have bU : Below w.heap.size w U := (bA.trans (bV.mono bA.size)).trans ((hb4.mono (by omega)).trans (onU.below (by omega)))
  clear hU onU hnb o1 o2 o3 o4 hb1' hb2' hb3' hb4' hb1 hb2 hb3 hb4 g4 n1 n2 n5 n9 f1 f2 f5 f9 j1 j2 j3 j4 hd gV bV g0 bA
  have u0 : U.cell? ⟨W.heap.size, 0, none⟩ = some (.bool x.leaf) := by rw [cell_of_row _ _ 0 _ _ _ gU]; rfl
  have u1 : U.cell? ⟨W.heap.size, 1, none⟩ = some (.slice p1 x.id.length c1) := by rw [cell_of_row _ _ 1 _ _ _ gU]; rfl
  have u2 : U.cell? ⟨W.heap.size, 2, none⟩ = some (.slice p2 x.key.length c2) := by rw [cell_of_row _ _ 2 _ _ _ gU]; rfl
  have u3 : U.cell? ⟨W.heap.size, 3, none⟩ = some (.int .i64 x.since) := by rw [cell_of_row _ _ 3 _ _ _ gU]; rfl
  have u4 : U.cell? ⟨W.heap.size, 4, none⟩ = some (.int .i64 x.depth) := by rw [cell_of_row _ _ 4 _ _ _ gU]; rfl
  have u5 : U.cell? ⟨W.heap.size, 5, none⟩ = some (.slice p3 x.pre.length c3) := by rw [cell_of_row _ _ 5 _ _ _ gU]; rfl
  have u6 : U.cell? ⟨W.heap.size, 6, none⟩ = some (.int .i64 x.newest) := by rw [cell_of_row _ _ 6 _ _ _ gU]; rfl
  have u7 : U.cell? ⟨W.heap.size, 7, none⟩ = some (.int .i64 x.left) := by rw [cell_of_row _ _ 7 _ _ _ gU]; rfl
  have u8 : U.cell? ⟨W.heap.size, 8, none⟩ = some (.int .i64 x.right) := by rw [cell_of_row _ _ 8 _ _ _ gU]; rfl
  have u9 : U.cell? ⟨W.heap.size, 9, none⟩ = some (.slice p4 x.hash.length c4) := by rw [cell_of_row _ _ 9 _ _ _ gU]; rfl
  have z0 : U.cell? ⟨w.heap.size, 0, none⟩ = some (.bool false) := by rw [cell_of_row _ _ 0 _ _ _ gR]; rfl
  have z1 : U.cell? ⟨w.heap.size, 1, none⟩ = some (.slice none 0 0) := by rw [cell_of_row _ _ 1 _ _ _ gR]; rfl
  have z2 : U.cell? ⟨w.heap.size, 2, none⟩ = some (.slice none 0 0) := by rw [cell_of_row _ _ 2 _ _ _ gR]; rfl
  have z3 : U.cell? ⟨w.heap.size, 3, none⟩ = some (.int .i64 0) := by rw [cell_of_row _ _ 3 _ _ _ gR]; rfl
  have z4 : U.cell? ⟨w.heap.size, 4, none⟩ = some (.int .i64 0) := by rw [cell_of_row _ _ 4 _ _ _ gR]; rfl
  have z5 : U.cell? ⟨w.heap.size, 5, none⟩ = some (.slice none 0 0) := by rw [cell_of_row _ _ 5 _ _ _ gR]; rfl
  have z6 : U.cell? ⟨w.heap.size, 6, none⟩ = some (.int .i64 0) := by rw [cell_of_row _ _ 6 _ _ _ gR]; rfl
  have z7 : U.cell? ⟨w.heap.size, 7, none⟩ = some (.int .i64 0) := by rw [cell_of_row _ _ 7 _ _ _ gR]; rfl
  have z8 : U.cell? ⟨w.heap.size, 8, none⟩ = some (.int .i64 0) := by rw [cell_of_row _ _ 8 _ _ _ gR]; rfl
  have z9 : U.cell? ⟨w.heap.size, 9, none⟩ = some (.slice none 0 0) := by rw [cell_of_row _ _ 9 _ _ _ gR]; rfl
  have y0 : U.frozen? ⟨w.heap.size, 0, none⟩ = false := by simp [World.frozen?, gR]
  have y1 : U.frozen? ⟨w.heap.size, 1, none⟩ = false := by simp [World.frozen?, gR]
  have y2 : U.frozen? ⟨w.heap.size, 2, none⟩ = false := by simp [World.frozen?, gR]
  have y3 : U.frozen? ⟨w.heap.size, 3, none⟩ = false := by simp [World.frozen?, gR]
  have y4 : U.frozen? ⟨w.heap.size, 4, none⟩ = false := by simp [World.frozen?, gR]
  have y5 : U.frozen? ⟨w.heap.size, 5, none⟩ = false := by simp [World.frozen?, gR]
  have y6 : U.frozen? ⟨w.heap.size, 6, none⟩ = false := by simp [World.frozen?, gR]
  have y7 : U.frozen? ⟨w.heap.size, 7, none⟩ = false := by simp [World.frozen?, gR]
  have y8 : U.frozen? ⟨w.heap.size, 8, none⟩ = false := by simp [World.frozen?, gR]
  have y9 : U.frozen? ⟨w.heap.size, 9, none⟩ = false := by simp [World.frozen?, gR]
  go_wp2
  refine bodyPost_ret (v := .tuple #[.agg #[.bool x.leaf, .slice p1 x.id.length c1, .slice p2 x.key.length c2, .int .i64 x.since, .int .i64 x.depth, .slice p3 x.pre.length c3, .int .i64 x.newest, .int .i64 x.left, .int .i64 x.right, .slice p4 x.hash.length c4], .bool true]) ?_ rfl ?_
  · simp only [results, Tryd.results23]
    go_simp
  have onR : ∀ v0 v1 v2 v3 v4 v5 v6 v7 v8 v9, Only w.heap.size U ((((((((((U.setCell ⟨w.heap.size, 0, none⟩ v0).setCell ⟨w.heap.size, 1, none⟩ v1).setCell ⟨w.heap.size, 2, none⟩ v2).setCell ⟨w.heap.size, 3, none⟩ v3).setCell ⟨w.heap.size, 4, none⟩ v4).setCell ⟨w.heap.size, 5, none⟩ v5).setCell ⟨w.heap.size, 6, none⟩ v6).setCell ⟨w.heap.size, 7, none⟩ v7).setCell ⟨w.heap.size, 8, none⟩ v8).setCell ⟨w.heap.size, 9, none⟩ v9) := fun v0 v1 v2 v3 v4 v5 v6 v7 v8 v9 => ((((((((((Only.refl _ _).setCell _ _).setCell _ _).setCell _ _).setCell _ _).setCell _ _).setCell _ _).setCell _ _).setCell _ _).setCell _ _).setCell _ _
  exact ⟨_, _, _, _, _, _, _, _, rfl, q1.onlyC gR hnz (onR _ _ _ _ _ _ _ _ _ _), q2.onlyC gR hnz (onR _ _ _ _ _ _ _ _ _ _), q3.onlyC gR hnz (onR _ _ _ _ _ _ _ _ _ _), q4.onlyC gR hnz (onR _ _ _ _ _ _ _ _ _ _), bU.trans ((onR _ _ _ _ _ _ _ _ _ _).below (Nat.le_refl _))⟩

end Go.Proofs.YtofchcheoanmdaaDoor

namespace Go.Proofs.YtofchcheoanmdaaDoor
open Go.RowKit

theorem len8_at (x : UInt8) (h : x.toNat < Lib.len8tab.size) : wrap64 ((Lib.len8tab[x.toNat]'h).toNat : Int) = (Lib.bitLen x.toNat : Int) := by
  have hx := x.toNat_lt
  have e := Lib.len8_eq ⟨x.toNat, hx⟩
  have hle : Lib.bitLen x.toNat ≤ 8 := Lib.bitLen_le8 ⟨x.toNat, hx⟩
  unfold Lib.len8 at e
  simp only [Int.toNat_natCast] at e
  rw [getElem?_pos Lib.len8tab x.toNat h] at e
  simp only [Option.getD_some] at e
  rw [e]
  unfold wrap64
  omega

set_option maxRecDepth 100000 in
set_option maxHeartbeats 4000000 in
theorem len8_any (x : UInt8) (w : World) :
    Calls Tryd.prog 107 #[.int .u8 (x.toNat : Int)] w fun e w' => e = .returned (.int .i64 (Lib.bitLen x.toNat : Int)) ∧ w' = w := by
  have hx := x.toNat_lt
  go_enter Tryd.func107, Tryd.ntmps107
  go_wp2
  go_ret
  refine ⟨congrArg (fun z => Ending.returned (Value.int .i64 z)) ?_, rfl⟩
  exact len8_at x _

set_option maxRecDepth 100000 in
set_option maxHeartbeats 400000 in
theorem lz8_any (x : UInt8) (w : World) :
    Calls Tryd.prog 98 #[.int .u8 (x.toNat : Int)] w fun e w' => e = .returned (.int .i64 (lz x : Int)) ∧ w' = w := by
  have hx := x.toNat_lt
  have hle : Lib.bitLen x.toNat ≤ 8 := Lib.bitLen_le8 ⟨x.toNat, hx⟩
  have e : (lz x : Int) = 8 - (Lib.bitLen x.toNat : Int) := by unfold lz; omega
  rw [e]
  clear e
  go_enter Tryd.func98, Tryd.ntmps98
  go_wp2_with fail
  refine (len8_any x w).mono ?_
  rintro e w1 ⟨rfl, rfl⟩
  have hle : (Lib.bitLen x.toNat : Int) ≤ 8 := by omega
  go_wp2
  go_ret
  exact ⟨rfl, rfl⟩

end Go.Proofs.YtofchcheoanmdaaDoor

namespace Go.Proofs.YtofchcheoanmdaaDoor
open Go.RowKit

theorem b_xor8 (a b : Nat) (ha : a < 256) (hb : b < 256) : bits .xor .u8 (a : Int) (b : Int) = ((a ^^^ b : Nat) : Int) := by
  have h := Nat.xor_lt_two_pow (n := 8) ha hb
  have ha' : a % 2 ^ IntKind.u8.bits = a := Nat.mod_eq_of_lt ha
  have hb' : b % 2 ^ IntKind.u8.bits = b := Nat.mod_eq_of_lt hb
  simp only [bits, BitVec.ofInt_natCast, BitVec.toNat_xor, BitVec.toNat_ofNat, ha', hb']
  rw [IntKind.wrap_u8]
  omega

theorem drop_at {l : List UInt8} {k : Nat} {x : UInt8} (h : l[k]? = some x) : l.drop k = x :: l.drop (k + 1) := by
  obtain ⟨hk, rfl⟩ := List.getElem?_eq_some_iff.1 h
  exact List.drop_eq_getElem_cons hk

theorem com_next (a b : List UInt8) (k : Nat) (x y : UInt8) (hx : a[k]? = some x) (hy : b[k]? = some y) : com (a.drop k) (b.drop k) = if x = y then 8 + com (a.drop (k + 1)) (b.drop (k + 1)) else lz (x ^^^ y) := by
  rw [drop_at hx, drop_at hy, com_cons]

set_option maxRecDepth 100000 in
set_option maxHeartbeats 1000000 in
theorem common_any (u v : Value) (a b : List UInt8) (w : World) (ha : HB w u a) (hb : HB w v b) (hsz : a.length ≤ 140737488355328) :
    Calls Tryd.prog 91 #[u, v] w fun e w' => e = .returned (.int .i64 (com a b : Int)) ∧ Below w.heap.size w w' := by
  obtain ⟨p, c, rfl⟩ := ha.shape
  obtain ⟨q, d, rfl⟩ := hb.shape
  obtain ⟨n, hn⟩ : ∃ n, n = min a.length b.length := ⟨_, rfl⟩
  have hmin : min (a.length : Int) (b.length : Int) = (n : Int) := by omega
  have hna : n ≤ a.length := by omega
  have hnb : n ≤ b.length := by omega
  have hnn : (n : Int) ≤ 140737488355328 := by omega
  have hstop : com (a.drop n) (b.drop n) = 0 := by
    rcases Nat.le_total a.length b.length with h | h
    · rw [List.drop_eq_nil_of_le (by omega)]; simp [com]
    · rw [show b.drop n = [] from List.drop_eq_nil_of_le (by omega)]; cases a.drop n <;> simp [com]
  have HS : Hid (com (a.drop n) (b.drop n) = 0) := hstop
  clear hstop hn
  go_enter Tryd.func91, Tryd.ntmps91
  go_wp2
  go_loopw [13] (fun i wr => ∃ k : Nat, k ≤ n ∧ i = .int .i64 k ∧ com a b = 8 * k + com (a.drop k) (b.drop k) ∧ Below w.heap.size w wr)
    (fun i _ => n - (intOf i).toNat)
  case atStart => exact ⟨0, Nat.zero_le _, rfl, by simp, Below.refl _ _⟩
  case round =>
    obtain ⟨k, hk, rfl, hck, hbe⟩ := hrel
    have HC : Hid (com a b = 8 * k + com (a.drop k) (b.drop k)) := hck
    clear hck
    by_cases hlt : k < n
    · obtain ⟨ba, oa, rfl, hca⟩ := ha.addr (by omega)
      obtain ⟨bb, ob, rfl, hcb⟩ := hb.addr (by omega)
      have gx : a[k]? = some a[k] := List.getElem?_eq_getElem (by omega)
      have gy : b[k]? = some b[k] := List.getElem?_eq_getElem (by omega)
      have cx := cell_later hbe (hca k _ gx)
      have cy := cell_later hbe (hcb k _ gy)
      have HN := com_next a b k _ _ gx gy
      generalize a[k]'(by omega) = x at *
      generalize b[k]'(by omega) = y at *
      have HN2 : Hid (com (a.drop k) (b.drop k) = if x = y then 8 + com (a.drop (k + 1)) (b.drop (k + 1)) else lz (x ^^^ y)) := HN
      clear HN gx gy hca hcb ha hb
      unfold bc at cx cy
      have hx := x.toNat_lt
      have hy := y.toNat_lt
      by_cases he : x = y
      · subst he
        go_wp2
        go_quiet (fail)
        go_wp2
        have e1 := HC.out
        have e2 : com (a.drop k) (b.drop k) = 8 + com (a.drop (k + 1)) (b.drop (k + 1)) := by have := HN2.out; rwa [if_pos trivial] at this
        exact ⟨⟨k + 1, by omega, by go_num, by omega, below_drewN hbe _⟩, by simp [intOf]; omega⟩
      · have hxor : bits .xor .u8 (x.toNat : Int) (y.toNat : Int) = ((x ^^^ y).toNat : Int) := by rw [b_xor8 _ _ hx hy, UInt8.toNat_xor]
        have hz8 : (lz (x ^^^ y) : Int) ≤ 8 := by have := lz_le (x ^^^ y); omega
        have hlz := lz8_any (x ^^^ y)
        have hne : ¬ ((x.toNat : Int) = (y.toNat : Int)) := fun e => he (UInt8.toNat_inj.1 (by omega))
        have HE : Hid (com a b = 8 * k + lz (x ^^^ y)) := by
          show com a b = 8 * k + lz (x ^^^ y)
          rw [HC.out, HN2.out, if_neg he]
        have hka : (k : Int) < (a.length : Int) := by omega
        have hkb : (k : Int) < (b.length : Int) := by omega
        clear HC HN2 he
        go_wp2
        go_quiet (fail)
        have cx2 : (wr.drewN nq).cell? ⟨ba, oa + k, none⟩ = some (.int .u8 (x.toNat : Int)) := cx
        have cy2 : (wr.drewN nq).cell? ⟨bb, ob + k, none⟩ = some (.int .u8 (y.toNat : Int)) := cy
        have hbe2 := below_drewN hbe nq
        clear cx cy hbe
        generalize wr.drewN nq = w2 at *
        go_wp2
        go_quiet (first | (go_at_call 98; exact Calls.quiet_of ((hlz _).mono fun e w' ⟨he, hw⟩ => ⟨he, 0, hw⟩)))
        go_wp2
        go_ret
        refine ⟨congrArg (fun z => Ending.returned (Value.int .i64 z)) ?_, below_drewN hbe2 _⟩
        have := HE.out
        omega
    · have hkn : k = n := by omega
      subst hkn
      go_wp2
      go_ret
      refine ⟨congrArg (fun z => Ending.returned (Value.int .i64 z)) ?_, hbe⟩
      have := HC.out
      have := HS.out
      omega

end Go.Proofs.YtofchcheoanmdaaDoor

namespace Go.Proofs.YtofchcheoanmdaaDoor
open Go.RowKit

theorem key_len (id : List UInt8) : (keyF id).length ≤ 1000 := by
  rw [keyF_eq id _ rfl]
  simp only [List.length_cons, List.length_take]
  omega

set_option maxRecDepth 100000 in
set_option maxHeartbeats 2000000 in
theorem down_leaf (g n c base i nb : Nat) (s r : Int) (p : Option Addr) (xs : List Value) (x : NodeS) (vi : Value) (id : List UInt8) (w : World) (h : AG w g s r p n c) (ho : w.ownsRow base 91 1 (.slice p n c) n xs) (hs : s ≠ 0) (hx : xs[i]? = some (.pointer (some ⟨nb, 0, none⟩))) (hX : NB w nb x) (hl : x.id.length ≤ 65535 ∧ x.key.length ≤ 65535 ∧ x.pre.length ≤ 65535 ∧ x.hash.length ≤ 65535) (hlf : x.leaf = true) (hii : x.id = id) (hid : HB w vi id) :
    Calls Tryd.prog 64 #[.pointer (some ⟨g, 0, none⟩), .int .i64 (i : Int), vi] w fun e w' => ∃ p1 c1 m, e = .returned (.agg #[.slice p1 (keyF id).length c1, .slice none 0 0, .int .i64 (i : Int), .int .i64 m, .bool true]) ∧ Below w.heap.size w w' := by
  obtain ⟨pi, ci, rfl⟩ := hid.shape
  have hN := fun w' h' ho' hX' => node_at g n c base i nb s r p xs x w' h' ho' hs hx hX' hl
  rw [hlf, hii] at hN
  have hkl := key_len id
  have hK := fun v w' h' => key_any v id w' h'
  have hCm := fun u v w' h1 h2 => common_any u v (keyF id) (keyF id) w' h1 h2 (by omega)
  have hE := fun u v w' h1 h2 => equal_any u v id id w' h1 h2
  generalize keyF id = KF at *
  generalize hcm : (com KF KF : Int) = CM at hCm
  clear hcm
  rw [beq_self_eq_true] at hE
  go_enter Tryd.func64, Tryd.ntmps64
  have bA := (Below.refl _ w).alloc (Nat.le_refl _) (.cells #[.slice none 0 0, .slice none 0 0, .int .i64 0, .int .i64 0, .bool false] 99)
  go_wp2_with fail
  refine (hK _ _ (hid.later bA)).mono ?_
  rintro e w1 ⟨p1, c1, rfl, k1, hb1⟩
  have b1 := bA.trans (hb1.mono bA.size)
  obtain ⟨V, hV⟩ : ∃ V, V = w1.alloc (.cells #[.slice p1 KF.length c1, .slice none 0 0, .int .i64 (i : Int), .int .i64 0, .bool false] 99) := ⟨_, rfl⟩
  have bV : Below w1.heap.size w1 V := by rw [hV]; exact (Below.refl _ w1).alloc (Nat.le_refl _) _
  have gV : V.heap[w1.heap.size]? = some (.cells #[.slice p1 KF.length c1, .slice none 0 0, .int .i64 (i : Int), .int .i64 0, .bool false] 99 (0, 0)) := by rw [hV]; exact heap_alloc_new w1 _
  have gA := heap_alloc_new w (.cells #[.slice none 0 0, .slice none 0 0, .int .i64 0, .int .i64 0, .bool false] 99)
  have gA1 := (hb1.block _ (Array.getElem?_eq_some_iff.1 gA).1).trans gA
  have gAV := (bV.block _ (Array.getElem?_eq_some_iff.1 gA1).1).trans gA1
  have b0V := b1.trans (bV.mono b1.size)
  have hNV := hN V (h.later b0V) (owns_later ho b0V) (hX.later b0V)
  have kV := k1.later bV
  have idV := hid.later b0V
  have hlt1 : w.heap.size < w1.heap.size := (Array.getElem?_eq_some_iff.1 gA1).1
  go_wp2_with fail
  rw [← hV]
  clear hV hN gA gA1 k1 bV hb1 bA h ho hX hid b1
  go_loopw [9] (fun _ wr => wr = V) (fun _ _ => 0)
  case atStart => rfl
  case round =>
    subst hrel
    have c2 : wr.cell? ⟨w1.heap.size, 2, none⟩ = some (.int .i64 (i : Int)) := by rw [cell_of_row _ _ 2 _ _ _ gV]; rfl
    go_wp2_with fail
    refine hNV.mono ?_
    rintro e w2 ⟨q1, d1, q2, d2, q3, d3, q4, d4, rfl, k1, _, _, _, hb2⟩
    clear hNV c2
    obtain ⟨Z, hZ⟩ : ∃ Z, Z = w2.alloc (.cells #[.bool true, .slice q1 id.length d1, .slice q2 x.key.length d2, .int .i64 x.since, .int .i64 x.depth, .slice q3 x.pre.length d3, .int .i64 x.newest, .int .i64 x.left, .int .i64 x.right, .slice q4 x.hash.length d4] 43) := ⟨_, rfl⟩
    have bZ : Below w2.heap.size w2 Z := by rw [hZ]; exact (Below.refl _ w2).alloc (Nat.le_refl _) _
    have gZ : Z.heap[w2.heap.size]? = some (.cells #[.bool true, .slice q1 id.length d1, .slice q2 x.key.length d2, .int .i64 x.since, .int .i64 x.depth, .slice q3 x.pre.length d3, .int .i64 x.newest, .int .i64 x.left, .int .i64 x.right, .slice q4 x.hash.length d4] 43 (0, 0)) := by rw [hZ]; exact heap_alloc_new w2 _
    have b2Z := hb2.trans (bZ.mono hb2.size)
    have gw2 := (b2Z.block _ (Array.getElem?_eq_some_iff.1 gV).1).trans gV
    have gA2 := (b2Z.block _ (Array.getElem?_eq_some_iff.1 gAV).1).trans gAV
    have z0 : Z.cell? ⟨w2.heap.size, 0, none⟩ = some (.bool true) := by rw [cell_of_row _ _ 0 _ _ _ gZ]; rfl
    have z1 : Z.cell? ⟨w2.heap.size, 1, none⟩ = some (.slice q1 id.length d1) := by rw [cell_of_row _ _ 1 _ _ _ gZ]; rfl
    have d0 : Z.cell? ⟨w1.heap.size, 0, none⟩ = some (.slice p1 KF.length c1) := by rw [cell_of_row _ _ 0 _ _ _ gw2]; rfl
    have kZ := k1.later bZ
    have rZ := kV.later b2Z
    have iZ := idV.later b2Z
    have n12 : w1.heap.size < w2.heap.size := by have := hb2.size; have := (Array.getElem?_eq_some_iff.1 gV).1; omega
    have hdZ : Below Z.heap.size Z Z.drew := (Below.refl _ Z).drew
    have gAd := (hdZ.block _ (Array.getElem?_eq_some_iff.1 gA2).1).trans gA2
    go_wp2_with fail
    rw [← hZ]
    clear hZ
    have bX := b0V.trans (b2Z.mono b0V.size)
    go_region_held3 (fun W' => W'.cell? ⟨w1.heap.size, 0, none⟩ = some (.slice p1 KF.length c1) ∧ W'.cell? ⟨w2.heap.size, 1, none⟩ = some (.slice q1 id.length d1)) (first | exact ⟨d0, z1⟩ | exact ⟨e0, e1⟩ | exact ⟨f0, f1⟩ | exact ⟨s0, s1⟩) (first
      | (go_at_call 90; refine (hK _ _ (kZ.later hdZ)).mono ?_; rintro e w3 ⟨p3, c3, rfl, k3, hb3'⟩; have hb3 : Below Z.heap.size Z w3 := hdZ.trans (hb3'.mono hdZ.size); have e0 := cell_later hb3 d0; have e1 := cell_later hb3 z1)
      | (go_at_call 91; refine (hCm _ _ w3 (rZ.later hb3) k3).mono ?_; rintro e w4 ⟨rfl, hb4'⟩; have hb4 : Below Z.heap.size Z w4 := hb3.trans (hb4'.mono hb3.size); have f0 := cell_later hb4 d0; have f1 := cell_later hb4 z1; have gw4 := (hb4.block _ (Array.getElem?_eq_some_iff.1 gw2).1).trans gw2; have x3 : w4.cell? ⟨w1.heap.size, 3, none⟩ = some (.int .i64 0) := (by rw [cell_of_row _ _ 3 _ _ _ gw4]; rfl); have y3 : w4.frozen? ⟨w1.heap.size, 3, none⟩ = false := (by simp [World.frozen?, gw4]); have gS : (w4.setCell ⟨w1.heap.size, 3, none⟩ (.int .i64 CM)).heap[w1.heap.size]? = some (.cells #[.slice p1 KF.length c1, .slice none 0 0, .int .i64 (i : Int), .int .i64 CM, .bool false] 99 (0, 0)) := (by rw [heap_setCell_same w4 _ 3 _ _ _ gw4]; rfl); have s0 : (w4.setCell ⟨w1.heap.size, 3, none⟩ (.int .i64 CM)).cell? ⟨w1.heap.size, 0, none⟩ = some (.slice p1 KF.length c1) := (by rw [cell_of_row _ _ 0 _ _ _ gS]; rfl); have gS2 := (heap_setCell_other w4 ⟨w1.heap.size, 3, none⟩ w2.heap.size (.int .i64 CM) (by show w2.heap.size ≠ w1.heap.size; omega)).trans ((hb4.block _ (Array.getElem?_eq_some_iff.1 gZ).1).trans gZ); have s1 : (w4.setCell ⟨w1.heap.size, 3, none⟩ (.int .i64 CM)).cell? ⟨w2.heap.size, 1, none⟩ = some (.slice q1 id.length d1) := (by rw [cell_of_row _ _ 1 _ _ _ gS2]; rfl)))
    all_goals
      have gS3 := (heap_setCell_other w4 ⟨w1.heap.size, 3, none⟩ w.heap.size (.int .i64 CM) (by show w.heap.size ≠ w1.heap.size; omega)).trans ((hb4.block _ (Array.getElem?_eq_some_iff.1 gA2).1).trans gA2)
      have hnw : ∀ v ∈ (#[.slice p1 KF.length c1, .slice none 0 0, .int .i64 (i : Int), .int .i64 0, .bool false] : Array Value).toList, ∀ y : UInt8, v ≠ bc y := by
        intro v hv y
        simp only [List.mem_cons, List.not_mem_nil, or_false] at hv
        rcases hv with rfl | rfl | rfl | rfl | rfl <;> simp [bc]
      have onX : Only w1.heap.size w4 (w4.setCell ⟨w1.heap.size, 3, none⟩ (.int .i64 CM)) := (Only.refl _ _).setCell _ _
      have kX := (kZ.later hb4).onlyC gw4 hnw onX
      have iX := (iZ.later hb4).onlyC gw4 hnw onX
      have b04 : Below w.heap.size w w4 := bX.trans (hb4.mono bX.size)
      have b0X : Below w.heap.size w (w4.setCell ⟨w1.heap.size, 3, none⟩ (.int .i64 CM)) := b04.trans (onX.below (by omega))
      generalize w4.setCell ⟨w1.heap.size, 3, none⟩ (.int .i64 CM) = X at *
      clear onX hnw b04 gw4 x3 y3 s0 f0 f1 e0 e1 hb4 hb4' hb3 hb3' k3 kZ iZ rZ d0 z1 z0 hdZ gAd gZ bZ b2Z bX gw2 gA2 hb2 gV gAV b0V kV idV hK hCm
      have s1 : X.cell? ⟨w2.heap.size, 1, none⟩ = some (.slice q1 id.length d1) := by rw [cell_of_row _ _ 1 _ _ _ gS2]; rfl
      have s4 : X.cell? ⟨w1.heap.size, 4, none⟩ = some (.bool false) := by rw [cell_of_row _ _ 4 _ _ _ gS]; rfl
      have s5 : X.frozen? ⟨w1.heap.size, 4, none⟩ = false := by simp [World.frozen?, gS]
      have a0 : X.cell? ⟨w1.heap.size, 0, none⟩ = some (.slice p1 KF.length c1) := by rw [cell_of_row _ _ 0 _ _ _ gS]; rfl
      have a1 : X.cell? ⟨w1.heap.size, 1, none⟩ = some (.slice none 0 0) := by rw [cell_of_row _ _ 1 _ _ _ gS]; rfl
      have a2 : X.cell? ⟨w1.heap.size, 2, none⟩ = some (.int .i64 (i : Int)) := by rw [cell_of_row _ _ 2 _ _ _ gS]; rfl
      have a3 : X.cell? ⟨w1.heap.size, 3, none⟩ = some (.int .i64 CM) := by rw [cell_of_row _ _ 3 _ _ _ gS]; rfl
      have gY := (heap_setCell_other X ⟨w1.heap.size, 4, none⟩ w.heap.size (.bool true) (by show w.heap.size ≠ w1.heap.size; omega)).trans gS3
      have r0 : X.cell? ⟨w.heap.size, 0, none⟩ = some (.slice none 0 0) := by rw [cell_of_row _ _ 0 _ _ _ gS3]; rfl
      have y0 : X.frozen? ⟨w.heap.size, 0, none⟩ = false := by simp [World.frozen?, gS3]
      have rr0 : (X.setCell ⟨w1.heap.size, 4, none⟩ (.bool true)).cell? ⟨w.heap.size, 0, none⟩ = some (.slice none 0 0) := by rw [cell_of_row _ _ 0 _ _ _ gY]; rfl
      have yy0 : (X.setCell ⟨w1.heap.size, 4, none⟩ (.bool true)).frozen? ⟨w.heap.size, 0, none⟩ = false := by simp [World.frozen?, gY]
      have r1 : X.cell? ⟨w.heap.size, 1, none⟩ = some (.slice none 0 0) := by rw [cell_of_row _ _ 1 _ _ _ gS3]; rfl
      have y1 : X.frozen? ⟨w.heap.size, 1, none⟩ = false := by simp [World.frozen?, gS3]
      have rr1 : (X.setCell ⟨w1.heap.size, 4, none⟩ (.bool true)).cell? ⟨w.heap.size, 1, none⟩ = some (.slice none 0 0) := by rw [cell_of_row _ _ 1 _ _ _ gY]; rfl
      have yy1 : (X.setCell ⟨w1.heap.size, 4, none⟩ (.bool true)).frozen? ⟨w.heap.size, 1, none⟩ = false := by simp [World.frozen?, gY]
      have r2 : X.cell? ⟨w.heap.size, 2, none⟩ = some (.int .i64 0) := by rw [cell_of_row _ _ 2 _ _ _ gS3]; rfl
      have y2 : X.frozen? ⟨w.heap.size, 2, none⟩ = false := by simp [World.frozen?, gS3]
      have rr2 : (X.setCell ⟨w1.heap.size, 4, none⟩ (.bool true)).cell? ⟨w.heap.size, 2, none⟩ = some (.int .i64 0) := by rw [cell_of_row _ _ 2 _ _ _ gY]; rfl
      have yy2 : (X.setCell ⟨w1.heap.size, 4, none⟩ (.bool true)).frozen? ⟨w.heap.size, 2, none⟩ = false := by simp [World.frozen?, gY]
      have r3 : X.cell? ⟨w.heap.size, 3, none⟩ = some (.int .i64 0) := by rw [cell_of_row _ _ 3 _ _ _ gS3]; rfl
      have y3 : X.frozen? ⟨w.heap.size, 3, none⟩ = false := by simp [World.frozen?, gS3]
      have rr3 : (X.setCell ⟨w1.heap.size, 4, none⟩ (.bool true)).cell? ⟨w.heap.size, 3, none⟩ = some (.int .i64 0) := by rw [cell_of_row _ _ 3 _ _ _ gY]; rfl
      have yy3 : (X.setCell ⟨w1.heap.size, 4, none⟩ (.bool true)).frozen? ⟨w.heap.size, 3, none⟩ = false := by simp [World.frozen?, gY]
      have r4 : X.cell? ⟨w.heap.size, 4, none⟩ = some (.bool false) := by rw [cell_of_row _ _ 4 _ _ _ gS3]; rfl
      have y4 : X.frozen? ⟨w.heap.size, 4, none⟩ = false := by simp [World.frozen?, gS3]
      have rr4 : (X.setCell ⟨w1.heap.size, 4, none⟩ (.bool true)).cell? ⟨w.heap.size, 4, none⟩ = some (.bool false) := by rw [cell_of_row _ _ 4 _ _ _ gY]; rfl
      have yy4 : (X.setCell ⟨w1.heap.size, 4, none⟩ (.bool true)).frozen? ⟨w.heap.size, 4, none⟩ = false := by simp [World.frozen?, gY]
      have ne1 : w.heap.size ≠ w1.heap.size := by omega
      have ne2 : w1.heap.size ≠ w.heap.size := by omega
      have hEX := hE _ _ X kX iX
      clear kX iX hE gS gS2 gS3 gY
      have bY : ∀ v0 v1 v2 v3 v4, Below w.heap.size w ((((((X.setCell ⟨w1.heap.size, 4, none⟩ (.bool true)).setCell ⟨w.heap.size, 0, none⟩ v0).setCell ⟨w.heap.size, 1, none⟩ v1).setCell ⟨w.heap.size, 2, none⟩ v2).setCell ⟨w.heap.size, 3, none⟩ v3).setCell ⟨w.heap.size, 4, none⟩ v4) := fun v0 v1 v2 v3 v4 => (((((b0X.setCell (by show w.heap.size ≤ w1.heap.size; omega) _).setCell (Nat.le_refl _) _).setCell (Nat.le_refl _) _).setCell (Nat.le_refl _) _).setCell (Nat.le_refl _) _).setCell (Nat.le_refl _) _
      go_wp2_with (first | (go_at_call 14; refine hEX.mono ?_; rintro e w5 ⟨rfl, hw5⟩; have hw6 := hw5.symm; clear hw5; subst hw6))
      refine bodyPost_ret (v := .agg #[.slice p1 KF.length c1, .slice none 0 0, .int .i64 (i : Int), .int .i64 CM, .bool true]) ?_ rfl ?_
      · simp only [results, Tryd.results64]
        go_simp
      · exact ⟨_, _, _, rfl, bY _ _ _ _ _⟩

end Go.Proofs.YtofchcheoanmdaaDoor

namespace Go.Proofs.YtofchcheoanmdaaDoor
open Go.RowKit

set_option maxRecDepth 100000 in
set_option maxHeartbeats 1000000 in
theorem item_any (b : Bool) (p1 p2 p3 p4 : Option Addr) (n1 c1 n2 c2 n3 c3 n4 c4 : Nat) (a d e f g : Int) (w : World) : Calls Tryd.prog 74 #[.agg #[.bool b, .slice p1 n1 c1, .slice p2 n2 c2, .int .i64 a, .int .i64 d, .slice p3 n3 c3, .int .i64 e, .int .i64 f, .int .i64 g, .slice p4 n4 c4]] w fun e w' => e = .returned (.agg #[.slice p1 n1 c1, .slice p2 n2 c2, .int .i64 a]) ∧ Below w.heap.size w w' := by
  go_enter Tryd.func74, Tryd.ntmps74
  go_wp2
  refine bodyPost_ret (v := .agg #[.slice p1 n1 c1, .slice p2 n2 c2, .int .i64 a]) ?_ rfl ?_
  · simp only [results, Tryd.results74]
    go_simp
  · exact ⟨rfl, ((Below.refl _ w).alloc (Nat.le_refl _) _).alloc (by simp) _⟩

set_option maxRecDepth 100000 in
set_option maxHeartbeats 2000000 in
theorem get_leaf (g n c base i nb : Nat) (s r : Int) (p : Option Addr) (xs : List Value) (x : NodeS) (vi : Value) (id : List UInt8) (w : World) (h : AG w g s r p n c) (ho : w.ownsRow base 91 1 (.slice p n c) n xs) (hs : s ≠ 0) (hx : xs[i]? = some (.pointer (some ⟨nb, 0, none⟩))) (hX : NB w nb x) (hl : x.id.length ≤ 65535 ∧ x.key.length ≤ 65535 ∧ x.pre.length ≤ 65535 ∧ x.hash.length ≤ 65535) (hlf : x.leaf = true) (hii : x.id = id) (hid : HB w vi id) :
    Calls Tryd.prog 35 #[.pointer (some ⟨g, 0, none⟩), .int .i64 (i : Int), vi] w fun e w' => ∃ q1 d1 q2 d2, e = .returned (.tuple #[.agg #[.slice q1 id.length d1, .slice q2 x.key.length d2, .int .i64 x.since], .bool true]) ∧ HB w' (.slice q2 x.key.length d2) x.key ∧ Below w.heap.size w w' := by
  obtain ⟨pi, ci, rfl⟩ := hid.shape
  have bA := (Below.refl _ w).alloc (Nat.le_refl _) (.cells #[.slice none 0 0, .slice none 0 0, .int .i64 0] 71)
  have gA := heap_alloc_new w (.cells #[.slice none 0 0, .slice none 0 0, .int .i64 0] 71)
  have hD := down_leaf g n c base i nb s r p xs x (.slice pi id.length ci) id _ (h.later bA) (owns_later ho bA) hs hx (hX.later bA) hl hlf hii (hid.later bA)
  have hN := fun w' h' ho' hX' => node_at g n c base i nb s r p xs x w' h' ho' hs hx hX' hl
  rw [hlf, hii] at hN
  generalize keyF id = KF at *
  go_enter Tryd.func35, Tryd.ntmps35
  go_wp2_with fail
  refine hD.mono ?_
  rintro e w1 ⟨p1, c1, m, rfl, hb1⟩
  have b1 := bA.trans (hb1.mono bA.size)
  have g1 := (hb1.block _ (Array.getElem?_eq_some_iff.1 gA).1).trans gA
  have bV := (Below.refl _ w1).alloc (Nat.le_refl _) (.cells #[.slice p1 KF.length c1, .slice none 0 0, .int .i64 (i : Int), .int .i64 m, .bool true] 99)
  have b1V := b1.trans (bV.mono b1.size)
  have gV := (bV.block _ (Array.getElem?_eq_some_iff.1 g1).1).trans g1
  have hNV := hN _ (h.later b1V) (owns_later ho b1V) (hX.later b1V)
  clear hD hN h ho hX hid gA bA
  go_wp2_with fail
  refine hNV.mono ?_
  rintro e w2 ⟨q1, d1, q2, d2, q3, d3, q4, d4, rfl, k1, k2, _, _, hb2⟩
  have g2 := (hb2.block _ (Array.getElem?_eq_some_iff.1 gV).1).trans gV
  have b02 := b1V.trans (hb2.mono b1V.size)
  clear hNV gV bV b1V g1 b1 hb1 hb2
  have bZ := (Below.refl _ w2).alloc (Nat.le_refl _) (.cells #[.bool true, .slice q1 id.length d1, .slice q2 x.key.length d2, .int .i64 x.since, .int .i64 x.depth, .slice q3 x.pre.length d3, .int .i64 x.newest, .int .i64 x.left, .int .i64 x.right, .slice q4 x.hash.length d4] 43)
  have gZ := (bZ.block _ (Array.getElem?_eq_some_iff.1 g2).1).trans g2
  have bWZ := b02.trans (bZ.mono b02.size)
  have kZ := k2.later bZ
  have hI := item_any true q1 q2 q3 q4 id.length d1 x.key.length d2 x.pre.length d3 x.hash.length d4 x.since x.depth x.newest x.left x.right (w2.alloc (.cells #[.bool true, .slice q1 id.length d1, .slice q2 x.key.length d2, .int .i64 x.since, .int .i64 x.depth, .slice q3 x.pre.length d3, .int .i64 x.newest, .int .i64 x.left, .int .i64 x.right, .slice q4 x.hash.length d4] 43))
  clear bZ g2 b02 k1 k2
  go_wp2_with fail
  refine hI.mono ?_
  rintro e w3 ⟨rfl, hb3⟩
  have g3 := (hb3.block _ (Array.getElem?_eq_some_iff.1 gZ).1).trans gZ
  have b3 := bWZ.trans (hb3.mono bWZ.size)
  have k3 := kZ.later hb3
  have r0 : w3.cell? ⟨w.heap.size, 0, none⟩ = some (.slice none 0 0) := by rw [cell_of_row _ _ 0 _ _ _ g3]; rfl
  have y0 : w3.frozen? ⟨w.heap.size, 0, none⟩ = false := by simp only [World.frozen?, g3]; rfl
  have r1 : w3.cell? ⟨w.heap.size, 1, none⟩ = some (.slice none 0 0) := by rw [cell_of_row _ _ 1 _ _ _ g3]; rfl
  have y1 : w3.frozen? ⟨w.heap.size, 1, none⟩ = false := by simp only [World.frozen?, g3]; rfl
  have r2 : w3.cell? ⟨w.heap.size, 2, none⟩ = some (.int .i64 0) := by rw [cell_of_row _ _ 2 _ _ _ g3]; rfl
  have y2 : w3.frozen? ⟨w.heap.size, 2, none⟩ = false := by simp only [World.frozen?, g3]; rfl
  have onR : ∀ v0 v1 v2, Only w.heap.size w3 (((w3.setCell ⟨w.heap.size, 0, none⟩ v0).setCell ⟨w.heap.size, 1, none⟩ v1).setCell ⟨w.heap.size, 2, none⟩ v2) := fun v0 v1 v2 => (((Only.refl _ _).setCell _ _).setCell _ _).setCell _ _
  have hnz : ∀ v ∈ (#[.slice none 0 0, .slice none 0 0, .int .i64 0] : Array Value).toList, ∀ y : UInt8, v ≠ bc y := by
    intro v hv y
    simp only [List.mem_cons, List.not_mem_nil, or_false] at hv
    rcases hv with rfl | rfl | rfl <;> simp [bc]
  clear hI kZ gZ bWZ hb3
  go_wp2
  refine bodyPost_ret (v := .tuple #[.agg #[.slice q1 id.length d1, .slice q2 x.key.length d2, .int .i64 x.since], .bool true]) ?_ rfl ?_
  · simp only [results, Tryd.results35]
    go_simp
  · exact ⟨_, _, _, _, rfl, k3.onlyC g3 hnz (onR _ _ _), b3.trans ((onR _ _ _).below (Nat.le_refl _))⟩

end Go.Proofs.YtofchcheoanmdaaDoor

namespace Go.Proofs.YtofchcheoanmdaaDoor
open Go.RowKit

/-- The world behind a first entry of a map. -/
def mapOne (w : World) (r : Nat) (i : Int) : World := { w with heap := w.heap.setIfInBounds r (.map #[{ key := .int .i64 i, val := .int .i64 0, born := 0 }] 1) }

theorem mu_first (w : World) (r : Nat) (i : Int) (hb : w.heap[r]? = some (.map #[] 0)) : (Instr.mapUpdate 129 (.map (some r)) (.int .i64 i) (.int .i64 0)).run Tryd.prog w = .ok () (mapOne w r i) := by
  have hf : Instr.findNow (.int .i64) (.int .i64 i) ([] : List MapEntry) 0 = some none := rfl
  have hc : (Instr.checkKey false 10000 3 (.int .i64 i)).run Tryd.prog w = .ok () w := MapKept.run_checkKey (k := .int .i64 i) Tryd.underlying3 (by simp [MapKept.IsKey]) false 9999
  simp [Instr.mapUpdate, run_underlying Tryd.underlying129, MapKept.run_getObj_map hb, hc, MapKept.run_findKey Tryd.underlying3 hf, MapKept.run_setObj_map _ hb, Result.andThen, mapOne]

theorem look_one (w : World) (r : Nat) (i : Int) (hb : w.heap[r]? = some (.map #[{ key := .int .i64 i, val := .int .i64 0, born := 0 }] 1)) : (Instr.lookup 129 (.map (some r)) (.int .i64 i) false).run Tryd.prog w = .ok (.int .i64 0) w := by
  have hf : Instr.findNow (.int .i64) (.int .i64 i) [({ key := .int .i64 i, val := .int .i64 0, born := 0 } : MapEntry)] 0 = some (some (0, .int .i64 0)) := by simp [Instr.findNow, Instr.sameNow]
  have hc : (Instr.checkKey false 10000 3 (.int .i64 i)).run Tryd.prog w = .ok () w := MapKept.run_checkKey (k := .int .i64 i) Tryd.underlying3 (by simp [MapKept.IsKey]) false 9999
  simp [Instr.lookup, run_underlying Tryd.underlying129, MapKept.run_getObj_map hb, hc, MapKept.run_findKey Tryd.underlying3 hf, Result.andThen]

theorem mapOne_same (w : World) (r : Nat) (i : Int) (h : r < w.heap.size) : (mapOne w r i).heap[r]? = some (.map #[{ key := .int .i64 i, val := .int .i64 0, born := 0 }] 1) := by
  simp [mapOne, h]

theorem mapOne_below {B : Nat} {a w : World} {r : Nat} (i : Int) (h : Below B a w) (hr : B ≤ r) : Below B a (mapOne w r i) :=
  ⟨h.os, h.tape, h.output, by simpa [mapOne] using h.size, fun k hk => by
    rw [← h.block k hk]
    simp only [mapOne]
    rw [Array.getElem?_setIfInBounds_ne (by omega)]⟩

set_option maxRecDepth 100000 in
set_option maxHeartbeats 2000000 in
theorem deep_leaf (g n c base i nb : Nat) (s r : Int) (p : Option Addr) (xs : List Value) (x : NodeS) (w : World) (h : AG w g s r p n c) (ho : w.ownsRow base 91 1 (.slice p n c) n xs) (hs : s ≠ 0) (hx : xs[i]? = some (.pointer (some ⟨nb, 0, none⟩))) (hX : NB w nb x) (hl : x.id.length ≤ 65535 ∧ x.key.length ≤ 65535 ∧ x.pre.length ≤ 65535 ∧ x.hash.length ≤ 65535) (hlf : x.leaf = true) :
    Calls Tryd.prog 77 #[.pointer (some ⟨g, 0, none⟩), .int .i64 (i : Int)] w fun e w' => e = .returned (.int .i64 0) ∧ Below w.heap.size w w' := by
  have hN := fun w' h' ho' hX' => node_at g n c base i nb s r p xs x w' h' ho' hs hx hX' hl
  rw [hlf] at hN
  have hmm := @run_makeMap Tryd.prog
  go_enter Tryd.func77, Tryd.ntmps77
  obtain ⟨A, hA⟩ : ∃ A, A = (w.alloc (.map #[] 0)).alloc (.cells #[.int .i64 (i : Int)] 3) := ⟨_, rfl⟩
  have b0 := (Below.refl _ w).alloc (Nat.le_refl _) (.map #[] 0)
  have bA : Below w.heap.size w A := by rw [hA]; exact b0.alloc b0.size _
  have gM : A.heap[w.heap.size]? = some (.map #[] 0) := by
    rw [hA, Below.heap_alloc _ _ _ (by simp)]
    exact heap_alloc_new w _
  have gR : A.heap[w.heap.size + 1]? = some (.cells #[.int .i64 (i : Int)] 3 (0, 0)) := by
    have := heap_alloc_new (w.alloc (.map #[] 0)) (.cells #[.int .i64 (i : Int)] 3)
    rw [hA]
    simpa using this
  have hNA := hN A (h.later bA) (owns_later ho bA) (hX.later bA)
  have c0 : A.cell? ⟨w.heap.size + 1, 0, none⟩ = some (.int .i64 (i : Int)) := by rw [cell_of_row _ _ 0 _ _ _ gR]; rfl
  clear hN h ho hX
  go_wp2_with fail
  try rw [← hA]
  clear hA
  go_loopw [6] (fun v wr => (v = .slice (some ⟨w.heap.size + 1, 0, none⟩) 1 1 ∧ wr = A) ∨ (v = .slice (some ⟨w.heap.size + 1, 0, none⟩) 0 1 ∧ wr.heap[w.heap.size]? = some (.map #[{ key := .int .i64 (i : Int), val := .int .i64 0, born := 0 }] 1) ∧ Below w.heap.size w wr)) (fun v _ => match v with | .slice _ n _ => n | _ => 0)
  case atStart => exact .inl ⟨rfl, rfl⟩
  case round =>
    rcases hrel with ⟨rfl, hwr⟩ | ⟨rfl, g1, b1⟩
    · have hw2 := hwr.symm
      clear hwr
      subst hw2
      go_wp2_with fail
      refine hNA.mono ?_
      rintro e w2 ⟨q1, d1, q2, d2, q3, d3, q4, d4, rfl, _, _, _, _, hb2⟩
      clear hNA
      have bZ := (Below.refl _ w2).alloc (Nat.le_refl _) (.cells #[.bool true, .slice q1 x.id.length d1, .slice q2 x.key.length d2, .int .i64 x.since, .int .i64 x.depth, .slice q3 x.pre.length d3, .int .i64 x.newest, .int .i64 x.left, .int .i64 x.right, .slice q4 x.hash.length d4] 43)
      have b2Z := hb2.trans (bZ.mono hb2.size)
      have gMZ := (b2Z.block _ (Array.getElem?_eq_some_iff.1 gM).1).trans gM
      have c0Z := cell_later b2Z c0
      have bWZ := bA.trans (b2Z.mono bA.size)
      have hmu := mu_first _ _ (i : Int) gMZ
      have gO := mapOne_same _ _ (i : Int) (Array.getElem?_eq_some_iff.1 gMZ).1
      have bO := mapOne_below (i : Int) bWZ (Nat.le_refl _)
      clear bZ b2Z hb2 bA gM gR c0 gMZ bWZ
      go_wp2
      exact ⟨.inr ⟨rfl, gO, bO⟩, Nat.zero_lt_one⟩
    · have hlk := look_one _ _ _ g1
      go_wp2
      go_ret
      exact ⟨rfl, b1⟩

end Go.Proofs.YtofchcheoanmdaaDoor
