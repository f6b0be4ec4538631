/- What this text proves: the walks of ptree.missing, isRoot, down, needs and parts over this program, at a place where no node stands. What this text proves: a law for a walk, over any program: a region that draws its order, cut where all that is left waits for all that came ahead. What this text proves: the walks of an arena's Size and Node over this program, at a place where a node stands: a copy with memory of its own. -/
import Derived.Test.YtahfjemllkbpgaaGreatDoorJA2
import Derived.Test.YtahfjemllkbpgaaGreatDoorJK2
import Derived.Test.YtahfjemllkbpgaaGreatDoorVocab
import Derived.Deep.RegionHeld3
namespace Go.Proofs.YtahfjemllkbpgaaGreatDoor
open Go.RowKit

/-- Bytes stay where a block that holds none changes. -/
theorem HB.onlyC {w w' : World} {g : Nat} {v : Value} {l : List UInt8} {cs : Array Value} {t : TypeId} {fr : Nat × Nat} (h : HB w v l) (hg : w.heap[g]? = some (.cells cs t fr)) (hc : ∀ x ∈ cs.toList, ∀ y : UInt8, x ≠ bc y) (ho : Only g w w') : HB w' v l := by
  obtain ⟨p, cap, e, h1, h2, h3, h4⟩ := h
  refine ⟨p, cap, e, h1, h2, h3, fun hne => ?_⟩
  obtain ⟨b, o, e1, e2⟩ := h4 hne
  refine ⟨b, o, e1, fun i x hx => ?_⟩
  have hcx := e2 i x hx
  have hb : b ≠ g := by
    rintro rfl
    rw [cell_of_row w b (o + i) cs t fr hg] at hcx
    exact hc _ (Array.mem_toList_iff.2 (Array.mem_of_getElem? hcx)) x rfl
  rw [World.cell?_of_block (w := w) (ho.block b hb (cell_lt hcx))]
  exact hcx

set_option maxRecDepth 100000 in
set_option maxHeartbeats 400000 in
theorem pmissing_no (g : Nat) (s r : Int) (p : Option Addr) (n c : Nat) (w : World) (h : AG w g s r p n c) (hs : s ≠ 0) : Calls Tryz.prog 62 #[.pointer (some ⟨g, 0, none⟩)] w fun e w' => e = .returned (.bool false) ∧ w' = w := by
  have hS := size_any g s r p n c w h hs
  have hb : (s == 0) = false := by simpa using hs
  clear h
  go_enter Tryz.func62, Tryz.ntmps62
  go_wp2_with (first | (go_at_call 97; refine hS.mono ?_; rintro e w1 ⟨rfl, hw⟩; have hw2 := hw.symm; clear hw; subst hw2))
  go_ret
  exact ⟨rfl, rfl⟩

set_option maxRecDepth 100000 in
set_option maxHeartbeats 400000 in
theorem isRoot_out (g : Nat) (s r i : Int) (p : Option Addr) (n c : Nat) (w : World) (h : AG w g s r p n c) (hs : s ≠ 0) (hi : i < 0 ∨ (n : Int) ≤ i) : Calls Tryz.prog 63 #[.pointer (some ⟨g, 0, none⟩), .int .i64 i] w fun e w' => e = .returned (.bool (i == -1)) ∧ Below w.heap.size w w' := by
  have hN := node_out g s r i p n c w h hs hi
  unfold zNode at hN
  clear h hi
  go_enter Tryz.func63, Tryz.ntmps63
  go_wp2_with fail
  refine hN.mono ?_
  rintro e w1 ⟨rfl, hb1⟩
  clear hN
  go_wp2
  go_ret
  exact ⟨rfl, hb1.alloc hb1.size _⟩

set_option maxRecDepth 100000 in
set_option maxHeartbeats 1000000 in
theorem down_out (g : Nat) (s r i : Int) (p : Option Addr) (n c : Nat) (vi : Value) (id : List UInt8) (w : World) (h : AG w g s r p n c) (hs : s ≠ 0) (hi : i < 0 ∨ (n : Int) ≤ i) (hid : HB w vi id) : Calls Tryz.prog 64 #[.pointer (some ⟨g, 0, none⟩), .int .i64 i, vi] w fun e w' => ∃ p1 c1, e = .returned (.agg #[.slice p1 (keyF id).length c1, .slice none 0 0, .int .i64 i, .int .i64 0, .bool false]) ∧ HB w' (.slice p1 (keyF id).length c1) (keyF id) ∧ Below w.heap.size w w' := by
  obtain ⟨pi, ci, rfl⟩ := hid.shape
  have hN := fun w' h' => node_out g s r i p n c w' h' hs hi
  unfold zNode at hN
  have hK := fun w' h' => key_any (.slice pi id.length ci) id w' h'
  generalize keyF id = KF at *
  go_enter Tryz.func64, Tryz.ntmps64
  have bA := (Below.refl _ w).alloc (Nat.le_refl _) (.cells #[.slice none 0 0, .slice none 0 0, .int .i64 0, .int .i64 0, .bool false] 106)
  go_wp2_with fail
  refine (hK _ (hid.later bA)).mono ?_
  rintro e w1 ⟨p1, c1, rfl, k1, hb1⟩
  have b1 := bA.trans (hb1.mono bA.size)
  obtain ⟨V, hV⟩ : ∃ V, V = w1.alloc (.cells #[.slice p1 KF.length c1, .slice none 0 0, .int .i64 i, .int .i64 0, .bool false] 106) := ⟨_, rfl⟩
  have bV : Below w1.heap.size w1 V := by rw [hV]; exact (Below.refl _ w1).alloc (Nat.le_refl _) _
  have gV : V.heap[w1.heap.size]? = some (.cells #[.slice p1 KF.length c1, .slice none 0 0, .int .i64 i, .int .i64 0, .bool false] 106 (0, 0)) := by rw [hV]; exact heap_alloc_new w1 _
  have gA := heap_alloc_new w (.cells #[.slice none 0 0, .slice none 0 0, .int .i64 0, .int .i64 0, .bool false] 106)
  have gA1 := (hb1.block _ (Array.getElem?_eq_some_iff.1 gA).1).trans gA
  have gAV := (bV.block _ (Array.getElem?_eq_some_iff.1 gA1).1).trans gA1
  have b0V := b1.trans (bV.mono b1.size)
  have hNV := hN V (h.later b0V)
  have kV := k1.later bV
  go_wp2_with fail
  rw [← hV]
  clear hV hN hK gA gA1 k1 bV hb1 bA h
  go_loopw [9] (fun _ wr => wr = V) (fun _ _ => 0)
  case atStart => rfl
  case round =>
    subst hrel
    have c2 : wr.cell? ⟨w1.heap.size, 2, none⟩ = some (.int .i64 i) := by rw [cell_of_row _ _ 2 _ _ _ gV]; rfl
    go_wp2_with fail
    refine hNV.mono ?_
    rintro e w2 ⟨rfl, hb2⟩
    have bZ := (Below.refl _ w2).alloc (Nat.le_refl _) (.cells #[.bool false, .slice none 0 0, .slice none 0 0, .int .i64 0, .int .i64 0, .slice none 0 0, .int .i64 0, .int .i64 0, .int .i64 0, .slice none 0 0] 75)
    have b2Z := hb2.trans (bZ.mono hb2.size)
    have gw2 := (b2Z.block _ (Array.getElem?_eq_some_iff.1 gV).1).trans gV
    have gA2 := (b2Z.block _ (Array.getElem?_eq_some_iff.1 gAV).1).trans gAV
    have d0 : (w2.alloc (.cells #[.bool false, .slice none 0 0, .slice none 0 0, .int .i64 0, .int .i64 0, .slice none 0 0, .int .i64 0, .int .i64 0, .int .i64 0, .slice none 0 0] 75)).cell? ⟨w1.heap.size, 0, none⟩ = some (.slice p1 KF.length c1) := by rw [cell_of_row _ _ 0 _ _ _ gw2]; rfl
    have d1 : (w2.alloc (.cells #[.bool false, .slice none 0 0, .slice none 0 0, .int .i64 0, .int .i64 0, .slice none 0 0, .int .i64 0, .int .i64 0, .int .i64 0, .slice none 0 0] 75)).cell? ⟨w1.heap.size, 1, none⟩ = some (.slice none 0 0) := by rw [cell_of_row _ _ 1 _ _ _ gw2]; rfl
    have d2 : (w2.alloc (.cells #[.bool false, .slice none 0 0, .slice none 0 0, .int .i64 0, .int .i64 0, .slice none 0 0, .int .i64 0, .int .i64 0, .int .i64 0, .slice none 0 0] 75)).cell? ⟨w1.heap.size, 2, none⟩ = some (.int .i64 i) := by rw [cell_of_row _ _ 2 _ _ _ gw2]; rfl
    have d3 : (w2.alloc (.cells #[.bool false, .slice none 0 0, .slice none 0 0, .int .i64 0, .int .i64 0, .slice none 0 0, .int .i64 0, .int .i64 0, .int .i64 0, .slice none 0 0] 75)).cell? ⟨w1.heap.size, 3, none⟩ = some (.int .i64 0) := by rw [cell_of_row _ _ 3 _ _ _ gw2]; rfl
    have d4 : (w2.alloc (.cells #[.bool false, .slice none 0 0, .slice none 0 0, .int .i64 0, .int .i64 0, .slice none 0 0, .int .i64 0, .int .i64 0, .int .i64 0, .slice none 0 0] 75)).cell? ⟨w1.heap.size, 4, none⟩ = some (.bool false) := by rw [cell_of_row _ _ 4 _ _ _ gw2]; rfl
    have r0 : (w2.alloc (.cells #[.bool false, .slice none 0 0, .slice none 0 0, .int .i64 0, .int .i64 0, .slice none 0 0, .int .i64 0, .int .i64 0, .int .i64 0, .slice none 0 0] 75)).cell? ⟨w.heap.size, 0, none⟩ = some (.slice none 0 0) := by rw [cell_of_row _ _ 0 _ _ _ gA2]; rfl
    have q0 : (w2.alloc (.cells #[.bool false, .slice none 0 0, .slice none 0 0, .int .i64 0, .int .i64 0, .slice none 0 0, .int .i64 0, .int .i64 0, .int .i64 0, .slice none 0 0] 75)).frozen? ⟨w.heap.size, 0, none⟩ = false := by simp only [World.frozen?, gA2]; rfl
    have r1 : (w2.alloc (.cells #[.bool false, .slice none 0 0, .slice none 0 0, .int .i64 0, .int .i64 0, .slice none 0 0, .int .i64 0, .int .i64 0, .int .i64 0, .slice none 0 0] 75)).cell? ⟨w.heap.size, 1, none⟩ = some (.slice none 0 0) := by rw [cell_of_row _ _ 1 _ _ _ gA2]; rfl
    have q1 : (w2.alloc (.cells #[.bool false, .slice none 0 0, .slice none 0 0, .int .i64 0, .int .i64 0, .slice none 0 0, .int .i64 0, .int .i64 0, .int .i64 0, .slice none 0 0] 75)).frozen? ⟨w.heap.size, 1, none⟩ = false := by simp only [World.frozen?, gA2]; rfl
    have r2 : (w2.alloc (.cells #[.bool false, .slice none 0 0, .slice none 0 0, .int .i64 0, .int .i64 0, .slice none 0 0, .int .i64 0, .int .i64 0, .int .i64 0, .slice none 0 0] 75)).cell? ⟨w.heap.size, 2, none⟩ = some (.int .i64 0) := by rw [cell_of_row _ _ 2 _ _ _ gA2]; rfl
    have q2 : (w2.alloc (.cells #[.bool false, .slice none 0 0, .slice none 0 0, .int .i64 0, .int .i64 0, .slice none 0 0, .int .i64 0, .int .i64 0, .int .i64 0, .slice none 0 0] 75)).frozen? ⟨w.heap.size, 2, none⟩ = false := by simp only [World.frozen?, gA2]; rfl
    have r3 : (w2.alloc (.cells #[.bool false, .slice none 0 0, .slice none 0 0, .int .i64 0, .int .i64 0, .slice none 0 0, .int .i64 0, .int .i64 0, .int .i64 0, .slice none 0 0] 75)).cell? ⟨w.heap.size, 3, none⟩ = some (.int .i64 0) := by rw [cell_of_row _ _ 3 _ _ _ gA2]; rfl
    have q3 : (w2.alloc (.cells #[.bool false, .slice none 0 0, .slice none 0 0, .int .i64 0, .int .i64 0, .slice none 0 0, .int .i64 0, .int .i64 0, .int .i64 0, .slice none 0 0] 75)).frozen? ⟨w.heap.size, 3, none⟩ = false := by simp only [World.frozen?, gA2]; rfl
    have r4 : (w2.alloc (.cells #[.bool false, .slice none 0 0, .slice none 0 0, .int .i64 0, .int .i64 0, .slice none 0 0, .int .i64 0, .int .i64 0, .int .i64 0, .slice none 0 0] 75)).cell? ⟨w.heap.size, 4, none⟩ = some (.bool false) := by rw [cell_of_row _ _ 4 _ _ _ gA2]; rfl
    have q4 : (w2.alloc (.cells #[.bool false, .slice none 0 0, .slice none 0 0, .int .i64 0, .int .i64 0, .slice none 0 0, .int .i64 0, .int .i64 0, .int .i64 0, .slice none 0 0] 75)).frozen? ⟨w.heap.size, 4, none⟩ = false := by simp only [World.frozen?, gA2]; rfl
    have hon : Only w.heap.size (w2.alloc (.cells #[.bool false, .slice none 0 0, .slice none 0 0, .int .i64 0, .int .i64 0, .slice none 0 0, .int .i64 0, .int .i64 0, .int .i64 0, .slice none 0 0] 75)) ((((((w2.alloc (.cells #[.bool false, .slice none 0 0, .slice none 0 0, .int .i64 0, .int .i64 0, .slice none 0 0, .int .i64 0, .int .i64 0, .int .i64 0, .slice none 0 0] 75)).setCell ⟨w.heap.size, 0, none⟩ (.slice p1 KF.length c1)).setCell ⟨w.heap.size, 1, none⟩ (.slice none 0 0)).setCell ⟨w.heap.size, 2, none⟩ (.int .i64 i)).setCell ⟨w.heap.size, 3, none⟩ (.int .i64 0)).setCell ⟨w.heap.size, 4, none⟩ (.bool false)) := (((((Only.refl _ _).setCell 0 _).setCell 1 _).setCell 2 _).setCell 3 _).setCell 4 _
    have kf := (kV.later b2Z).onlyC gA2 (by intro x hx y; simp at hx; rcases hx with rfl | rfl | rfl <;> simp [bc]) hon
    have bf := (b0V.trans (b2Z.mono b0V.size)).trans (hon.below (Nat.le_refl _))
    clear hNV c2 gA2 gw2 hon kV bZ b2Z gV gAV
    go_wp2
    refine bodyPost_ret (v := .agg #[.slice p1 KF.length c1, .slice none 0 0, .int .i64 i, .int .i64 0, .bool false]) ?_ rfl ?_
    · simp only [results, Tryz.results64]
      go_simp
    · exact ⟨_, _, rfl, kf, bf⟩

end Go.Proofs.YtahfjemllkbpgaaGreatDoor

namespace Go.Proofs.YtahfjemllkbpgaaGreatDoor
open Go.RowKit

/-- The first part's post: behind it the rest, from there on. -/
def headPost (P : Program) (md : Region.Mode) (ops : Array Oper) (Q : Exit → Act → World → Prop) (m r : Nat) : Exit → Act → World → Prop
  | .normal, a, w => wpAny P md ops Q r (Array.replicate m true ++ Array.replicate r false) a w
  | e, a, w => Q e a w

/-- Whether one operation waits for another, by way of those between. -/
def waitsFor (md : Region.Mode) (ops : Array Oper) : Nat → Nat → Nat → Bool
  | 0, _, _ => false
  | f + 1, i, j => match ops[i]? with
    | none => false
    | some o => o.after.any fun e => Region.binds md e && (e.on == j || waitsFor md ops f e.on j)

/-- What has come up came up behind what it waits for. -/
def Closed (md : Region.Mode) (ops : Array Oper) (L : Array Bool) : Prop := ∀ i o, L.getD i false = true → ops[i]? = some o → ∀ e ∈ o.after, Region.binds md e = true → L.getD e.on false = true

theorem waitsFor_listed {md : Region.Mode} {ops : Array Oper} {L : Array Bool} (hL : Closed md ops L) (j : Nat) : ∀ (f i : Nat) (o : Oper), ops[i]? = some o → (∀ e ∈ o.after, Region.binds md e = true → L.getD e.on false = true) → waitsFor md ops f i j = true → L.getD j false = true := by
  intro f
  induction f with
  | zero => intro i o _ _ h; simp [waitsFor] at h
  | succ f ih =>
    intro i o ho hw h
    simp only [waitsFor, ho, Array.any_eq_true', Bool.and_eq_true, Bool.or_eq_true, beq_iff_eq] at h
    obtain ⟨e, he, hb, hj⟩ := h
    have hl := hw e he hb
    rcases hj with rfl | hj
    · exact hl
    · cases ho2 : ops[e.on]? with
      | none => cases f <;> simp [waitsFor, ho2] at hj
      | some o2 => exact ih e.on o2 ho2 (hL e.on o2 hl ho2) hj

/-- Of the first m operations none waits for a later one and none has a guard; each of the others waits for all of these, or for one of the others. -/
def cutsAt (md : Region.Mode) (ops : Array Oper) (m r : Nat) : Bool :=
  ops.size == m + r &&
  (List.range m).all (fun i => match ops[i]? with
    | none => false
    | some o => o.guard.isNone && o.after.all fun e => !Region.binds md e || decide (e.on < i)) &&
  (List.range r).all (fun k => match ops[m + k]? with
    | none => false
    | some o => (List.range m).all (fun j => waitsFor md ops (m + r) (m + k) j) || o.after.any fun e => Region.binds md e && decide (m ≤ e.on))

theorem wpAny_more {P : Program} {md : Region.Mode} {ops : Array Oper} {Q : Exit → Act → World → Prop} : ∀ (fuel : Nat) (listed : Array Bool) (a : Act) (w : World), wpAny P md ops Q fuel listed a w → wpAny P md ops Q (fuel + 1) listed a w := by
  intro fuel
  induction fuel with
  | zero => intro listed a w h; exact ⟨fun _ => h.2, fun i hi => by rw [h.1] at hi; cases hi⟩
  | succ fuel ih => intro listed a w h; exact ⟨h.1, fun i hi => wpOp_mono (fun a' w' h' => ih _ a' w' h') (h.2 i hi)⟩

theorem wpAny_more2 {P : Program} {md : Region.Mode} {ops : Array Oper} {Q : Exit → Act → World → Prop} (k fuel : Nat) (listed : Array Bool) (a : Act) (w : World) (h : wpAny P md ops Q fuel listed a w) : wpAny P md ops Q (k + fuel) listed a w := by
  induction k with
  | zero => rw [Nat.zero_add]; exact h
  | succ k ih => rw [Nat.add_right_comm]; exact wpAny_more _ _ _ _ ih

theorem wp_head {P : Program} {o : Oper} {a : Act} {w : World} {K : Act → World → Prop} {Q Q' : Exit → Act → World → Prop} (h : ∀ e a w, e ≠ .normal → Q e a w → Q' e a w) (hh : o.wp P a w K Q) : o.wp P a w K Q' := by
  have hl : LetsOut Q → LetsOut Q' := fun ⟨a, w, hx⟩ => ⟨a, w, h _ _ _ (by simp) hx⟩
  unfold Oper.wp at *
  generalize (execOp a.eval o).run P w = r at *
  cases r with
  | ok n w' =>
    cases n <;> simp only [Oper.upon] at hh ⊢ <;>
      first
        | exact hh
        | exact Calls.mono hh (fun e w'' he => by cases e <;> first | exact he | exact hl he | exact h _ _ _ (by simp) he)
  | halt x w' => cases x <;> simp only [Oper.upon] at hh ⊢ <;> first | exact hh | exact h _ _ _ (by simp) hh

theorem getD_app {l : Array Bool} {r j : Nat} {d : Bool} : (l ++ Array.replicate r false).getD j d = if j < l.size then l.getD j d else if j < l.size + r then false else d := by
  simp only [Array.getD_eq_getD_getElem?, Array.getElem?_append]
  split
  · rfl
  · simp only [Array.getElem?_replicate]
    split <;> split <;> first | rfl | omega

theorem wpAny_split {P : Program} {md : Region.Mode} {ops ops1 : Array Oper} {Q : Exit → Act → World → Prop} (m r : Nat) (h1 : ops1 = ops.extract 0 m) (hc : cutsAt md ops m r = true) :
    ∀ (fuel : Nat) (l : Array Bool) (a : Act) (w : World), l.size = m → Closed md ops (l ++ Array.replicate r false) → wpAny P md ops1 (headPost P md ops Q m r) fuel l a w → wpAny P md ops Q (fuel + r) (l ++ Array.replicate r false) a w := by
  unfold cutsAt at hc
  simp only [Bool.and_eq_true, beq_iff_eq, List.all_eq_true, List.mem_range] at hc
  obtain ⟨⟨hn, hA⟩, hB⟩ := hc
  have hop : ∀ i, i < m → ops1[i]? = ops[i]? := by
    intro i hi
    rw [h1, Array.getElem?_extract]
    simp only [Nat.sub_zero, Nat.zero_add]
    rw [if_pos (by omega)]
  have hs1 : ops1.size = m := by rw [h1, Array.size_extract]; omega
  have hA2 : ∀ i, i < m → ∃ o, ops[i]? = some o ∧ o.guard = none ∧ ∀ e ∈ o.after, Region.binds md e = true → e.on < i := by
    intro i hi
    have := hA i hi
    revert this
    cases ops[i]? with
    | none => intro h; cases h
    | some o =>
      intro h
      simp only [Bool.and_eq_true, Option.isNone_iff_eq_none, Array.all_eq_true_iff_forall_mem, Bool.or_eq_true, Bool.not_eq_true', decide_eq_true_eq] at h
      exact ⟨o, rfl, h.1, fun e he hb => (h.2 e he).resolve_left (by simp [hb])⟩
  have hB2 : ∀ k, k < r → ∃ o, ops[m + k]? = some o ∧ ((∀ j, j < m → waitsFor md ops (m + r) (m + k) j = true) ∨ ∃ e ∈ o.after, Region.binds md e = true ∧ m ≤ e.on) := by
    intro k hk
    have := hB k hk
    revert this
    cases ops[m + k]? with
    | none => intro h; cases h
    | some o =>
      intro h
      simp only [Bool.or_eq_true, List.all_eq_true, List.mem_range, Array.any_eq_true', Bool.and_eq_true, decide_eq_true_eq] at h
      exact ⟨o, rfl, h⟩
  -- all of the first part have come up, where none of it may
  have hall : ∀ l : Array Bool, l.size = m → Region.ready md ops1 l = [] → l = Array.replicate m true := by
    intro l hl hr
    have key : ∀ n i, i < n → i < m → l.getD i true = true := by
      intro n
      induction n with
      | zero => intro i hi; omega
      | succ n ih =>
        intro i hi hm
        rcases hb : l.getD i true with _ | _
        · exfalso
          obtain ⟨o, ho, _, hw⟩ := hA2 i hm
          have : i ∈ Region.ready md ops1 l := by
            refine mem_ready.2 ⟨hb, o, (hop i hm).trans ho, fun e he hbb => ?_⟩
            have hlt := hw e he hbb
            have := ih e.on (by omega) (by omega)
            simp only [Array.getD_eq_getD_getElem?] at this ⊢
            rw [Array.getElem?_eq_getElem (by omega)] at this ⊢
            exact this
          rw [hr] at this
          cases this
        · rfl
    refine Array.ext (by simp [hl]) fun i h1 h2 => ?_
    have := key (i + 1) i (by omega) (by omega)
    simpa [Array.getD_eq_getD_getElem?, Array.getElem?_eq_getElem h1] using this
  intro fuel
  induction fuel with
  | zero =>
    intro l a w hl _ h
    have e := hall l hl h.1
    subst e
    rw [Nat.zero_add]
    exact h.2
  | succ fuel ih =>
    intro l a w hl hcl h
    by_cases hr : Region.ready md ops1 l = []
    · have e := hall l hl hr
      have := h.1 hr
      subst e
      exact wpAny_more2 _ _ _ _ _ this
    · have hin : ∀ i, i ∈ Region.ready md ops1 l → i ∈ Region.ready md ops (l ++ Array.replicate r false) := by
        intro i hi
        obtain ⟨h0, o, ho, hw⟩ := mem_ready.1 hi
        have him : i < m := by rw [← hs1]; exact (Array.getElem?_eq_some_iff.1 ho).1
        refine mem_ready.2 ⟨by rw [getD_app, if_pos (by omega)]; exact h0, o, (hop i him).symm.trans ho, fun e he hb => ?_⟩
        obtain ⟨o', ho', _, hw'⟩ := hA2 i him
        obtain rfl : o' = o := Option.some.inj (ho'.symm.trans ((hop i him).symm.trans ho))
        have := hw' e he hb
        rw [getD_app, if_pos (by omega)]
        exact hw e he hb
      obtain ⟨i0, hi0⟩ := List.exists_mem_of_ne_nil _ hr
      have hi0m : i0 < m ∧ l.getD i0 true = false := by
        obtain ⟨h0, o, ho, _⟩ := mem_ready.1 hi0
        exact ⟨by rw [← hs1]; exact (Array.getElem?_eq_some_iff.1 ho).1, h0⟩
      rw [Nat.add_right_comm]
      refine ⟨fun h0 => ?_, fun i hi => ?_⟩
      · have := hin i0 hi0
        rw [h0] at this
        cases this
      · obtain ⟨h0, o, ho, hw⟩ := mem_ready.1 hi
        have hilt : i < m + r := by rw [← hn]; exact (Array.getElem?_eq_some_iff.1 ho).1
        have him : i < m := by
          rcases Nat.lt_or_ge i m with h' | h'
          · exact h'
          · exfalso
            obtain ⟨o', ho', hx⟩ := hB2 (i - m) (by omega)
            rw [show m + (i - m) = i by omega, ho] at ho'
            obtain rfl := Option.some.inj ho'
            rcases hx with hx | ⟨e, he, hb, hme⟩
            · have := waitsFor_listed hcl i0 (m + r) i o ho hw (by have := hx i0 hi0m.1; rwa [show m + (i - m) = i by omega] at this)
              rw [getD_app, if_pos (by omega)] at this
              have h2 := hi0m.2
              simp only [Array.getD_eq_getD_getElem?] at this h2
              rw [Array.getElem?_eq_getElem (by omega)] at this h2
              simp at this h2
              rw [h2] at this
              cases this
            · have := hw e he hb
              rw [getD_app, if_neg (by omega)] at this
              split at this <;> cases this
        obtain ⟨o', ho', hg, hw'⟩ := hA2 i him
        obtain rfl : o' = o := Option.some.inj (ho'.symm.trans ho)
        have hi1 : i ∈ Region.ready md ops1 l := by
          refine mem_ready.2 ⟨by rw [getD_app, if_pos (by omega)] at h0; exact h0, o', (hop i him).trans ho, fun e he hb => ?_⟩
          have := hw e he hb
          have hlt := hw' e he hb
          rw [getD_app, if_pos (by omega)] at this
          exact this
        have hst := h.2 i hi1
        have hse : (l ++ Array.replicate r false).setIfInBounds i true = l.setIfInBounds i true ++ Array.replicate r false := by
          rw [Array.setIfInBounds_append_left]; omega
        have hcl2 : Closed md ops (l.setIfInBounds i true ++ Array.replicate r false) := by
          rw [← hse]
          intro j oj hj hoj e he hb
          have hup : (l ++ Array.replicate r false).getD e.on false = true → ((l ++ Array.replicate r false).setIfInBounds i true).getD e.on false = true := by
            intro hx
            by_cases hie : i = e.on
            · rw [← hie]
              simp [hl]; omega
            · rw [getD_set_ne false hie]; exact hx
          refine hup ?_
          by_cases hij : i = j
          · subst hij
            obtain rfl := Option.some.inj (hoj.symm.trans ho)
            exact hw e he hb
          · rw [getD_set_ne false hij] at hj
            exact hcl j oj hj hoj e he hb
        have hst2 := wpOp_mono (fun a' w' h' => ih (l.setIfInBounds i true) a' w' (by simp [hl]) hcl2 h') hst
        rw [hse]
        unfold wpOp at hst2 ⊢
        rw [hop i him, ho] at hst2
        rw [ho]
        simp only [Region.wanted, hg, if_true] at hst2 ⊢
        refine hst2.imp (wp_head ?_) (fun ⟨x, a, w, hx⟩ => ⟨x, a, w, hx⟩)
        intro e a w hne hx
        cases e <;> first | exact absurd rfl hne | exact hx

/-- A region that draws, in two parts: the first by itself; the rest from where it ends. -/
theorem wp_region_split {P : Program} {id : Nat} {ops : Array Oper} {Q : Exit → Act → World → Prop} {a : Act} {w : World} (hm : P.follows .mixedOrders = true) (S : World → Prop) (m r : Nat) (ops1 : Array Oper) (h1 : ops1 = ops.extract 0 m) (hc : cutsAt .any ops m r = true)
    (h : wpAnyH P .any ops1 (headPost P .any ops Q m r) S m (Array.replicate m false) a w.drew) : (Code.region id ops true).wp P Q a w := by
  have hn : ops.size = m + r := by
    unfold cutsAt at hc
    simp only [Bool.and_eq_true, beq_iff_eq] at hc
    exact hc.1.1
  refine wp_region_any hm ?_
  have := wpAny_split m r h1 hc m (Array.replicate m false) a w.drew (by simp) (by intro i o hi; exfalso; rw [getD_app] at hi; revert hi; simp only [Array.size_replicate, Array.getD_eq_getD_getElem?, Array.getElem?_replicate]; split <;> simp_all) (wpAny_of_held _ _ _ _ h)
  rw [hn, show Array.replicate (m + r) false = Array.replicate m false ++ Array.replicate r false by simp]
  exact this

/-- Whether the rest comes up in one way alone. -/
def chainFrom (md : Region.Mode) (ops : Array Oper) : Nat → Nat → Array Bool → Bool
  | 0, _, L => (Region.ready md ops L).isEmpty
  | n + 1, i, L => Region.ready md ops L == [i] && chainFrom md ops n (i + 1) (L.setIfInBounds i true)

theorem wpAny_chain {P : Program} {md : Region.Mode} {ops : Array Oper} {Q : Exit → Act → World → Prop} : ∀ (n i : Nat) (L : Array Bool) (a : Act) (w : World), chainFrom md ops n i L = true → wpOps P ops Q (List.range' i n) a w → wpAny P md ops Q n L a w := by
  intro n
  induction n with
  | zero =>
    intro i L a w hc h
    exact ⟨by simpa [chainFrom] using hc, by simpa [wpOps] using h⟩
  | succ n ih =>
    intro i L a w hc h
    simp only [chainFrom, Bool.and_eq_true, beq_iff_eq] at hc
    rw [List.range'_succ, wpOps_cons] at h
    refine ⟨fun h0 => (by rw [hc.1] at h0; cases h0), fun j hj => ?_⟩
    rw [hc.1, List.mem_singleton] at hj
    subst hj
    exact wpOp_mono (fun a' w' h' => ih _ _ a' w' hc.2 h') h

/-- The rest, where it comes up in one way alone. -/
theorem headPost_rest {P : Program} {md : Region.Mode} {ops : Array Oper} {Q : Exit → Act → World → Prop} {m r : Nat} {a : Act} {w : World} (l : List Oper) (hl : l = ops.toList.drop m) (hr : l.length = r) (hc : chainFrom md ops r m (Array.replicate m true ++ Array.replicate r false) = true) (h : wpList P ops Q l a w) : headPost P md ops Q m r .normal a w := by
  refine wpAny_chain r m _ a w hc ?_
  rw [← hr, wpOps_eq_wpList l m fun j => by rw [hl, List.getElem?_drop]; simp]
  exact h

theorem wpList_post {P : Program} {ops : Array Oper} {Q Q' : Exit → Act → World → Prop} (h : ∀ e a w, Q e a w → Q' e a w) : ∀ (l : List Oper) (a : Act) (w : World), wpList P ops Q l a w → wpList P ops Q' l a w := by
  intro l
  induction l with
  | nil => intro a w hh; exact h _ _ _ hh
  | cons o l ih =>
    intro a w hh
    unfold wpList at hh ⊢
    split at hh
    · rw [if_pos (by assumption)]
      exact hh.imp (fun hx => wp_head (fun e a w _ hy => h e a w hy) (Oper.wp_mono (fun a w hz => ih a w hz) hx)) (fun ⟨hx, a, w, hy⟩ => ⟨hx, a, w, h _ _ _ hy⟩)
    · rw [if_neg (by assumption)]
      exact ih _ _ hh

/-- A post of the normal end alone. -/
def atEnd (R : Act → World → Prop) : Exit → Act → World → Prop
  | .normal, a, w => R a w
  | _, _, _ => False

/-- The rest in one way alone, and what is known behind it. -/
theorem headPost_end {P : Program} {md : Region.Mode} {ops : Array Oper} {Q : Exit → Act → World → Prop} {m r : Nat} {a : Act} {w : World} (l : List Oper) (hl : l = ops.toList.drop m) (hr : l.length = r) (hc : chainFrom md ops r m (Array.replicate m true ++ Array.replicate r false) = true) (A : Act) (R : World → Prop)
    (h : wpList P ops (atEnd fun a' w' => a' = A ∧ R w') l a w) (hR : ∀ w', R w' → Q .normal A w') : headPost P md ops Q m r .normal a w := by
  refine headPost_rest l hl hr hc (wpList_post ?_ l a w h)
  intro e a w hx
  cases e <;> first | exact hx.elim | (obtain ⟨rfl, hx⟩ := hx; exact hR _ hx)

end Go.Proofs.YtahfjemllkbpgaaGreatDoor

namespace Go.Proofs.YtahfjemllkbpgaaGreatDoor
open Go.RowKit

set_option maxRecDepth 100000 in
set_option maxHeartbeats 40000000 in
theorem node_at (g n c base i nb : Nat) (s r : Int) (p : Option Addr) (xs : List Value) (x : NodeS) (w : World) (h : AG w g s r p n c) (ho : w.ownsRow base 119 1 (.slice p n c) n xs) (hs : s ≠ 0) (hx : xs[i]? = some (.pointer (some ⟨nb, 0, none⟩))) (hX : NB w nb x) (hl : x.id.length ≤ 65535 ∧ x.key.length ≤ 65535 ∧ x.pre.length ≤ 65535 ∧ x.hash.length ≤ 65535) :
    Calls Tryz.prog 40 #[.pointer (some ⟨g, 0, none⟩), .int .i64 (i : Int)] w fun e w' => ∃ p1 c1 p2 c2 p3 c3 p4 c4, e = .returned (.tuple #[.agg #[.bool x.leaf, .slice p1 x.id.length c1, .slice p2 x.key.length c2, .int .i64 x.since, .int .i64 x.depth, .slice p3 x.pre.length c3, .int .i64 x.newest, .int .i64 x.left, .int .i64 x.right, .slice p4 x.hash.length c4], .bool true]) ∧ HB w' (.slice p1 x.id.length c1) x.id ∧ HB w' (.slice p2 x.key.length c2) x.key ∧ HB w' (.slice p3 x.pre.length c3) x.pre ∧ HB w' (.slice p4 x.hash.length c4) x.hash ∧ Below w.heap.size w w' := by
  have bA := (Below.refl _ w).alloc (Nat.le_refl _) (.cells #[.bool false, .slice none 0 0, .slice none 0 0, .int .i64 0, .int .i64 0, .slice none 0 0, .int .i64 0, .int .i64 0, .int .i64 0, .slice none 0 0] 75)
  have g0 := heap_alloc_new w (.cells #[.bool false, .slice none 0 0, .slice none 0 0, .int .i64 0, .int .i64 0, .slice none 0 0, .int .i64 0, .int .i64 0, .int .i64 0, .slice none 0 0] 75)
  obtain ⟨W, hW⟩ : ∃ W, W = w.alloc (.cells #[.bool false, .slice none 0 0, .slice none 0 0, .int .i64 0, .int .i64 0, .slice none 0 0, .int .i64 0, .int .i64 0, .int .i64 0, .slice none 0 0] 75) := ⟨_, rfl⟩
  rw [← hW] at bA g0
  have hA := h.later bA
  have oA := owns_later ho bA
  have hM := miss_no g s W hA.cells.1 hs
  have hi : i < n := by
    have := ho.1
    have := (List.getElem?_eq_some_iff.1 hx).1
    omega
  obtain ⟨b, rfl, hc⟩ := owns_get oA hx
  have hH := has_in g s r i b n c ⟨nb, 0, none⟩ W hA hi hc
  obtain ⟨c0, c1, c2, c3⟩ := hA.cells
  obtain ⟨vi, vk, vp, vh, n0, n1, n2, n3, n4, n5, n6, n7, n8, n9, k1, k2, k3, k4⟩ := (hX.later bA).cells
  obtain ⟨pi, ci, rfl⟩ := k1.1.shape
  obtain ⟨pk, ck, rfl⟩ := k2.1.shape
  obtain ⟨pp, cp, rfl⟩ := k3.1.shape
  obtain ⟨ph, ch, rfl⟩ := k4.1.shape
  have hi3 : (0 : Int) ≤ (i : Int) := by omega
  have hi4 : (i : Int) < (n : Int) := by omega
  go_enter Tryz.func40, Tryz.ntmps40
  go_wp2_with fail
  rw [← hW]
  clear hW
  go_wp2_with (first | (go_at_call 79; refine hM.mono ?_; rintro e w1 ⟨rfl, hw⟩; have hw2 := hw.symm; clear hw; subst hw2) | (go_at_call 80; refine hH.mono ?_; rintro e w1 ⟨rfl, hw⟩; have hw2 := hw.symm; clear hw; subst hw2))
  obtain ⟨V, hV⟩ : ∃ V, V = W.alloc (.cells #[.bool x.leaf, .slice pi x.id.length ci, .slice pk x.key.length ck, .int .i64 x.since, .int .i64 x.depth, .slice pp x.pre.length cp, .int .i64 x.newest, .int .i64 x.left, .int .i64 x.right, .slice ph x.hash.length ch] 75) := ⟨_, rfl⟩
  have bV : Below W.heap.size W V := by rw [hV]; exact (Below.refl _ W).alloc (Nat.le_refl _) _
  have gV : V.heap[W.heap.size]? = some (.cells #[.bool x.leaf, .slice pi x.id.length ci, .slice pk x.key.length ck, .int .i64 x.since, .int .i64 x.depth, .slice pp x.pre.length cp, .int .i64 x.newest, .int .i64 x.left, .int .i64 x.right, .slice ph x.hash.length ch] 75 (0, 0)) := by rw [hV]; exact heap_alloc_new W _
  rw [← hV]
  have j1 := k1.later bV
  have j2 := k2.later bV
  have j3 := k3.later bV
  have j4 := k4.later bV
  clear hV n0 n1 n2 n3 n4 n5 n6 n7 n8 n9 k1 k2 k3 k4 c0 c1 c2 c3 hM hH hc oA hA hX h ho
  have hcell : ∀ W', Below V.heap.size V W' → W'.cell? ⟨W.heap.size, 1, none⟩ = some (.slice pi x.id.length ci) ∧ W'.cell? ⟨W.heap.size, 2, none⟩ = some (.slice pk x.key.length ck) ∧ W'.cell? ⟨W.heap.size, 5, none⟩ = some (.slice pp x.pre.length cp) ∧ W'.cell? ⟨W.heap.size, 9, none⟩ = some (.slice ph x.hash.length ch) := by
    intro W' hb
    refine ⟨cell_later hb ?_, cell_later hb ?_, cell_later hb ?_, cell_later hb ?_⟩
    · rw [cell_of_row _ _ 1 _ _ _ gV]; rfl
    · rw [cell_of_row _ _ 2 _ _ _ gV]; rfl
    · rw [cell_of_row _ _ 5 _ _ _ gV]; rfl
    · rw [cell_of_row _ _ 9 _ _ _ gV]; rfl
  have hfroz : ∀ W', Below V.heap.size V W' → W'.frozen? ⟨W.heap.size, 1, none⟩ = false ∧ W'.frozen? ⟨W.heap.size, 2, none⟩ = false ∧ W'.frozen? ⟨W.heap.size, 5, none⟩ = false ∧ W'.frozen? ⟨W.heap.size, 9, none⟩ = false := by
    intro W' hb
    have g := (hb.block _ (Array.getElem?_eq_some_iff.1 gV).1).trans gV
    refine ⟨?_, ?_, ?_, ?_⟩ <;> simp [World.frozen?, g]
  obtain ⟨m1, m2, m5, m9⟩ := hcell V (Below.refl _ _)
  have hd : Below V.heap.size V V.drew := (Below.refl _ V).drew
  have hC1 := clone_own _ x.id _ (j1.later hd).1 (by omega)
  have hHeld := hcell V.drew hd
  refine wp_region_split (by kernel_rfl) (fun W' => W'.cell? ⟨W.heap.size, 1, none⟩ = some (.slice pi x.id.length ci) ∧ W'.cell? ⟨W.heap.size, 2, none⟩ = some (.slice pk x.key.length ck) ∧ W'.cell? ⟨W.heap.size, 5, none⟩ = some (.slice pp x.pre.length cp) ∧ W'.cell? ⟨W.heap.size, 9, none⟩ = some (.slice ph x.hash.length ch)) 13 7 #[{ dst := some 25, op := Op.fieldAddr 75 (Operand.tmp 6) 1, type := 0, pos := "arena.go:115", after := #[], guard := none },
    { dst := some 26, op := Op.load 22 (Operand.tmp 25), type := 22, pos := "arena.go:115", after := #[{ on := 0, ground := Ground.data }], guard := none },
    { dst := some 27, op := Op.call { callee := Callee.value (Operand.func 18), args := #[Operand.tmp 26], argTypes := #[22] }, type := 22, pos := "arena.go:115", after := #[{ on := 1, ground := Ground.data }], guard := none },
    { dst := some 28, op := Op.fieldAddr 75 (Operand.tmp 6) 2, type := 0, pos := "arena.go:115", after := #[], guard := none },
    { dst := some 29, op := Op.load 22 (Operand.tmp 28), type := 22, pos := "arena.go:115", after := #[{ on := 3, ground := Ground.data }], guard := none },
    { dst := some 30, op := Op.call { callee := Callee.value (Operand.func 18), args := #[Operand.tmp 29], argTypes := #[22] }, type := 22, pos := "arena.go:115", after := #[{ on := 4, ground := Ground.data }, { on := 2, ground := Ground.chain }], guard := none },
    { dst := some 31, op := Op.fieldAddr 75 (Operand.tmp 6) 5, type := 0, pos := "arena.go:115", after := #[], guard := none },
    { dst := some 32, op := Op.load 22 (Operand.tmp 31), type := 22, pos := "arena.go:115", after := #[{ on := 6, ground := Ground.data }], guard := none },
    { dst := some 33, op := Op.call { callee := Callee.value (Operand.func 18), args := #[Operand.tmp 32], argTypes := #[22] }, type := 22, pos := "arena.go:115", after := #[{ on := 7, ground := Ground.data }, { on := 5, ground := Ground.chain }], guard := none },
    { dst := some 34, op := Op.fieldAddr 75 (Operand.tmp 6) 9, type := 0, pos := "arena.go:115", after := #[], guard := none },
    { dst := some 35, op := Op.load 22 (Operand.tmp 34), type := 22, pos := "arena.go:115", after := #[{ on := 9, ground := Ground.data }], guard := none },
    { dst := some 36, op := Op.call { callee := Callee.value (Operand.func 18), args := #[Operand.tmp 35], argTypes := #[22] }, type := 22, pos := "arena.go:115", after := #[{ on := 10, ground := Ground.data }, { on := 8, ground := Ground.chain }], guard := none },
    { dst := some 37, op := Op.fieldAddr 75 (Operand.tmp 6) 1, type := 0, pos := "arena.go:115", after := #[{ on := 0, ground := Ground.phase }, { on := 1, ground := Ground.phase }, { on := 2, ground := Ground.phase }, { on := 3, ground := Ground.phase }, { on := 4, ground := Ground.phase }, { on := 5, ground := Ground.textOnly Departure.lateStoresUnsure }, { on := 6, ground := Ground.phase }, { on := 7, ground := Ground.phase }, { on := 8, ground := Ground.textOnly Departure.lateStoresUnsure }, { on := 9, ground := Ground.phase }, { on := 10, ground := Ground.phase }, { on := 11, ground := Ground.textOnly Departure.lateStoresUnsure }], guard := none }] (by kernel_rfl) (by kernel_rfl) ?_
  refine wpAnyH_take (i := 0) (oi := { dst := some 25, op := Op.fieldAddr 75 (Operand.tmp 6) 1, type := 0, pos := "arena.go:115", after := #[], guard := none }) (v := ?v0) rfl (by kernel_rfl) (by kernel_rfl) (by kernel_rfl) (fun _ _ _ h => h) (Or.inl ⟨by rfl, ?y0⟩) hHeld ?r0
  case y0 => (intro w hSw; (try dsimp only at hSw); go_simp) <;> with_reducible rfl
  try simp only [Act.put, List.setIfInBounds_toArray, List.set_cons_zero, List.set_cons_succ]
  refine wpAnyH_take (i := 1) (oi := { dst := some 26, op := Op.load 22 (Operand.tmp 25), type := 22, pos := "arena.go:115", after := #[{ on := 0, ground := Ground.data }], guard := none }) (v := ?v1) rfl (by kernel_rfl) (by kernel_rfl) (by kernel_rfl) (fun _ _ _ h => h) (Or.inl ⟨by rfl, ?y1⟩) hHeld ?r1
  case y1 => (intro w hSw; (try dsimp only at hSw); go_simp) <;> with_reducible rfl
  try simp only [Act.put, List.setIfInBounds_toArray, List.set_cons_zero, List.set_cons_succ]
  refine wpAnyH_take (i := 3) (oi := { dst := some 28, op := Op.fieldAddr 75 (Operand.tmp 6) 2, type := 0, pos := "arena.go:115", after := #[], guard := none }) (v := ?v3) rfl (by kernel_rfl) (by kernel_rfl) (by kernel_rfl) (fun _ _ _ h => h) (Or.inl ⟨by rfl, ?y3⟩) hHeld ?r3
  case y3 => (intro w hSw; (try dsimp only at hSw); go_simp) <;> with_reducible rfl
  try simp only [Act.put, List.setIfInBounds_toArray, List.set_cons_zero, List.set_cons_succ]
  refine wpAnyH_take (i := 4) (oi := { dst := some 29, op := Op.load 22 (Operand.tmp 28), type := 22, pos := "arena.go:115", after := #[{ on := 3, ground := Ground.data }], guard := none }) (v := ?v4) rfl (by kernel_rfl) (by kernel_rfl) (by kernel_rfl) (fun _ _ _ h => h) (Or.inl ⟨by rfl, ?y4⟩) hHeld ?r4
  case y4 => (intro w hSw; (try dsimp only at hSw); go_simp) <;> with_reducible rfl
  try simp only [Act.put, List.setIfInBounds_toArray, List.set_cons_zero, List.set_cons_succ]
  refine wpAnyH_take (i := 6) (oi := { dst := some 31, op := Op.fieldAddr 75 (Operand.tmp 6) 5, type := 0, pos := "arena.go:115", after := #[], guard := none }) (v := ?v6) rfl (by kernel_rfl) (by kernel_rfl) (by kernel_rfl) (fun _ _ _ h => h) (Or.inl ⟨by rfl, ?y6⟩) hHeld ?r6
  case y6 => (intro w hSw; (try dsimp only at hSw); go_simp) <;> with_reducible rfl
  try simp only [Act.put, List.setIfInBounds_toArray, List.set_cons_zero, List.set_cons_succ]
  refine wpAnyH_take (i := 7) (oi := { dst := some 32, op := Op.load 22 (Operand.tmp 31), type := 22, pos := "arena.go:115", after := #[{ on := 6, ground := Ground.data }], guard := none }) (v := ?v7) rfl (by kernel_rfl) (by kernel_rfl) (by kernel_rfl) (fun _ _ _ h => h) (Or.inl ⟨by rfl, ?y7⟩) hHeld ?r7
  case y7 => (intro w hSw; (try dsimp only at hSw); go_simp) <;> with_reducible rfl
  try simp only [Act.put, List.setIfInBounds_toArray, List.set_cons_zero, List.set_cons_succ]
  refine wpAnyH_take (i := 9) (oi := { dst := some 34, op := Op.fieldAddr 75 (Operand.tmp 6) 9, type := 0, pos := "arena.go:115", after := #[], guard := none }) (v := ?v9) rfl (by kernel_rfl) (by kernel_rfl) (by kernel_rfl) (fun _ _ _ h => h) (Or.inl ⟨by rfl, ?y9⟩) hHeld ?r9
  case y9 => (intro w hSw; (try dsimp only at hSw); go_simp) <;> with_reducible rfl
  try simp only [Act.put, List.setIfInBounds_toArray, List.set_cons_zero, List.set_cons_succ]
  refine wpAnyH_take (i := 10) (oi := { dst := some 35, op := Op.load 22 (Operand.tmp 34), type := 22, pos := "arena.go:115", after := #[{ on := 9, ground := Ground.data }], guard := none }) (v := ?v10) rfl (by kernel_rfl) (by kernel_rfl) (by kernel_rfl) (fun _ _ _ h => h) (Or.inl ⟨by rfl, ?y10⟩) hHeld ?r10
  case y10 => (intro w hSw; (try dsimp only at hSw); go_simp) <;> with_reducible rfl
  try simp only [Act.put, List.setIfInBounds_toArray, List.set_cons_zero, List.set_cons_succ]
  refine wpAnyH_ready (rs := [2]) (by kernel_rfl) (by simp) ?_
  refine AllReadyH.cons (o := { dst := some 27, op := Op.call { callee := Callee.value (Operand.func 18), args := #[Operand.tmp 26], argTypes := #[22] }, type := 22, pos := "arena.go:115", after := #[{ on := 1, ground := Ground.data }], guard := none }) rfl (fun K hK => ?_) AllReadyH.nil
  go_simp
  refine hC1.mono ?_
  rintro e w1 ⟨p1, c1, rfl, o1, hb1'⟩
  have hb1 : Below V.heap.size V w1 := hd.trans (hb1'.mono (by simp))
  replace hHeld := hcell w1 hb1
  refine hK.out _ _ ?_ (fun _ => ?_)
  · exact hHeld
  clear hK K
  try simp only [Act.put, List.setIfInBounds_toArray, List.set_cons_zero, List.set_cons_succ]
  refine wpAnyH_take (i := 12) (oi := { dst := some 37, op := Op.fieldAddr 75 (Operand.tmp 6) 1, type := 0, pos := "arena.go:115", after := #[{ on := 0, ground := Ground.phase }, { on := 1, ground := Ground.phase }, { on := 2, ground := Ground.phase }, { on := 3, ground := Ground.phase }, { on := 4, ground := Ground.phase }, { on := 5, ground := Ground.textOnly Departure.lateStoresUnsure }, { on := 6, ground := Ground.phase }, { on := 7, ground := Ground.phase }, { on := 8, ground := Ground.textOnly Departure.lateStoresUnsure }, { on := 9, ground := Ground.phase }, { on := 10, ground := Ground.phase }, { on := 11, ground := Ground.textOnly Departure.lateStoresUnsure }], guard := none }) (v := ?v12) rfl (by kernel_rfl) (by kernel_rfl) (by kernel_rfl) (fun _ _ _ h => h) (Or.inl ⟨by rfl, ?y12⟩) hHeld ?r12
  case y12 => (intro w hSw; (try dsimp only at hSw); go_simp) <;> with_reducible rfl
  try simp only [Act.put, List.setIfInBounds_toArray, List.set_cons_zero, List.set_cons_succ]
  refine wpAnyH_ready (rs := [5]) (by kernel_rfl) (by simp) ?_
  refine AllReadyH.cons (o := { dst := some 30, op := Op.call { callee := Callee.value (Operand.func 18), args := #[Operand.tmp 29], argTypes := #[22] }, type := 22, pos := "arena.go:115", after := #[{ on := 4, ground := Ground.data }, { on := 2, ground := Ground.chain }], guard := none }) rfl (fun K hK => ?_) AllReadyH.nil
  go_simp
  refine (clone_own _ x.key _ (j2.later hb1).1 (by omega)).mono ?_
  rintro e w2 ⟨p2, c2, rfl, o2, hb2'⟩
  have hb2 : Below V.heap.size V w2 := hb1.trans (hb2'.mono hb1.size)
  replace hHeld := hcell w2 hb2
  refine hK.out _ _ ?_ (fun _ => ?_)
  · exact hHeld
  clear hK K
  try simp only [Act.put, List.setIfInBounds_toArray, List.set_cons_zero, List.set_cons_succ]
  refine wpAnyH_ready (rs := [8]) (by kernel_rfl) (by simp) ?_
  refine AllReadyH.cons (o := { dst := some 33, op := Op.call { callee := Callee.value (Operand.func 18), args := #[Operand.tmp 32], argTypes := #[22] }, type := 22, pos := "arena.go:115", after := #[{ on := 7, ground := Ground.data }, { on := 5, ground := Ground.chain }], guard := none }) rfl (fun K hK => ?_) AllReadyH.nil
  go_simp
  refine (clone_own _ x.pre _ (j3.later hb2).1 (by omega)).mono ?_
  rintro e w3 ⟨p3, c3, rfl, o3, hb3'⟩
  have hb3 : Below V.heap.size V w3 := hb2.trans (hb3'.mono hb2.size)
  replace hHeld := hcell w3 hb3
  refine hK.out _ _ ?_ (fun _ => ?_)
  · exact hHeld
  clear hK K
  try simp only [Act.put, List.setIfInBounds_toArray, List.set_cons_zero, List.set_cons_succ]
  refine wpAnyH_ready (rs := [11]) (by kernel_rfl) (by simp) ?_
  refine AllReadyH.cons (o := { dst := some 36, op := Op.call { callee := Callee.value (Operand.func 18), args := #[Operand.tmp 35], argTypes := #[22] }, type := 22, pos := "arena.go:115", after := #[{ on := 10, ground := Ground.data }, { on := 8, ground := Ground.chain }], guard := none }) rfl (fun K hK => ?_) AllReadyH.nil
  go_simp
  refine (clone_own _ x.hash _ (j4.later hb3).1 (by omega)).mono ?_
  rintro e w4 ⟨p4, c4, rfl, o4, hb4'⟩
  have hb4 : Below V.heap.size V w4 := hb3.trans (hb4'.mono hb3.size)
  replace hHeld := hcell w4 hb4
  refine hK.out _ _ ?_ (fun _ => ?_)
  · exact hHeld
  clear hK K
  try simp only [Act.put, List.setIfInBounds_toArray, List.set_cons_zero, List.set_cons_succ]
  refine wpAnyH_done (by kernel_rfl) ?_ _
  have g4 := (hb4.block _ (Array.getElem?_eq_some_iff.1 gV).1).trans gV
  have n1 : w4.cell? ⟨W.heap.size, 1, none⟩ = some (.slice pi x.id.length ci) := by rw [cell_of_row _ _ 1 _ _ _ g4]; rfl
  have n2 : w4.cell? ⟨W.heap.size, 2, none⟩ = some (.slice pk x.key.length ck) := by rw [cell_of_row _ _ 2 _ _ _ g4]; rfl
  have n5 : w4.cell? ⟨W.heap.size, 5, none⟩ = some (.slice pp x.pre.length cp) := by rw [cell_of_row _ _ 5 _ _ _ g4]; rfl
  have n9 : w4.cell? ⟨W.heap.size, 9, none⟩ = some (.slice ph x.hash.length ch) := by rw [cell_of_row _ _ 9 _ _ _ g4]; rfl
  clear hHeld hC1 hcell m1 m2 m5 m9
  obtain ⟨f1, f2, f5, f9⟩ := hfroz w4 hb4
  clear hfroz
  refine headPost_end [{ dst := none, op := Op.store 22 (Operand.tmp 37) (Operand.tmp 27), type := 0, pos := "arena.go:115", after := #[{ on := 12, ground := Ground.data }, { on := 2, ground := Ground.data }, { on := 11, ground := Ground.chain }, { on := 0, ground := Ground.phase }, { on := 1, ground := Ground.phase }, { on := 2, ground := Ground.phase }, { on := 3, ground := Ground.phase }, { on := 4, ground := Ground.phase }, { on := 5, ground := Ground.textOnly Departure.lateStoresUnsure }, { on := 6, ground := Ground.phase }, { on := 7, ground := Ground.phase }, { on := 8, ground := Ground.textOnly Departure.lateStoresUnsure }, { on := 9, ground := Ground.phase }, { on := 10, ground := Ground.phase }, { on := 11, ground := Ground.textOnly Departure.lateStoresUnsure }], guard := none },
    { dst := some 38, op := Op.fieldAddr 75 (Operand.tmp 6) 2, type := 0, pos := "arena.go:115", after := #[{ on := 0, ground := Ground.phase }, { on := 1, ground := Ground.phase }, { on := 2, ground := Ground.phase }, { on := 3, ground := Ground.phase }, { on := 4, ground := Ground.phase }, { on := 5, ground := Ground.phase }, { on := 6, ground := Ground.phase }, { on := 7, ground := Ground.phase }, { on := 8, ground := Ground.textOnly Departure.lateStoresUnsure }, { on := 9, ground := Ground.phase }, { on := 10, ground := Ground.phase }, { on := 11, ground := Ground.textOnly Departure.lateStoresUnsure }, { on := 12, ground := Ground.phase }, { on := 13, ground := Ground.phase }], guard := none },
    { dst := none, op := Op.store 22 (Operand.tmp 38) (Operand.tmp 30), type := 0, pos := "arena.go:115", after := #[{ on := 14, ground := Ground.data }, { on := 5, ground := Ground.data }, { on := 13, ground := Ground.chain }, { on := 0, ground := Ground.phase }, { on := 1, ground := Ground.phase }, { on := 2, ground := Ground.phase }, { on := 3, ground := Ground.phase }, { on := 4, ground := Ground.phase }, { on := 5, ground := Ground.phase }, { on := 6, ground := Ground.phase }, { on := 7, ground := Ground.phase }, { on := 8, ground := Ground.textOnly Departure.lateStoresUnsure }, { on := 9, ground := Ground.phase }, { on := 10, ground := Ground.phase }, { on := 11, ground := Ground.textOnly Departure.lateStoresUnsure }, { on := 12, ground := Ground.phase }, { on := 13, ground := Ground.phase }], guard := none },
    { dst := some 39, op := Op.fieldAddr 75 (Operand.tmp 6) 5, type := 0, pos := "arena.go:115", after := #[{ on := 0, ground := Ground.phase }, { on := 1, ground := Ground.phase }, { on := 2, ground := Ground.phase }, { on := 3, ground := Ground.phase }, { on := 4, ground := Ground.phase }, { on := 5, ground := Ground.phase }, { on := 6, ground := Ground.phase }, { on := 7, ground := Ground.phase }, { on := 8, ground := Ground.phase }, { on := 9, ground := Ground.phase }, { on := 10, ground := Ground.phase }, { on := 11, ground := Ground.textOnly Departure.lateStoresUnsure }, { on := 12, ground := Ground.phase }, { on := 13, ground := Ground.phase }, { on := 14, ground := Ground.phase }, { on := 15, ground := Ground.phase }], guard := none },
    { dst := none, op := Op.store 22 (Operand.tmp 39) (Operand.tmp 33), type := 0, pos := "arena.go:115", after := #[{ on := 16, ground := Ground.data }, { on := 8, ground := Ground.data }, { on := 15, ground := Ground.chain }, { on := 0, ground := Ground.phase }, { on := 1, ground := Ground.phase }, { on := 2, ground := Ground.phase }, { on := 3, ground := Ground.phase }, { on := 4, ground := Ground.phase }, { on := 5, ground := Ground.phase }, { on := 6, ground := Ground.phase }, { on := 7, ground := Ground.phase }, { on := 8, ground := Ground.phase }, { on := 9, ground := Ground.phase }, { on := 10, ground := Ground.phase }, { on := 11, ground := Ground.textOnly Departure.lateStoresUnsure }, { on := 12, ground := Ground.phase }, { on := 13, ground := Ground.phase }, { on := 14, ground := Ground.phase }, { on := 15, ground := Ground.phase }], guard := none },
    { dst := some 40, op := Op.fieldAddr 75 (Operand.tmp 6) 9, type := 0, pos := "arena.go:115", after := #[{ on := 0, ground := Ground.phase }, { on := 1, ground := Ground.phase }, { on := 2, ground := Ground.phase }, { on := 3, ground := Ground.phase }, { on := 4, ground := Ground.phase }, { on := 5, ground := Ground.phase }, { on := 6, ground := Ground.phase }, { on := 7, ground := Ground.phase }, { on := 8, ground := Ground.phase }, { on := 9, ground := Ground.phase }, { on := 10, ground := Ground.phase }, { on := 11, ground := Ground.phase }, { on := 12, ground := Ground.phase }, { on := 13, ground := Ground.phase }, { on := 14, ground := Ground.phase }, { on := 15, ground := Ground.phase }, { on := 16, ground := Ground.phase }, { on := 17, ground := Ground.phase }], guard := none },
    { dst := none, op := Op.store 22 (Operand.tmp 40) (Operand.tmp 36), type := 0, pos := "arena.go:115", after := #[{ on := 18, ground := Ground.data }, { on := 11, ground := Ground.data }, { on := 17, ground := Ground.chain }, { on := 0, ground := Ground.phase }, { on := 1, ground := Ground.phase }, { on := 2, ground := Ground.phase }, { on := 3, ground := Ground.phase }, { on := 4, ground := Ground.phase }, { on := 5, ground := Ground.phase }, { on := 6, ground := Ground.phase }, { on := 7, ground := Ground.phase }, { on := 8, ground := Ground.phase }, { on := 9, ground := Ground.phase }, { on := 10, ground := Ground.phase }, { on := 11, ground := Ground.phase }, { on := 12, ground := Ground.phase }, { on := 13, ground := Ground.phase }, { on := 14, ground := Ground.phase }, { on := 15, ground := Ground.phase }, { on := 16, ground := Ground.phase }, { on := 17, ground := Ground.phase }], guard := none }] (by kernel_rfl) rfl (by kernel_rfl) { tmps := #[.pointer (some ⟨g, 0, none⟩), .int .i64 (i : Int), undef, undef, .pointer (some ⟨w.heap.size, 0, none⟩), .bool false, .pointer (some ⟨W.heap.size, 0, none⟩), .pointer (some ⟨g, 0, none⟩), .bool false, .bool false, .pointer (some ⟨g, 0, none⟩), .int .i64 (i : Int), .bool true, .bool false, .bool false, undef, .pointer (some ⟨g, 0, none⟩), .pointer (some ⟨g, 0, none⟩), .pointer (some ⟨g, 2, none⟩), .slice (some ⟨b, 0, none⟩) n c, .int .i64 (i : Int), .pointer (some ⟨b, i, none⟩), .pointer (some ⟨nb, 0, none⟩), .pointer (some ⟨nb, 0, none⟩), .agg #[.bool x.leaf, .slice pi x.id.length ci, .slice pk x.key.length ck, .int .i64 x.since, .int .i64 x.depth, .slice pp x.pre.length cp, .int .i64 x.newest, .int .i64 x.left, .int .i64 x.right, .slice ph x.hash.length ch], .pointer (some ⟨W.heap.size, 1, none⟩), .slice pi x.id.length ci, .slice p1 x.id.length c1, .pointer (some ⟨W.heap.size, 2, none⟩), .slice pk x.key.length ck, .slice p2 x.key.length c2, .pointer (some ⟨W.heap.size, 5, none⟩), .slice pp x.pre.length cp, .slice p3 x.pre.length c3, .pointer (some ⟨W.heap.size, 9, none⟩), .slice ph x.hash.length ch, .slice p4 x.hash.length c4, .pointer (some ⟨W.heap.size, 1, none⟩), .pointer (some ⟨W.heap.size, 2, none⟩), .pointer (some ⟨W.heap.size, 5, none⟩), .pointer (some ⟨W.heap.size, 9, none⟩), undef], defers := [] } (fun U => U = (((w4.setCell ⟨W.heap.size, 1, none⟩ (.slice p1 x.id.length c1)).setCell ⟨W.heap.size, 2, none⟩ (.slice p2 x.key.length c2)).setCell ⟨W.heap.size, 5, none⟩ (.slice p3 x.pre.length c3)).setCell ⟨W.heap.size, 9, none⟩ (.slice p4 x.hash.length c4)) ?hst ?htl
  case hst =>
    go_wp2
    exact ⟨rfl, rfl⟩
  intro U hU
  have hWw : w.heap.size < W.heap.size := (Array.getElem?_eq_some_iff.1 g0).1
  have hVW : W.heap.size < V.heap.size := (Array.getElem?_eq_some_iff.1 gV).1
  have onU : Only W.heap.size w4 U := by
    rw [hU]
    exact ((((Only.refl _ _).setCell _ _).setCell _ _).setCell _ _).setCell _ _
  have gU : U.heap[W.heap.size]? = some (.cells #[.bool x.leaf, .slice p1 x.id.length c1, .slice p2 x.key.length c2, .int .i64 x.since, .int .i64 x.depth, .slice p3 x.pre.length c3, .int .i64 x.newest, .int .i64 x.left, .int .i64 x.right, .slice p4 x.hash.length c4] 75 (0, 0)) := by
    have e1 := heap_setCell_same w4 _ 1 _ _ (.slice p1 x.id.length c1) g4
    have e2 := heap_setCell_same _ _ 2 _ _ (.slice p2 x.key.length c2) e1
    have e3 := heap_setCell_same _ _ 5 _ _ (.slice p3 x.pre.length c3) e2
    have e4 := heap_setCell_same _ _ 9 _ _ (.slice p4 x.hash.length c4) e3
    rw [hU, e4]
    rfl
  have gR : U.heap[w.heap.size]? = some (.cells #[.bool false, .slice none 0 0, .slice none 0 0, .int .i64 0, .int .i64 0, .slice none 0 0, .int .i64 0, .int .i64 0, .int .i64 0, .slice none 0 0] 75 (0, 0)) :=
    (onU.block _ (by omega) (by have := hb4.size; omega)).trans ((hb4.block _ (by omega)).trans ((bV.block _ hWw).trans g0))
  have q1 := HB.of_owns (owns_later (owns_later (owns_later o1 hb2') hb3') hb4')
  have q2 := HB.of_owns (owns_later (owns_later o2 hb3') hb4')
  have q3 := HB.of_owns (owns_later o3 hb4')
  have q4 := HB.of_owns o4
  have hnb : ∀ v ∈ (#[.bool x.leaf, .slice pi x.id.length ci, .slice pk x.key.length ck, .int .i64 x.since, .int .i64 x.depth, .slice pp x.pre.length cp, .int .i64 x.newest, .int .i64 x.left, .int .i64 x.right, .slice ph x.hash.length ch] : Array Value).toList, ∀ y : UInt8, v ≠ bc y := by
    intro v hv y
    simp only [List.mem_cons, List.not_mem_nil, or_false] at hv
    rcases hv with rfl | rfl | rfl | rfl | rfl | rfl | rfl | rfl | rfl | rfl <;> simp [bc]
  have hnz : ∀ v ∈ (#[.bool false, .slice none 0 0, .slice none 0 0, .int .i64 0, .int .i64 0, .slice none 0 0, .int .i64 0, .int .i64 0, .int .i64 0, .slice none 0 0] : Array Value).toList, ∀ y : UInt8, v ≠ bc y := by
    intro v hv y
    simp only [List.mem_cons, List.not_mem_nil, or_false] at hv
    rcases hv with rfl | rfl | rfl | rfl | rfl | rfl | rfl | rfl | rfl | rfl <;> simp [bc]
  replace q1 := q1.onlyC g4 hnb onU
  replace q2 := q2.onlyC g4 hnb onU
  replace q3 := q3.onlyC g4 hnb onU
  replace q4 := q4.onlyC g4 hnb onU
  have bU : Below w.heap.size w U := (bA.trans (bV.mono bA.size)).trans ((hb4.mono (by omega)).trans (onU.below (by omega)))
  clear hU onU hnb o1 o2 o3 o4 hb1' hb2' hb3' hb4' hb1 hb2 hb3 hb4 g4 n1 n2 n5 n9 f1 f2 f5 f9 j1 j2 j3 j4 hd gV bV g0 bA
  have u0 : U.cell? ⟨W.heap.size, 0, none⟩ = some (.bool x.leaf) := by rw [cell_of_row _ _ 0 _ _ _ gU]; rfl
  have u1 : U.cell? ⟨W.heap.size, 1, none⟩ = some (.slice p1 x.id.length c1) := by rw [cell_of_row _ _ 1 _ _ _ gU]; rfl
  have u2 : U.cell? ⟨W.heap.size, 2, none⟩ = some (.slice p2 x.key.length c2) := by rw [cell_of_row _ _ 2 _ _ _ gU]; rfl
  have u3 : U.cell? ⟨W.heap.size, 3, none⟩ = some (.int .i64 x.since) := by rw [cell_of_row _ _ 3 _ _ _ gU]; rfl
  have u4 : U.cell? ⟨W.heap.size, 4, none⟩ = some (.int .i64 x.depth) := by rw [cell_of_row _ _ 4 _ _ _ gU]; rfl
  have u5 : U.cell? ⟨W.heap.size, 5, none⟩ = some (.slice p3 x.pre.length c3) := by rw [cell_of_row _ _ 5 _ _ _ gU]; rfl
  have u6 : U.cell? ⟨W.heap.size, 6, none⟩ = some (.int .i64 x.newest) := by rw [cell_of_row _ _ 6 _ _ _ gU]; rfl
  have u7 : U.cell? ⟨W.heap.size, 7, none⟩ = some (.int .i64 x.left) := by rw [cell_of_row _ _ 7 _ _ _ gU]; rfl
  have u8 : U.cell? ⟨W.heap.size, 8, none⟩ = some (.int .i64 x.right) := by rw [cell_of_row _ _ 8 _ _ _ gU]; rfl
  have u9 : U.cell? ⟨W.heap.size, 9, none⟩ = some (.slice p4 x.hash.length c4) := by rw [cell_of_row _ _ 9 _ _ _ gU]; rfl
  have z0 : U.cell? ⟨w.heap.size, 0, none⟩ = some (.bool false) := by rw [cell_of_row _ _ 0 _ _ _ gR]; rfl
  have z1 : U.cell? ⟨w.heap.size, 1, none⟩ = some (.slice none 0 0) := by rw [cell_of_row _ _ 1 _ _ _ gR]; rfl
  have z2 : U.cell? ⟨w.heap.size, 2, none⟩ = some (.slice none 0 0) := by rw [cell_of_row _ _ 2 _ _ _ gR]; rfl
  have z3 : U.cell? ⟨w.heap.size, 3, none⟩ = some (.int .i64 0) := by rw [cell_of_row _ _ 3 _ _ _ gR]; rfl
  have z4 : U.cell? ⟨w.heap.size, 4, none⟩ = some (.int .i64 0) := by rw [cell_of_row _ _ 4 _ _ _ gR]; rfl
  have z5 : U.cell? ⟨w.heap.size, 5, none⟩ = some (.slice none 0 0) := by rw [cell_of_row _ _ 5 _ _ _ gR]; rfl
  have z6 : U.cell? ⟨w.heap.size, 6, none⟩ = some (.int .i64 0) := by rw [cell_of_row _ _ 6 _ _ _ gR]; rfl
  have z7 : U.cell? ⟨w.heap.size, 7, none⟩ = some (.int .i64 0) := by rw [cell_of_row _ _ 7 _ _ _ gR]; rfl
  have z8 : U.cell? ⟨w.heap.size, 8, none⟩ = some (.int .i64 0) := by rw [cell_of_row _ _ 8 _ _ _ gR]; rfl
  have z9 : U.cell? ⟨w.heap.size, 9, none⟩ = some (.slice none 0 0) := by rw [cell_of_row _ _ 9 _ _ _ gR]; rfl
  have y0 : U.frozen? ⟨w.heap.size, 0, none⟩ = false := by simp [World.frozen?, gR]
  have y1 : U.frozen? ⟨w.heap.size, 1, none⟩ = false := by simp [World.frozen?, gR]
  have y2 : U.frozen? ⟨w.heap.size, 2, none⟩ = false := by simp [World.frozen?, gR]
  have y3 : U.frozen? ⟨w.heap.size, 3, none⟩ = false := by simp [World.frozen?, gR]
  have y4 : U.frozen? ⟨w.heap.size, 4, none⟩ = false := by simp [World.frozen?, gR]
  have y5 : U.frozen? ⟨w.heap.size, 5, none⟩ = false := by simp [World.frozen?, gR]
  have y6 : U.frozen? ⟨w.heap.size, 6, none⟩ = false := by simp [World.frozen?, gR]
  have y7 : U.frozen? ⟨w.heap.size, 7, none⟩ = false := by simp [World.frozen?, gR]
  have y8 : U.frozen? ⟨w.heap.size, 8, none⟩ = false := by simp [World.frozen?, gR]
  have y9 : U.frozen? ⟨w.heap.size, 9, none⟩ = false := by simp [World.frozen?, gR]
  go_wp2
  refine bodyPost_ret (v := .tuple #[.agg #[.bool x.leaf, .slice p1 x.id.length c1, .slice p2 x.key.length c2, .int .i64 x.since, .int .i64 x.depth, .slice p3 x.pre.length c3, .int .i64 x.newest, .int .i64 x.left, .int .i64 x.right, .slice p4 x.hash.length c4], .bool true]) ?_ rfl ?_
  · simp only [results, Tryz.results40]
    go_simp
  have onR : ∀ v0 v1 v2 v3 v4 v5 v6 v7 v8 v9, Only w.heap.size U ((((((((((U.setCell ⟨w.heap.size, 0, none⟩ v0).setCell ⟨w.heap.size, 1, none⟩ v1).setCell ⟨w.heap.size, 2, none⟩ v2).setCell ⟨w.heap.size, 3, none⟩ v3).setCell ⟨w.heap.size, 4, none⟩ v4).setCell ⟨w.heap.size, 5, none⟩ v5).setCell ⟨w.heap.size, 6, none⟩ v6).setCell ⟨w.heap.size, 7, none⟩ v7).setCell ⟨w.heap.size, 8, none⟩ v8).setCell ⟨w.heap.size, 9, none⟩ v9) := fun v0 v1 v2 v3 v4 v5 v6 v7 v8 v9 => ((((((((((Only.refl _ _).setCell _ _).setCell _ _).setCell _ _).setCell _ _).setCell _ _).setCell _ _).setCell _ _).setCell _ _).setCell _ _).setCell _ _
  exact ⟨_, _, _, _, _, _, _, _, rfl, q1.onlyC gR hnz (onR _ _ _ _ _ _ _ _ _ _), q2.onlyC gR hnz (onR _ _ _ _ _ _ _ _ _ _), q3.onlyC gR hnz (onR _ _ _ _ _ _ _ _ _ _), q4.onlyC gR hnz (onR _ _ _ _ _ _ _ _ _ _), bU.trans ((onR _ _ _ _ _ _ _ _ _ _).below (Nat.le_refl _))⟩

end Go.Proofs.YtahfjemllkbpgaaGreatDoor
