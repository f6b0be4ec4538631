/- What this text proves: a law for a walk, over any program: a region that draws its order, some of its operations taken first, cut where all that is left waits for all that came ahead but for these. -/
import Derived.Test.YtmikhebbcmniaaaRegSplit
namespace Go.Proofs.Ytmikhebbcmniaaa
open Go.RowKit

/-- As cutsAt, but for those of D. -/
def cutsAtD (md : Region.Mode) (ops : Array Oper) (m r : Nat) (D : List Nat) : Bool :=
  ops.size == m + r &&
  (List.range m).all (fun i => match ops[i]? with
    | none => false
    | some o => o.guard.isNone && o.after.all fun e => !Region.binds md e || decide (e.on < i)) &&
  (List.range r).all (fun k => match ops[m + k]? with
    | none => false
    | some o => (List.range m).all (fun j => D.contains j || waitsFor md ops (m + r) (m + k) j) || o.after.any fun e => Region.binds md e && decide (m ≤ e.on))

theorem wpAny_splitD {P : Program} {md : Region.Mode} {ops ops1 : Array Oper} {Q : Exit → Act → World → Prop} (m r : Nat) (D : List Nat) (h1 : ops1 = ops.extract 0 m) (hc : cutsAtD md ops m r D = true) :
    ∀ (fuel : Nat) (l : Array Bool) (a : Act) (w : World), l.size = m → (∀ j ∈ D, l.getD j true = true) → Closed md ops (l ++ Array.replicate r false) → wpAny P md ops1 (headPost P md ops Q m r) fuel l a w → wpAny P md ops Q (fuel + r) (l ++ Array.replicate r false) a w := by
  unfold cutsAtD at hc
  simp only [Bool.and_eq_true, beq_iff_eq, List.all_eq_true, List.mem_range] at hc
  obtain ⟨⟨hn, hA⟩, hB⟩ := hc
  have hop : ∀ i, i < m → ops1[i]? = ops[i]? := by
    intro i hi
    rw [h1, Array.getElem?_extract]
    simp only [Nat.sub_zero, Nat.zero_add]
    rw [if_pos (by omega)]
  have hs1 : ops1.size = m := by rw [h1, Array.size_extract]; omega
  have hA2 : ∀ i, i < m → ∃ o, ops[i]? = some o ∧ o.guard = none ∧ ∀ e ∈ o.after, Region.binds md e = true → e.on < i := by
    intro i hi
    have := hA i hi
    revert this
    cases ops[i]? with
    | none => intro h; cases h
    | some o =>
      intro h
      simp only [Bool.and_eq_true, Option.isNone_iff_eq_none, Array.all_eq_true_iff_forall_mem, Bool.or_eq_true, Bool.not_eq_true', decide_eq_true_eq] at h
      exact ⟨o, rfl, h.1, fun e he hb => (h.2 e he).resolve_left (by simp [hb])⟩
  have hB2 : ∀ k, k < r → ∃ o, ops[m + k]? = some o ∧ ((∀ j, j < m → j ∈ D ∨ waitsFor md ops (m + r) (m + k) j = true) ∨ ∃ e ∈ o.after, Region.binds md e = true ∧ m ≤ e.on) := by
    intro k hk
    have := hB k hk
    revert this
    cases ops[m + k]? with
    | none => intro h; cases h
    | some o =>
      intro h
      simp only [Bool.or_eq_true, List.all_eq_true, List.mem_range, Array.any_eq_true', Bool.and_eq_true, decide_eq_true_eq, List.contains_iff_mem] at h
      exact ⟨o, rfl, h⟩
  -- all of the first part have come up, where none of it may
  have hall : ∀ l : Array Bool, l.size = m → Region.ready md ops1 l = [] → l = Array.replicate m true := by
    intro l hl hr
    have key : ∀ n i, i < n → i < m → l.getD i true = true := by
      intro n
      induction n with
      | zero => intro i hi; omega
      | succ n ih =>
        intro i hi hm
        rcases hb : l.getD i true with _ | _
        · exfalso
          obtain ⟨o, ho, _, hw⟩ := hA2 i hm
          have : i ∈ Region.ready md ops1 l := by
            refine mem_ready.2 ⟨hb, o, (hop i hm).trans ho, fun e he hbb => ?_⟩
            have hlt := hw e he hbb
            have := ih e.on (by omega) (by omega)
            simp only [Array.getD_eq_getD_getElem?] at this ⊢
            rw [Array.getElem?_eq_getElem (by omega)] at this ⊢
            exact this
          rw [hr] at this
          cases this
        · rfl
    refine Array.ext (by simp [hl]) fun i h1 h2 => ?_
    have := key (i + 1) i (by omega) (by omega)
    simpa [Array.getD_eq_getD_getElem?, Array.getElem?_eq_getElem h1] using this
  intro fuel
  induction fuel with
  | zero =>
    intro l a w hl _ _ h
    have e := hall l hl h.1
    subst e
    rw [Nat.zero_add]
    exact h.2
  | succ fuel ih =>
    intro l a w hl hD hcl h
    by_cases hr : Region.ready md ops1 l = []
    · have e := hall l hl hr
      have := h.1 hr
      subst e
      exact wpAny_more2 _ _ _ _ _ this
    · have hin : ∀ i, i ∈ Region.ready md ops1 l → i ∈ Region.ready md ops (l ++ Array.replicate r false) := by
        intro i hi
        obtain ⟨h0, o, ho, hw⟩ := mem_ready.1 hi
        have him : i < m := by rw [← hs1]; exact (Array.getElem?_eq_some_iff.1 ho).1
        refine mem_ready.2 ⟨by rw [getD_app, if_pos (by omega)]; exact h0, o, (hop i him).symm.trans ho, fun e he hb => ?_⟩
        obtain ⟨o', ho', _, hw'⟩ := hA2 i him
        obtain rfl : o' = o := Option.some.inj (ho'.symm.trans ((hop i him).symm.trans ho))
        have := hw' e he hb
        rw [getD_app, if_pos (by omega)]
        exact hw e he hb
      obtain ⟨i0, hi0⟩ := List.exists_mem_of_ne_nil _ hr
      have hi0m : i0 < m ∧ l.getD i0 true = false := by
        obtain ⟨h0, o, ho, _⟩ := mem_ready.1 hi0
        exact ⟨by rw [← hs1]; exact (Array.getElem?_eq_some_iff.1 ho).1, h0⟩
      rw [Nat.add_right_comm]
      refine ⟨fun h0 => ?_, fun i hi => ?_⟩
      · have := hin i0 hi0
        rw [h0] at this
        cases this
      · obtain ⟨h0, o, ho, hw⟩ := mem_ready.1 hi
        have hilt : i < m + r := by rw [← hn]; exact (Array.getElem?_eq_some_iff.1 ho).1
        have him : i < m := by
          rcases Nat.lt_or_ge i m with h' | h'
          · exact h'
          · exfalso
            obtain ⟨o', ho', hx⟩ := hB2 (i - m) (by omega)
            rw [show m + (i - m) = i by omega, ho] at ho'
            obtain rfl := Option.some.inj ho'
            rcases hx with hx | ⟨e, he, hb, hme⟩
            · have hx0 : waitsFor md ops (m + r) (m + (i - m)) i0 = true := by
                rcases hx i0 hi0m.1 with hd | hd
                · have := hD i0 hd
                  rw [hi0m.2] at this
                  cases this
                · exact hd
              have := waitsFor_listed hcl i0 (m + r) i o ho hw (by rwa [show m + (i - m) = i by omega] at hx0)
              rw [getD_app, if_pos (by omega)] at this
              have h2 := hi0m.2
              simp only [Array.getD_eq_getD_getElem?] at this h2
              rw [Array.getElem?_eq_getElem (by omega)] at this h2
              simp at this h2
              rw [h2] at this
              cases this
            · have := hw e he hb
              rw [getD_app, if_neg (by omega)] at this
              split at this <;> cases this
        obtain ⟨o', ho', hg, hw'⟩ := hA2 i him
        obtain rfl : o' = o := Option.some.inj (ho'.symm.trans ho)
        have hi1 : i ∈ Region.ready md ops1 l := by
          refine mem_ready.2 ⟨by rw [getD_app, if_pos (by omega)] at h0; exact h0, o', (hop i him).trans ho, fun e he hb => ?_⟩
          have := hw e he hb
          have hlt := hw' e he hb
          rw [getD_app, if_pos (by omega)] at this
          exact this
        have hst := h.2 i hi1
        have hse : (l ++ Array.replicate r false).setIfInBounds i true = l.setIfInBounds i true ++ Array.replicate r false := by
          rw [Array.setIfInBounds_append_left]; omega
        have hcl2 : Closed md ops (l.setIfInBounds i true ++ Array.replicate r false) := by
          rw [← hse]
          intro j oj hj hoj e he hb
          have hup : (l ++ Array.replicate r false).getD e.on false = true → ((l ++ Array.replicate r false).setIfInBounds i true).getD e.on false = true := by
            intro hx
            by_cases hie : i = e.on
            · rw [← hie]
              simp [hl]; omega
            · rw [getD_set_ne false hie]; exact hx
          refine hup ?_
          by_cases hij : i = j
          · subst hij
            obtain rfl := Option.some.inj (hoj.symm.trans ho)
            exact hw e he hb
          · rw [getD_set_ne false hij] at hj
            exact hcl j oj hj hoj e he hb
        have hD2 : ∀ j ∈ D, (l.setIfInBounds i true).getD j true = true := by
          intro j hj
          by_cases hij : i = j
          · subst hij
            simp [Array.getD_eq_getD_getElem?, hl, him]
          · rw [getD_set_ne true hij]; exact hD j hj
        have hst2 := wpOp_mono (fun a' w' h' => ih (l.setIfInBounds i true) a' w' (by simp [hl]) hD2 hcl2 h') hst
        rw [hse]
        unfold wpOp at hst2 ⊢
        rw [hop i him, ho] at hst2
        rw [ho]
        simp only [Region.wanted, hg, if_true] at hst2 ⊢
        refine hst2.imp (wp_head ?_) (fun ⟨x, a, w, hx⟩ => ⟨x, a, w, hx⟩)
        intro e a w hne hx
        cases e <;> first | exact absurd rfl hne | exact hx

/-- What is listed is listed behind what it waits for. -/
def closedB (md : Region.Mode) (ops : Array Oper) (L : Array Bool) : Bool :=
  (List.range ops.size).all fun i => !L.getD i false || match ops[i]? with
    | none => true
    | some o => o.after.all fun e => !Region.binds md e || L.getD e.on false

theorem closedB_spec {md : Region.Mode} {ops : Array Oper} {L : Array Bool} (h : closedB md ops L = true) : Closed md ops L := by
  intro i o hi ho e he hb
  have hlt : i < ops.size := (Array.getElem?_eq_some_iff.1 ho).1
  unfold closedB at h
  have := List.all_eq_true.1 h i (List.mem_range.2 hlt)
  rw [hi, ho] at this
  simp only [Bool.not_true, Bool.false_or, Array.all_eq_true_iff_forall_mem] at this
  have h2 := this e he
  rw [hb] at h2
  simpa using h2

/-- The rest of a region, some of it listed, in two parts. -/
theorem wpAny_cut {P : Program} {ops : Array Oper} {Q : Exit → Act → World → Prop} {a : Act} {w : World} (S : World → Prop) (m r : Nat) (D : List Nat) (ops1 : Array Oper) (h1 : ops1 = ops.extract 0 m) (hc : cutsAtD .any ops m r D = true) (l : Array Bool) (hl : l.size = m) (hD : D.all (fun j => l.getD j true) = true) (hcl : closedB .any ops (l ++ Array.replicate r false) = true) (fuel : Nat)
    (h : wpAnyH P .any ops1 (headPost P .any ops Q m r) S fuel l a w) : wpAny P .any ops Q (fuel + r) (l ++ Array.replicate r false) a w :=
  wpAny_splitD m r D h1 hc fuel l a w hl (List.all_eq_true.1 hD) (closedB_spec hcl) (wpAny_of_held _ _ _ _ h)

end Go.Proofs.Ytmikhebbcmniaaa
