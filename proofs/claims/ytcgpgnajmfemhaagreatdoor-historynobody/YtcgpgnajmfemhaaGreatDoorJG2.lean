/- What this text proves: a law for a walk, over any program: a region that draws its order, cut where all that is left waits for all that came ahead. What this text proves: the walk of snaps.Grow of any one binding behind New, over this program. (By program: mkhygrow.py.) -/
import Derived.Test.YtcgpgnajmfemhaaGreatDoorJSha
import Derived.Deep.RegionHeld3
import Derived.Test.YtcgpgnajmfemhaaGreatDoorJQ3
import Derived.Test.YtcgpgnajmfemhaaGreatDoorJQ10
import Derived.Test.YtcgpgnajmfemhaaGreatDoorJD2
import Derived.Test.YtcgpgnajmfemhaaGreatDoorJQ12
import Derived.Test.YtcgpgnajmfemhaaGreatDoorJQ7
namespace Go.Proofs.YtcgpgnajmfemhaaGreatDoor
open Go.RowKit

/-- The first part's post: behind it the rest, from there on. -/
def headPost (P : Program) (md : Region.Mode) (ops : Array Oper) (Q : Exit → Act → World → Prop) (m r : Nat) : Exit → Act → World → Prop
  | .normal, a, w => wpAny P md ops Q r (Array.replicate m true ++ Array.replicate r false) a w
  | e, a, w => Q e a w

/-- Whether one operation waits for another, by way of those between. -/
def waitsFor (md : Region.Mode) (ops : Array Oper) : Nat → Nat → Nat → Bool
  | 0, _, _ => false
  | f + 1, i, j => match ops[i]? with
    | none => false
    | some o => o.after.any fun e => Region.binds md e && (e.on == j || waitsFor md ops f e.on j)

/-- What has come up came up behind what it waits for. -/
def Closed (md : Region.Mode) (ops : Array Oper) (L : Array Bool) : Prop := ∀ i o, L.getD i false = true → ops[i]? = some o → ∀ e ∈ o.after, Region.binds md e = true → L.getD e.on false = true

theorem waitsFor_listed {md : Region.Mode} {ops : Array Oper} {L : Array Bool} (hL : Closed md ops L) (j : Nat) : ∀ (f i : Nat) (o : Oper), ops[i]? = some o → (∀ e ∈ o.after, Region.binds md e = true → L.getD e.on false = true) → waitsFor md ops f i j = true → L.getD j false = true := by
  intro f
  induction f with
  | zero => intro i o _ _ h; simp [waitsFor] at h
  | succ f ih =>
    intro i o ho hw h
    simp only [waitsFor, ho, Array.any_eq_true', Bool.and_eq_true, Bool.or_eq_true, beq_iff_eq] at h
    obtain ⟨e, he, hb, hj⟩ := h
    have hl := hw e he hb
    rcases hj with rfl | hj
    · exact hl
    · cases ho2 : ops[e.on]? with
      | none => cases f <;> simp [waitsFor, ho2] at hj
      | some o2 => exact ih e.on o2 ho2 (hL e.on o2 hl ho2) hj

/-- Of the first m operations none waits for a later one and none has a guard; each of the others waits for all of these, or for one of the others. -/
def cutsAt (md : Region.Mode) (ops : Array Oper) (m r : Nat) : Bool :=
  ops.size == m + r &&
  (List.range m).all (fun i => match ops[i]? with
    | none => false
    | some o => o.guard.isNone && o.after.all fun e => !Region.binds md e || decide (e.on < i)) &&
  (List.range r).all (fun k => match ops[m + k]? with
    | none => false
    | some o => (List.range m).all (fun j => waitsFor md ops (m + r) (m + k) j) || o.after.any fun e => Region.binds md e && decide (m ≤ e.on))

theorem wpAny_more {P : Program} {md : Region.Mode} {ops : Array Oper} {Q : Exit → Act → World → Prop} : ∀ (fuel : Nat) (listed : Array Bool) (a : Act) (w : World), wpAny P md ops Q fuel listed a w → wpAny P md ops Q (fuel + 1) listed a w := by
  intro fuel
  induction fuel with
  | zero => intro listed a w h; exact ⟨fun _ => h.2, fun i hi => by rw [h.1] at hi; cases hi⟩
  | succ fuel ih => intro listed a w h; exact ⟨h.1, fun i hi => wpOp_mono (fun a' w' h' => ih _ a' w' h') (h.2 i hi)⟩

theorem wpAny_more2 {P : Program} {md : Region.Mode} {ops : Array Oper} {Q : Exit → Act → World → Prop} (k fuel : Nat) (listed : Array Bool) (a : Act) (w : World) (h : wpAny P md ops Q fuel listed a w) : wpAny P md ops Q (k + fuel) listed a w := by
  induction k with
  | zero => rw [Nat.zero_add]; exact h
  | succ k ih => rw [Nat.add_right_comm]; exact wpAny_more _ _ _ _ ih

theorem wp_head {P : Program} {o : Oper} {a : Act} {w : World} {K : Act → World → Prop} {Q Q' : Exit → Act → World → Prop} (h : ∀ e a w, e ≠ .normal → Q e a w → Q' e a w) (hh : o.wp P a w K Q) : o.wp P a w K Q' := by
  have hl : LetsOut Q → LetsOut Q' := fun ⟨a, w, hx⟩ => ⟨a, w, h _ _ _ (by simp) hx⟩
  unfold Oper.wp at *
  generalize (execOp a.eval o).run P w = r at *
  cases r with
  | ok n w' =>
    cases n <;> simp only [Oper.upon] at hh ⊢ <;>
      first
        | exact hh
        | exact Calls.mono hh (fun e w'' he => by cases e <;> first | exact he | exact hl he | exact h _ _ _ (by simp) he)
  | halt x w' => cases x <;> simp only [Oper.upon] at hh ⊢ <;> first | exact hh | exact h _ _ _ (by simp) hh

theorem getD_app {l : Array Bool} {r j : Nat} {d : Bool} : (l ++ Array.replicate r false).getD j d = if j < l.size then l.getD j d else if j < l.size + r then false else d := by
  simp only [Array.getD_eq_getD_getElem?, Array.getElem?_append]
  split
  · rfl
  · simp only [Array.getElem?_replicate]
    split <;> split <;> first | rfl | omega

theorem wpAny_split {P : Program} {md : Region.Mode} {ops ops1 : Array Oper} {Q : Exit → Act → World → Prop} (m r : Nat) (h1 : ops1 = ops.extract 0 m) (hc : cutsAt md ops m r = true) :
    ∀ (fuel : Nat) (l : Array Bool) (a : Act) (w : World), l.size = m → Closed md ops (l ++ Array.replicate r false) → wpAny P md ops1 (headPost P md ops Q m r) fuel l a w → wpAny P md ops Q (fuel + r) (l ++ Array.replicate r false) a w := by
  unfold cutsAt at hc
  simp only [Bool.and_eq_true, beq_iff_eq, List.all_eq_true, List.mem_range] at hc
  obtain ⟨⟨hn, hA⟩, hB⟩ := hc
  have hop : ∀ i, i < m → ops1[i]? = ops[i]? := by
    intro i hi
    rw [h1, Array.getElem?_extract]
    simp only [Nat.sub_zero, Nat.zero_add]
    rw [if_pos (by omega)]
  have hs1 : ops1.size = m := by rw [h1, Array.size_extract]; omega
  have hA2 : ∀ i, i < m → ∃ o, ops[i]? = some o ∧ o.guard = none ∧ ∀ e ∈ o.after, Region.binds md e = true → e.on < i := by
    intro i hi
    have := hA i hi
    revert this
    cases ops[i]? with
    | none => intro h; cases h
    | some o =>
      intro h
      simp only [Bool.and_eq_true, Option.isNone_iff_eq_none, Array.all_eq_true_iff_forall_mem, Bool.or_eq_true, Bool.not_eq_true', decide_eq_true_eq] at h
      exact ⟨o, rfl, h.1, fun e he hb => (h.2 e he).resolve_left (by simp [hb])⟩
  have hB2 : ∀ k, k < r → ∃ o, ops[m + k]? = some o ∧ ((∀ j, j < m → waitsFor md ops (m + r) (m + k) j = true) ∨ ∃ e ∈ o.after, Region.binds md e = true ∧ m ≤ e.on) := by
    intro k hk
    have := hB k hk
    revert this
    cases ops[m + k]? with
    | none => intro h; cases h
    | some o =>
      intro h
      simp only [Bool.or_eq_true, List.all_eq_true, List.mem_range, Array.any_eq_true', Bool.and_eq_true, decide_eq_true_eq] at h
      exact ⟨o, rfl, h⟩
  -- all of the first part have come up, where none of it may
  have hall : ∀ l : Array Bool, l.size = m → Region.ready md ops1 l = [] → l = Array.replicate m true := by
    intro l hl hr
    have key : ∀ n i, i < n → i < m → l.getD i true = true := by
      intro n
      induction n with
      | zero => intro i hi; omega
      | succ n ih =>
        intro i hi hm
        rcases hb : l.getD i true with _ | _
        · exfalso
          obtain ⟨o, ho, _, hw⟩ := hA2 i hm
          have : i ∈ Region.ready md ops1 l := by
            refine mem_ready.2 ⟨hb, o, (hop i hm).trans ho, fun e he hbb => ?_⟩
            have hlt := hw e he hbb
            have := ih e.on (by omega) (by omega)
            simp only [Array.getD_eq_getD_getElem?] at this ⊢
            rw [Array.getElem?_eq_getElem (by omega)] at this ⊢
            exact this
          rw [hr] at this
          cases this
        · rfl
    refine Array.ext (by simp [hl]) fun i h1 h2 => ?_
    have := key (i + 1) i (by omega) (by omega)
    simpa [Array.getD_eq_getD_getElem?, Array.getElem?_eq_getElem h1] using this
  intro fuel
  induction fuel with
  | zero =>
    intro l a w hl _ h
    have e := hall l hl h.1
    subst e
    rw [Nat.zero_add]
    exact h.2
  | succ fuel ih =>
    intro l a w hl hcl h
    by_cases hr : Region.ready md ops1 l = []
    · have e := hall l hl hr
      have := h.1 hr
      subst e
      exact wpAny_more2 _ _ _ _ _ this
    · have hin : ∀ i, i ∈ Region.ready md ops1 l → i ∈ Region.ready md ops (l ++ Array.replicate r false) := by
        intro i hi
        obtain ⟨h0, o, ho, hw⟩ := mem_ready.1 hi
        have him : i < m := by rw [← hs1]; exact (Array.getElem?_eq_some_iff.1 ho).1
        refine mem_ready.2 ⟨by rw [getD_app, if_pos (by omega)]; exact h0, o, (hop i him).symm.trans ho, fun e he hb => ?_⟩
        obtain ⟨o', ho', _, hw'⟩ := hA2 i him
        obtain rfl : o' = o := Option.some.inj (ho'.symm.trans ((hop i him).symm.trans ho))
        have := hw' e he hb
        rw [getD_app, if_pos (by omega)]
        exact hw e he hb
      obtain ⟨i0, hi0⟩ := List.exists_mem_of_ne_nil _ hr
      have hi0m : i0 < m ∧ l.getD i0 true = false := by
        obtain ⟨h0, o, ho, _⟩ := mem_ready.1 hi0
        exact ⟨by rw [← hs1]; exact (Array.getElem?_eq_some_iff.1 ho).1, h0⟩
      rw [Nat.add_right_comm]
      refine ⟨fun h0 => ?_, fun i hi => ?_⟩
      · have := hin i0 hi0
        rw [h0] at this
        cases this
      · obtain ⟨h0, o, ho, hw⟩ := mem_ready.1 hi
        have hilt : i < m + r := by rw [← hn]; exact (Array.getElem?_eq_some_iff.1 ho).1
        have him : i < m := by
          rcases Nat.lt_or_ge i m with h' | h'
          · exact h'
          · exfalso
            obtain ⟨o', ho', hx⟩ := hB2 (i - m) (by omega)
            rw [show m + (i - m) = i by omega, ho] at ho'
            obtain rfl := Option.some.inj ho'
            rcases hx with hx | ⟨e, he, hb, hme⟩
            · have := waitsFor_listed hcl i0 (m + r) i o ho hw (by have := hx i0 hi0m.1; rwa [show m + (i - m) = i by omega] at this)
              rw [getD_app, if_pos (by omega)] at this
              have h2 := hi0m.2
              simp only [Array.getD_eq_getD_getElem?] at this h2
              rw [Array.getElem?_eq_getElem (by omega)] at this h2
              simp at this h2
              rw [h2] at this
              cases this
            · have := hw e he hb
              rw [getD_app, if_neg (by omega)] at this
              split at this <;> cases this
        obtain ⟨o', ho', hg, hw'⟩ := hA2 i him
        obtain rfl : o' = o := Option.some.inj (ho'.symm.trans ho)
        have hi1 : i ∈ Region.ready md ops1 l := by
          refine mem_ready.2 ⟨by rw [getD_app, if_pos (by omega)] at h0; exact h0, o', (hop i him).trans ho, fun e he hb => ?_⟩
          have := hw e he hb
          have hlt := hw' e he hb
          rw [getD_app, if_pos (by omega)] at this
          exact this
        have hst := h.2 i hi1
        have hse : (l ++ Array.replicate r false).setIfInBounds i true = l.setIfInBounds i true ++ Array.replicate r false := by
          rw [Array.setIfInBounds_append_left]; omega
        have hcl2 : Closed md ops (l.setIfInBounds i true ++ Array.replicate r false) := by
          rw [← hse]
          intro j oj hj hoj e he hb
          have hup : (l ++ Array.replicate r false).getD e.on false = true → ((l ++ Array.replicate r false).setIfInBounds i true).getD e.on false = true := by
            intro hx
            by_cases hie : i = e.on
            · rw [← hie]
              simp [hl]; omega
            · rw [getD_set_ne false hie]; exact hx
          refine hup ?_
          by_cases hij : i = j
          · subst hij
            obtain rfl := Option.some.inj (hoj.symm.trans ho)
            exact hw e he hb
          · rw [getD_set_ne false hij] at hj
            exact hcl j oj hj hoj e he hb
        have hst2 := wpOp_mono (fun a' w' h' => ih (l.setIfInBounds i true) a' w' (by simp [hl]) hcl2 h') hst
        rw [hse]
        unfold wpOp at hst2 ⊢
        rw [hop i him, ho] at hst2
        rw [ho]
        simp only [Region.wanted, hg, if_true] at hst2 ⊢
        refine hst2.imp (wp_head ?_) (fun ⟨x, a, w, hx⟩ => ⟨x, a, w, hx⟩)
        intro e a w hne hx
        cases e <;> first | exact absurd rfl hne | exact hx

/-- A region that draws, in two parts: the first by itself; the rest from where it ends. -/
theorem wp_region_split {P : Program} {id : Nat} {ops : Array Oper} {Q : Exit → Act → World → Prop} {a : Act} {w : World} (hm : P.follows .mixedOrders = true) (S : World → Prop) (m r : Nat) (ops1 : Array Oper) (h1 : ops1 = ops.extract 0 m) (hc : cutsAt .any ops m r = true)
    (h : wpAnyH P .any ops1 (headPost P .any ops Q m r) S m (Array.replicate m false) a w.drew) : (Code.region id ops true).wp P Q a w := by
  have hn : ops.size = m + r := by
    unfold cutsAt at hc
    simp only [Bool.and_eq_true, beq_iff_eq] at hc
    exact hc.1.1
  refine wp_region_any hm ?_
  have := wpAny_split m r h1 hc m (Array.replicate m false) a w.drew (by simp) (by intro i o hi; exfalso; rw [getD_app] at hi; revert hi; simp only [Array.size_replicate, Array.getD_eq_getD_getElem?, Array.getElem?_replicate]; split <;> simp_all) (wpAny_of_held _ _ _ _ h)
  rw [hn, show Array.replicate (m + r) false = Array.replicate m false ++ Array.replicate r false by simp]
  exact this

/-- Whether the rest comes up in one way alone. -/
def chainFrom (md : Region.Mode) (ops : Array Oper) : Nat → Nat → Array Bool → Bool
  | 0, _, L => (Region.ready md ops L).isEmpty
  | n + 1, i, L => Region.ready md ops L == [i] && chainFrom md ops n (i + 1) (L.setIfInBounds i true)

theorem wpAny_chain {P : Program} {md : Region.Mode} {ops : Array Oper} {Q : Exit → Act → World → Prop} : ∀ (n i : Nat) (L : Array Bool) (a : Act) (w : World), chainFrom md ops n i L = true → wpOps P ops Q (List.range' i n) a w → wpAny P md ops Q n L a w := by
  intro n
  induction n with
  | zero =>
    intro i L a w hc h
    exact ⟨by simpa [chainFrom] using hc, by simpa [wpOps] using h⟩
  | succ n ih =>
    intro i L a w hc h
    simp only [chainFrom, Bool.and_eq_true, beq_iff_eq] at hc
    rw [List.range'_succ, wpOps_cons] at h
    refine ⟨fun h0 => (by rw [hc.1] at h0; cases h0), fun j hj => ?_⟩
    rw [hc.1, List.mem_singleton] at hj
    subst hj
    exact wpOp_mono (fun a' w' h' => ih _ _ a' w' hc.2 h') h

/-- The rest, where it comes up in one way alone. -/
theorem headPost_rest {P : Program} {md : Region.Mode} {ops : Array Oper} {Q : Exit → Act → World → Prop} {m r : Nat} {a : Act} {w : World} (l : List Oper) (hl : l = ops.toList.drop m) (hr : l.length = r) (hc : chainFrom md ops r m (Array.replicate m true ++ Array.replicate r false) = true) (h : wpList P ops Q l a w) : headPost P md ops Q m r .normal a w := by
  refine wpAny_chain r m _ a w hc ?_
  rw [← hr, wpOps_eq_wpList l m fun j => by rw [hl, List.getElem?_drop]; simp]
  exact h

theorem wpList_post {P : Program} {ops : Array Oper} {Q Q' : Exit → Act → World → Prop} (h : ∀ e a w, Q e a w → Q' e a w) : ∀ (l : List Oper) (a : Act) (w : World), wpList P ops Q l a w → wpList P ops Q' l a w := by
  intro l
  induction l with
  | nil => intro a w hh; exact h _ _ _ hh
  | cons o l ih =>
    intro a w hh
    unfold wpList at hh ⊢
    split at hh
    · rw [if_pos (by assumption)]
      exact hh.imp (fun hx => wp_head (fun e a w _ hy => h e a w hy) (Oper.wp_mono (fun a w hz => ih a w hz) hx)) (fun ⟨hx, a, w, hy⟩ => ⟨hx, a, w, h _ _ _ hy⟩)
    · rw [if_neg (by assumption)]
      exact ih _ _ hh

/-- A post of the normal end alone. -/
def atEnd (R : Act → World → Prop) : Exit → Act → World → Prop
  | .normal, a, w => R a w
  | _, _, _ => False

/-- The rest in one way alone, and what is known behind it. -/
theorem headPost_end {P : Program} {md : Region.Mode} {ops : Array Oper} {Q : Exit → Act → World → Prop} {m r : Nat} {a : Act} {w : World} (l : List Oper) (hl : l = ops.toList.drop m) (hr : l.length = r) (hc : chainFrom md ops r m (Array.replicate m true ++ Array.replicate r false) = true) (A : Act) (R : World → Prop)
    (h : wpList P ops (atEnd fun a' w' => a' = A ∧ R w') l a w) (hR : ∀ w', R w' → Q .normal A w') : headPost P md ops Q m r .normal a w := by
  refine headPost_rest l hl hr hc (wpList_post ?_ l a w h)
  intro e a w hx
  cases e <;> first | exact hx.elim | (obtain ⟨rfl, hx⟩ := hx; exact hR _ hx)

end Go.Proofs.YtcgpgnajmfemhaaGreatDoor

namespace Go.Proofs.YtcgpgnajmfemhaaGreatDoor.Vf
open Go.RowKit

theorem ep64 : epochsV 3 3 2 4 30 1 3 = 8 := by decide

/-- A block that stays. -/
def BK (w : World) (b : Nat) (o : Obj) : Prop := w.heap[b]? = some o
theorem BK.out {w : World} {b : Nat} {o : Obj} (h : BK w b o) : w.heap[b]? = some o := h
theorem BK.later {w w' : World} {b : Nat} {o : Obj} (h : BK w b o) (hb : Below w.heap.size w w') : BK w' b o := (hb.block b (Array.getElem?_eq_some_iff.1 h).1).trans h
theorem BK.lt {w : World} {b : Nat} {o : Obj} (h : BK w b o) : b < w.heap.size := (Array.getElem?_eq_some_iff.1 h).1

theorem ba_one {id key : List UInt8} {w : World} {bl : Nat} {pi pk : Option Addr} {ci ck : Nat} (hL : BK w bl (.cells #[.slice pi id.length ci, .slice pk key.length ck] 90 (0, 0))) (hI : HB w (.slice pi id.length ci) id) (hK : HB w (.slice pk key.length ck) key) : BA w (.slice (some ⟨bl, 0, none⟩) 1 1) [(id, key)] := by
  refine ⟨_, 1, rfl, Nat.le_refl _, by decide, fun _ => ⟨bl, 0, rfl, fun k x hx => ?_⟩⟩
  obtain rfl : k = 0 := by
    have := (List.getElem?_eq_some_iff.1 hx).1
    simp at this
    exact this
  simp at hx
  subst hx
  exact ⟨pi, ci, pk, ck, by rw [cell_of_row _ _ _ _ _ _ hL]; rfl, by rw [cell_of_row _ _ _ _ _ _ hL]; rfl, hI, hK⟩

theorem BK.ne {w : World} {a b : Nat} {c1 c2 : Array Value} {t1 t2 : TypeId} {f1 f2 : Nat × Nat} (h1 : BK w a (.cells c1 t1 f1)) (h2 : BK w b (.cells c2 t2 f2)) (ht : t1 ≠ t2) : a ≠ b := by
  rintro rfl
  unfold BK at h1 h2
  rw [h1] at h2
  simp only [Option.some.injEq, Obj.cells.injEq] at h2
  exact ht h2.2.1

theorem BK.tk {T : TypeId} {w w' : World} {b : Nat} {c : Array Value} {t : TypeId} {f : Nat × Nat} (h : BK w b (.cells c t f)) (k : TK T w w') (ht : t ≠ T) : BK w' b (.cells c t f) := k _ _ _ _ h ht

theorem HT.tk {T : TypeId} {w w' : World} {v : Value} {l : List UInt8} (h : HT w v l) (k : TK T w w') (ht : 5 ≠ T) : HT w' v l := by
  have key : ∀ b o m d, v = .slice (some ⟨b, o, none⟩) m d → w'.heap[b]? = w.heap[b]? := by
    intro b o m d e
    obtain ⟨cur, fr, hb⟩ := h.2 b o m d e
    exact (k _ _ _ _ hb ht).trans hb.symm
  refine ⟨?_, ?_⟩
  · obtain ⟨p', cap, e0, h1, h2, h3, h4⟩ := h.1
    refine ⟨p', cap, e0, h1, h2, h3, fun hne => ?_⟩
    obtain ⟨b, o, hp, hc⟩ := h4 hne
    subst hp
    refine ⟨b, o, rfl, fun i x hx => ?_⟩
    rw [World.cell?_of_block (w := w) (key _ _ _ _ e0)]
    exact hc i x hx
  · intro b o m d e
    obtain ⟨cur, fr, hb⟩ := h.2 b o m d e
    exact ⟨cur, fr, (key _ _ _ _ e).trans hb⟩

theorem NB.tk {T : TypeId} {w w' : World} {b : Nat} {x : NodeS} (h : NB w b x) (k : TK T w w') (h1 : 228 ≠ T) (h2 : 5 ≠ T) : NB w' b x := by
  obtain ⟨vi, vk, vp, vh, h0, a1, a2, a3, a4⟩ := h
  exact ⟨vi, vk, vp, vh, k _ _ _ _ h0 h1, a1.tk k h2, a2.tk k h2, a3.tk k h2, a4.tk k h2⟩

theorem owns_tk2 {T e : TypeId} {w w' : World} {base n : Nat} {v : Value} {xs : List Value} (h : w.ownsRow base e 2 v n xs) (t : TK T w w') (hT : e ≠ T) : w'.ownsRow base e 2 v n xs := by
  refine ⟨h.1, ?_⟩
  rcases h.2 with hn | ⟨g, cap, cur, rfl, hbg, hg, rest⟩
  · exact .inl hn
  · exact .inr ⟨g, cap, cur, rfl, hbg, t _ _ _ _ hg hT, rest⟩

theorem leaf_n (id key : List UInt8) (h1 : id.length ≤ 255) (h2 : key.length ≤ 65535) : (leafS 3 id key 1).hash.length = 3 := by
  have h8 : (numB 1).length = 8 := be64_length _
  show (hashF 3 1 [id, key, numB 1]).length = 3
  unfold hashF
  rw [if_pos]
  · rw [List.length_take, sha_length]
    decide
  · intro p hp
    simp only [List.mem_cons, List.not_mem_nil, or_false] at hp
    rcases hp with rfl | rfl | rfl
    · omega
    · omega
    · omega

theorem sty_onlyT {T T' : TypeId} {g : Nat} {w w' : World} {cs : Array Value} {f : Nat × Nat} (ho : Only g w w') (hg : w.heap[g]? = some (.cells cs T' f)) (hT : T' ≠ T) : Sty T w w' := by
  intro k cur fr hk
  refine (ho.block k ?_ (Array.getElem?_eq_some_iff.1 hk).1).trans hk
  rintro rfl
  rw [hg] at hk
  simp only [Option.some.injEq, Obj.cells.injEq] at hk
  exact hT hk.2.1

theorem sty_tk {T T' : TypeId} {w w' : World} (h : TK T' w w') (hT : T' ≠ T) : Sty T w w' := fun k _ _ hk => h k _ _ _ hk hT.symm

theorem i_bindsN : (Tryz.prog.info? 22).map (fun i => (i.zero, i.size, i.bytes)) = some (some (.slice none 0 0), 1, 24) := by kernel_rfl
theorem i_treeN : (Tryz.prog.info? 146).map (fun i => (i.zero, i.size, i.bytes)) = some (some (.agg #[.int .i64 0, .int .i64 0]), 2, 16) := by kernel_rfl

set_option maxRecDepth 100000 in
set_option maxHeartbeats 4000000 in
theorem sgrow_firstK {id key : List UInt8} {pk : Option Addr} {ck : Nat} {w : World} {base g ga b1 b2 bl : Nat} {pi : Option Addr} {ci : Nat} (H : SN w g 3 3 2 4 30 2400 1 3 ga (.slice (some ⟨b1, 0, none⟩) 1 1) (.slice (some ⟨b2, 0, none⟩) 1 1) (.slice none 0 0))
    (hB1 : BK w b1 (.cells #[.slice none 0 0] 22 (0, 0))) (hB2 : BK w b2 (.cells #[.int .i64 0, .int .i64 (-1)] 146 (0, 0))) (hA : AG w ga 3 2400 none 0 0)
    (hL : BK w bl (.cells #[.slice pi id.length ci, .slice pk key.length ck] 90 (0, 0))) (hI : HB w (.slice pi id.length ci) id) (hK : HB w (.slice pk key.length ck) key) (h255 : id.length ≤ 255) (hkl : key.length ≤ 65535) (hck : ChkIs 2 4 [(id, key)] 0) (hpa : ∀ a n c, Value.slice pi id.length ci = .slice (some a) n c → a.block ≠ ga) (hpk : ∀ a n c, Value.slice pk key.length ck = .slice (some a) n c → a.block ≠ ga) (hT : Tabs w) (q1 : base ≤ g) (q2 : base ≤ ga) (q3 : base ≤ b1) (q4 : base ≤ b2) :
    Calls Tryz.prog 88 #[.pointer (some ⟨g, 0, none⟩), .slice (some ⟨bl, 0, none⟩) 1 1] w fun e w' => ∃ p c pb cb pr cr, e = .returned (.tuple #[.slice p 3 c, .int .i64 0]) ∧ SN w' g 3 3 2 4 30 2400 1 3 ga (.slice pb 2 cb) (.slice pr 2 cr) (.slice none 0 0) ∧ w'.ownsRow base 146 2 (.slice pr 2 cr) 2 [.int .i64 0, .int .i64 (-1), .int .i64 1, .int .i64 0] ∧ Below base w w' ∧ ∀ T, 134 ≠ T → 22 ≠ T → 128 ≠ T → 146 ≠ T → Sty T w w' := by
  have hM := smiss_no H
  have hS := ssweep_new g ga b1 b2 3 3 2 4 30 2400 1 3 w H hB2 hA (by decide)
  have hBA := ba_one hL hI hK
  go_enter Tryz.func88, Tryz.ntmps88
  go_wp2_with fail
  refine hM.mono ?_
  rintro x w0 ⟨rfl, hw⟩
  subst hw
  clear hM
  go_wp2_with fail
  refine hS.mono ?_
  rintro x w1 ⟨rfl, k1⟩
  have H1 := H.later k1
  obtain ⟨⟨c0, c1, c2, c3, c4, c5, c6, c7⟩, _, _, _, _⟩ := H1.cells
  have hC := check_any 3 3 2 4 30 2400 1 3 _ _ w1 (hBA.later k1)
  clear hS
  go_wp2_with fail
  refine hC.mono ?_
  rintro x w2 ⟨e, rfl, hce, k2⟩
  obtain rfl := chk_one hce hck
  have K2 := k1.trans (k2.mono k1.size)
  have H2 := H1.later k2
  have hLa := slast_ok H2 (Nat.le_refl _) (by decide)
  clear hC hce hck c0 c1 c2 c3 c4 c5 c6 c7 H1
  go_wp2_with fail
  refine hLa.mono ?_
  rintro x w3 ⟨rfl, hw⟩
  subst hw
  clear hLa
  go_wp2_with fail
  obtain ⟨W7, hW7⟩ : ∃ W7, W7 = w3.drew := ⟨_, rfl⟩
  have k7 : Below w0.heap.size w0 W7 := by rw [hW7]; exact K2.drew
  have H7 := H.later k7
  have hB1d := hB1.later k7
  have hHeld := H7.cells.1
  have wr1 : IntKind.i64.wrap 1 = 1 := by decide
  have wr0 : IntKind.i64.wrap 0 = 0 := by decide
  refine wp_region_heldN (by kernel_rfl) (fun W => W.cell? ⟨g, 0, none⟩ = some (.int .i64 3) ∧ W.cell? ⟨g, 1, none⟩ = some (.int .i64 3) ∧ W.cell? ⟨g, 2, none⟩ = some (.int .i64 2) ∧ W.cell? ⟨g, 3, none⟩ = some (.int .i64 4) ∧ W.cell? ⟨g, 4, none⟩ = some (.int .i64 30) ∧ W.cell? ⟨g, 5, none⟩ = some (.int .i64 2400) ∧ W.cell? ⟨g, 6, none⟩ = some (.int .i64 1) ∧ W.cell? ⟨g, 7, none⟩ = some (.int .i64 3)) 20 rfl ?_
  rw [← hW7]
  clear hW7
  refine tkY 0 ⟨some 27, .move (.tmp 7), 3, "snaps.go:74", #[], none⟩ ?v0z1 hHeld ?y0z1 ?r0z1
  case y0z1 => (intro w hSw; (try dsimp only at hSw); go_simp) <;> with_reducible rfl
  try simp only [Act.put, List.setIfInBounds_toArray, List.set_cons_zero, List.set_cons_succ]
  refine tkY 1 ⟨some 28, .move (.tmp 0), 28, "snaps.go:74", #[], none⟩ ?v1z2 hHeld ?y1z2 ?r1z2
  case y1z2 => (intro w hSw; (try dsimp only at hSw); go_simp) <;> with_reducible rfl
  try simp only [Act.put, List.setIfInBounds_toArray, List.set_cons_zero, List.set_cons_succ]
  refine tkY 2 ⟨some 29, .nilCheck (.tmp 28), 0, "snaps.go:74", #[⟨1, .data⟩], none⟩ ?v2z3 hHeld ?y2z3 ?r2z3
  case y2z3 => (intro w hSw; (try dsimp only at hSw); go_simp) <;> with_reducible rfl
  try simp only [Act.put, List.setIfInBounds_toArray, List.set_cons_zero, List.set_cons_succ]
  refine tkY 3 ⟨some 30, .fieldAddr 128 (.tmp 29) 0, 0, "snaps.go:74", #[⟨2, .data⟩], none⟩ ?v3z4 hHeld ?y3z4 ?r3z4
  case y3z4 => (intro w hSw; (try dsimp only at hSw); go_simp) <;> with_reducible rfl
  try simp only [Act.put, List.setIfInBounds_toArray, List.set_cons_zero, List.set_cons_succ]
  refine tkY 4 ⟨some 31, .load 25 (.tmp 30), 25, "snaps.go:74", #[⟨3, .data⟩], none⟩ ?v4z5 hHeld ?y4z5 ?r4z5
  case y4z5 => (intro w hSw; (try dsimp only at hSw); go_simp) <;> with_reducible rfl
  try simp only [Act.put, List.setIfInBounds_toArray, List.set_cons_zero, List.set_cons_succ]
  refine wpAnyH_ready (rs := [5]) (by kernel_rfl) (by simp) ?_
  refine AllReadyH.cons (o := ⟨some 32, .call { callee := .value (.func 80), args := #[.tmp 31], argTypes := #[25] }, 3, "snaps.go:74", #[⟨4, .data⟩], none⟩) rfl (fun K hK => ?_) AllReadyH.nil
  go_simp
  refine (epochs_any 3 3 2 4 30 2400 1 3 _).mono ?_
  rintro e1 w8 ⟨rfl, b8⟩
  rw [ep64]
  have H8 := H7.later b8
  have hb8 := hB1d.later b8
  replace hHeld := H8.cells.1
  refine hK.out _ _ ?_ (fun _ => ?_)
  · exact hHeld
  clear hK K
  try simp only [Act.put, List.setIfInBounds_toArray, List.set_cons_zero, List.set_cons_succ]
  refine tkY 6 ⟨some 33, .binOp .geq 3 (.tmp 27) (.tmp 32) 3, 4, "snaps.go:74", #[⟨0, .data⟩, ⟨5, .data⟩], none⟩ ?v6z6 hHeld ?y6z6 ?r6z6
  case y6z6 => (intro w hSw; (try dsimp only at hSw); go_simp) <;> with_reducible rfl
  try simp only [Act.put, List.setIfInBounds_toArray, List.set_cons_zero, List.set_cons_succ]
  refine tkY 7 ⟨some 34, .move (.tmp 33), 4, "snaps.go:74", #[⟨6, .data⟩, ⟨5, .chain⟩], none⟩ ?v7z7 hHeld ?y7z7 ?r7z7
  case y7z7 => (intro w hSw; (try dsimp only at hSw); go_simp) <;> with_reducible rfl
  try simp only [Act.put, List.setIfInBounds_toArray, List.set_cons_zero, List.set_cons_succ]
  refine tkY 8 ⟨some 35, .move (.tmp 0), 28, "snaps.go:74", #[⟨7, .guard⟩], some (7, false)⟩ ?v8z8 hHeld ?y8z8 ?r8z8
  case y8z8 => (intro w hSw; (try dsimp only at hSw); go_simp) <;> with_reducible rfl
  try simp only [Act.put, List.setIfInBounds_toArray, List.set_cons_zero, List.set_cons_succ]
  refine tkY 10 ⟨some 37, .move (.tmp 1), 22, "snaps.go:74", #[⟨7, .guard⟩], some (7, false)⟩ ?v10z9 hHeld ?y10z9 ?r10z9
  case y10z9 => (intro w hSw; (try dsimp only at hSw); go_simp) <;> with_reducible rfl
  try simp only [Act.put, List.setIfInBounds_toArray, List.set_cons_zero, List.set_cons_succ]
  refine tkY 11 ⟨some 38, .call { callee := .builtin .len, args := #[.tmp 37], argTypes := #[22] }, 3, "snaps.go:74", #[⟨10, .data⟩, ⟨7, .guard⟩], some (7, false)⟩ ?v11z10 hHeld ?y11z10 ?r11z10
  case y11z10 => (intro w hSw; (try dsimp only at hSw); go_simp) <;> with_reducible rfl
  try simp only [Act.put, List.setIfInBounds_toArray, List.set_cons_zero, List.set_cons_succ]
  refine tkY 13 ⟨some 40, .move (.tmp 0), 28, "snaps.go:74", #[⟨7, .guard⟩], some (7, false)⟩ ?v13z11 hHeld ?y13z11 ?r13z11
  case y13z11 => (intro w hSw; (try dsimp only at hSw); go_simp) <;> with_reducible rfl
  try simp only [Act.put, List.setIfInBounds_toArray, List.set_cons_zero, List.set_cons_succ]
  refine tkY 14 ⟨some 41, .nilCheck (.tmp 40), 0, "snaps.go:74", #[⟨13, .data⟩, ⟨7, .guard⟩], some (7, false)⟩ ?v14z12 hHeld ?y14z12 ?r14z12
  case y14z12 => (intro w hSw; (try dsimp only at hSw); go_simp) <;> with_reducible rfl
  try simp only [Act.put, List.setIfInBounds_toArray, List.set_cons_zero, List.set_cons_succ]
  refine tkY 15 ⟨some 42, .fieldAddr 128 (.tmp 41) 0, 0, "snaps.go:74", #[⟨14, .data⟩, ⟨7, .guard⟩], some (7, false)⟩ ?v15z13 hHeld ?y15z13 ?r15z13
  case y15z13 => (intro w hSw; (try dsimp only at hSw); go_simp) <;> with_reducible rfl
  try simp only [Act.put, List.setIfInBounds_toArray, List.set_cons_zero, List.set_cons_succ]
  refine tkY 16 ⟨some 43, .fieldAddr 25 (.tmp 42) 4, 0, "snaps.go:74", #[⟨15, .data⟩, ⟨7, .guard⟩], some (7, false)⟩ ?v16z14 hHeld ?y16z14 ?r16z14
  case y16z14 => (intro w hSw; (try dsimp only at hSw); go_simp) <;> with_reducible rfl
  try simp only [Act.put, List.setIfInBounds_toArray, List.set_cons_zero, List.set_cons_succ]
  refine tkY 17 ⟨some 44, .load 3 (.tmp 43), 3, "snaps.go:74", #[⟨16, .data⟩, ⟨7, .guard⟩], some (7, false)⟩ ?v17z15 hHeld ?y17z15 ?r17z15
  case y17z15 => (intro w hSw; (try dsimp only at hSw); go_simp) <;> with_reducible rfl
  try simp only [Act.put, List.setIfInBounds_toArray, List.set_cons_zero, List.set_cons_succ]
  refine wpAnyH_ready (rs := [9]) (by kernel_rfl) (by simp) ?_
  refine AllReadyH.cons (o := ⟨some 36, .call { callee := .value (.func 134), args := #[.tmp 35], argTypes := #[28] }, 3, "snaps.go:74", #[⟨8, .data⟩, ⟨7, .chain⟩, ⟨7, .guard⟩], some (7, false)⟩) rfl (fun K hK => ?_) AllReadyH.nil
  go_simp
  refine (schanges_new H8 hb8.out).mono ?_
  rintro e2 w9 ⟨rfl, hw9⟩
  subst hw9
  refine hK.out _ _ ?_ (fun _ => ?_)
  · exact hHeld
  clear hK K
  try simp only [Act.put, List.setIfInBounds_toArray, List.set_cons_zero, List.set_cons_succ]
  refine tkY 12 ⟨some 39, .binOp .add 3 (.tmp 36) (.tmp 38) 3, 3, "snaps.go:74", #[⟨9, .data⟩, ⟨11, .data⟩, ⟨7, .guard⟩], some (7, false)⟩ ?v12z16 hHeld ?y12z16 ?r12z16
  case y12z16 => (intro w hSw; (try dsimp only at hSw); go_simp) <;> with_reducible rfl
  try simp only [Act.put, List.setIfInBounds_toArray, List.set_cons_zero, List.set_cons_succ]
  refine tkY 18 ⟨some 45, .binOp .gtr 3 (.tmp 39) (.tmp 44) 3, 4, "snaps.go:74", #[⟨12, .data⟩, ⟨17, .data⟩, ⟨7, .guard⟩], some (7, false)⟩ ?v18z17 hHeld ?y18z17 ?r18z17
  case y18z17 => (intro w hSw; (try dsimp only at hSw); go_simp) <;> with_reducible rfl
  try simp only [Act.put, List.setIfInBounds_toArray, List.set_cons_zero, List.set_cons_succ]
  refine tkY 19 ⟨some 46, .pick (.tmp 34) (.const (.bool true)) (.tmp 45), 4, "snaps.go:74", #[⟨7, .data⟩, ⟨18, .data⟩], none⟩ ?v19z18 hHeld ?y19z18 ?r19z18
  case y19z18 => (intro w hSw; (try dsimp only at hSw); go_simp) <;> with_reducible rfl
  try simp only [Act.put, List.setIfInBounds_toArray, List.set_cons_zero, List.set_cons_succ]
  refine wpAnyH_done (by kernel_rfl) ?_ _
  have K9 := k7.trans (b8.mono k7.size)
  have H9 := H.later K9
  clear hHeld H8 H7 hb8 hB1d
  go_wp2_with fail
  obtain ⟨X9, hX9⟩ : ∃ X9, X9 = w9.drew := ⟨_, rfl⟩
  have kX : Below w0.heap.size w0 X9 := by rw [hX9]; exact K9.drew
  have HX := H.later kX
  have hB2x := hB2.later kX
  have hHeld : X9.cell? ⟨g, 10, none⟩ = some (.slice (some ⟨b2, 0, none⟩) 1 1) ∧ X9.cell? ⟨b2, 0, none⟩ = some (.int .i64 0) ∧ X9.cell? ⟨b2, 1, none⟩ = some (.int .i64 (-1)) := ⟨HX.cells.2.2.2.1, by rw [cell_of_row _ _ _ _ _ _ hB2x]; rfl, by rw [cell_of_row _ _ _ _ _ _ hB2x]; rfl⟩
  refine wp_region_split (by kernel_rfl) (fun W => W.cell? ⟨g, 10, none⟩ = some (.slice (some ⟨b2, 0, none⟩) 1 1) ∧ W.cell? ⟨b2, 0, none⟩ = some (.int .i64 0) ∧ W.cell? ⟨b2, 1, none⟩ = some (.int .i64 (-1))) 13 1 #[⟨some 47, .move (.tmp 0), 28, "snaps.go:77", #[], none⟩, ⟨some 48, .nilCheck (.tmp 47), 0, "snaps.go:77", #[⟨0, .data⟩], none⟩, ⟨some 49, .fieldAddr 128 (.tmp 48) 3, 0, "snaps.go:77", #[⟨1, .data⟩], none⟩, ⟨some 50, .load 126 (.tmp 49), 126, "snaps.go:77", #[⟨2, .data⟩], none⟩, ⟨some 51, .move (.tmp 0), 28, "snaps.go:77", #[], none⟩, ⟨some 52, .nilCheck (.tmp 51), 0, "snaps.go:77", #[⟨4, .data⟩], none⟩, ⟨some 53, .fieldAddr 128 (.tmp 52) 3, 0, "snaps.go:77", #[⟨5, .data⟩], none⟩, ⟨some 54, .load 126 (.tmp 53), 126, "snaps.go:77", #[⟨6, .data⟩], none⟩, ⟨some 55, .call { callee := .builtin .len, args := #[.tmp 54], argTypes := #[126] }, 3, "snaps.go:77", #[⟨7, .data⟩], none⟩, ⟨some 56, .binOp .sub 3 (.tmp 55) (.const (.int .i64 1)) 3, 3, "snaps.go:77", #[⟨8, .data⟩], none⟩, ⟨some 57, .indexAddr 126 (.tmp 50) (.tmp 56), 0, "snaps.go:77", #[⟨3, .data⟩, ⟨9, .data⟩], none⟩, ⟨some 58, .load 146 (.tmp 57), 146, "snaps.go:77", #[⟨10, .data⟩], none⟩, ⟨some 8, .alloc 146, 0, "snaps.go:77", #[], none⟩] (by kernel_rfl) (by kernel_rfl) ?_
  rw [← hX9]
  clear hX9
  refine tkY 0 ⟨some 47, .move (.tmp 0), 28, "snaps.go:77", #[], none⟩ ?v0z19 hHeld ?y0z19 ?r0z19
  case y0z19 => (intro w hSw; (try dsimp only at hSw); go_simp) <;> with_reducible rfl
  try simp only [Act.put, List.setIfInBounds_toArray, List.set_cons_zero, List.set_cons_succ]
  refine tkY 1 ⟨some 48, .nilCheck (.tmp 47), 0, "snaps.go:77", #[⟨0, .data⟩], none⟩ ?v1z20 hHeld ?y1z20 ?r1z20
  case y1z20 => (intro w hSw; (try dsimp only at hSw); go_simp) <;> with_reducible rfl
  try simp only [Act.put, List.setIfInBounds_toArray, List.set_cons_zero, List.set_cons_succ]
  refine tkY 2 ⟨some 49, .fieldAddr 128 (.tmp 48) 3, 0, "snaps.go:77", #[⟨1, .data⟩], none⟩ ?v2z21 hHeld ?y2z21 ?r2z21
  case y2z21 => (intro w hSw; (try dsimp only at hSw); go_simp) <;> with_reducible rfl
  try simp only [Act.put, List.setIfInBounds_toArray, List.set_cons_zero, List.set_cons_succ]
  refine tkY 3 ⟨some 50, .load 126 (.tmp 49), 126, "snaps.go:77", #[⟨2, .data⟩], none⟩ ?v3z22 hHeld ?y3z22 ?r3z22
  case y3z22 => (intro w hSw; (try dsimp only at hSw); go_simp) <;> with_reducible rfl
  try simp only [Act.put, List.setIfInBounds_toArray, List.set_cons_zero, List.set_cons_succ]
  refine tkY 4 ⟨some 51, .move (.tmp 0), 28, "snaps.go:77", #[], none⟩ ?v4z23 hHeld ?y4z23 ?r4z23
  case y4z23 => (intro w hSw; (try dsimp only at hSw); go_simp) <;> with_reducible rfl
  try simp only [Act.put, List.setIfInBounds_toArray, List.set_cons_zero, List.set_cons_succ]
  refine tkY 5 ⟨some 52, .nilCheck (.tmp 51), 0, "snaps.go:77", #[⟨4, .data⟩], none⟩ ?v5z24 hHeld ?y5z24 ?r5z24
  case y5z24 => (intro w hSw; (try dsimp only at hSw); go_simp) <;> with_reducible rfl
  try simp only [Act.put, List.setIfInBounds_toArray, List.set_cons_zero, List.set_cons_succ]
  refine tkY 6 ⟨some 53, .fieldAddr 128 (.tmp 52) 3, 0, "snaps.go:77", #[⟨5, .data⟩], none⟩ ?v6z25 hHeld ?y6z25 ?r6z25
  case y6z25 => (intro w hSw; (try dsimp only at hSw); go_simp) <;> with_reducible rfl
  try simp only [Act.put, List.setIfInBounds_toArray, List.set_cons_zero, List.set_cons_succ]
  refine tkY 7 ⟨some 54, .load 126 (.tmp 53), 126, "snaps.go:77", #[⟨6, .data⟩], none⟩ ?v7z26 hHeld ?y7z26 ?r7z26
  case y7z26 => (intro w hSw; (try dsimp only at hSw); go_simp) <;> with_reducible rfl
  try simp only [Act.put, List.setIfInBounds_toArray, List.set_cons_zero, List.set_cons_succ]
  refine tkY 8 ⟨some 55, .call { callee := .builtin .len, args := #[.tmp 54], argTypes := #[126] }, 3, "snaps.go:77", #[⟨7, .data⟩], none⟩ ?v8z27 hHeld ?y8z27 ?r8z27
  case y8z27 => (intro w hSw; (try dsimp only at hSw); go_simp) <;> with_reducible rfl
  try simp only [Act.put, List.setIfInBounds_toArray, List.set_cons_zero, List.set_cons_succ]
  refine tkY 9 ⟨some 56, .binOp .sub 3 (.tmp 55) (.const (.int .i64 1)) 3, 3, "snaps.go:77", #[⟨8, .data⟩], none⟩ ?v9z28 hHeld ?y9z28 ?r9z28
  case y9z28 => (intro w hSw; (try dsimp only at hSw); go_simp) <;> with_reducible rfl
  try simp only [Act.put, List.setIfInBounds_toArray, List.set_cons_zero, List.set_cons_succ]
  refine tkY 10 ⟨some 57, .indexAddr 126 (.tmp 50) (.tmp 56), 0, "snaps.go:77", #[⟨3, .data⟩, ⟨9, .data⟩], none⟩ ?v10z29 hHeld ?y10z29 ?r10z29
  case y10z29 => (intro w hSw; (try dsimp only at hSw); go_simp) <;> with_reducible rfl
  try simp only [Act.put, List.setIfInBounds_toArray, List.set_cons_zero, List.set_cons_succ]
  refine tkY 11 ⟨some 58, .load 146 (.tmp 57), 146, "snaps.go:77", #[⟨10, .data⟩], none⟩ ?v11z30 hHeld ?y11z30 ?r11z30
  case y11z30 => (intro w hSw; (try dsimp only at hSw); go_simp) <;> with_reducible rfl
  try simp only [Act.put, List.setIfInBounds_toArray, List.set_cons_zero, List.set_cons_succ]
  refine wpAnyH_ready (rs := [12]) (by kernel_rfl) (by simp) ?_
  refine AllReadyH.cons (o := ⟨some 8, .alloc 146, 0, "snaps.go:77", #[], none⟩) rfl (fun K hK => ?_) AllReadyH.nil
  go_simp
  have bB := (Below.refl X9.heap.size X9).alloc (Nat.le_refl _) (.cells #[.int .i64 0, .int .i64 0] 146)
  have gB := heap_alloc_new X9 (.cells #[.int .i64 0, .int .i64 0] 146)
  replace hHeld := (show _ ∧ _ ∧ _ from ⟨cell_later bB hHeld.1, cell_later bB hHeld.2.1, cell_later bB hHeld.2.2⟩)
  refine hK.out _ _ ?_ (fun _ => ?_)
  · exact hHeld
  clear hK K
  try simp only [Act.put, List.setIfInBounds_toArray, List.set_cons_zero, List.set_cons_succ]
  refine wpAnyH_done (by kernel_rfl) ?_ _
  refine headPost_rest [⟨none, .store 146 (.tmp 8) (.tmp 58), 0, "snaps.go:77", #[⟨12, .data⟩, ⟨11, .data⟩, ⟨0, .phase⟩, ⟨1, .phase⟩, ⟨2, .phase⟩, ⟨3, .phase⟩, ⟨4, .phase⟩, ⟨5, .phase⟩, ⟨6, .phase⟩, ⟨7, .phase⟩, ⟨8, .phase⟩, ⟨9, .phase⟩, ⟨10, .phase⟩, ⟨11, .phase⟩, ⟨12, .phase⟩], none⟩] (by kernel_rfl) rfl (by kernel_rfl) ?_
  clear hHeld
  go_wp2_with fail
  have bY := kX.alloc kX.size (.cells #[.int .i64 0, .int .i64 (-1)] 146)
  clear gB bB
  generalize X9.alloc (.cells #[.int .i64 0, .int .i64 (-1)] 146) = Y at *
  have HY := H.later bY
  have hAY := hA.later bY
  have hne : g ≠ ga := BK.ne (c1 := snC 3 3 2 4 30 2400 1 3 ga (.slice (some ⟨b1, 0, none⟩) 1 1) (.slice (some ⟨b2, 0, none⟩) 1 1) (.slice none 0 0)) (t1 := 128) (t2 := 134) (f1 := (0, 0)) H hA (by decide)
  have hne1 : b1 ≠ ga := BK.ne (t2 := 134) hB1 hA (by decide)
  have hne2 : b2 ≠ ga := BK.ne (t2 := 134) hB2 hA (by decide)
  have hnel : bl ≠ ga := BK.ne (t2 := 134) hL hA (by decide)
  have hP := sput_oneK HY hAY (by decide) (by decide) (by decide) hne (hL.later bY) (hI.later bY) (hK.later bY) h255 hkl (hT.later bY)
  refine hP.mono ?_
  rintro x w5 ⟨p', c', nb, rfl, A5, ow5, nb5, on5⟩
  have H5 : SN w5 g 3 3 2 4 30 2400 1 3 ga (.slice (some ⟨b1, 0, none⟩) 1 1) (.slice (some ⟨b2, 0, none⟩) 1 1) (.slice none 0 0) := (on5.block g hne HY.lt).trans HY
  have B15 : BK w5 b1 (.cells #[.slice none 0 0] 22 (0, 0)) := (on5.block b1 hne1 (hB1.later bY).lt).trans (hB1.later bY)
  have B25 : BK w5 b2 (.cells #[.int .i64 0, .int .i64 (-1)] 146 (0, 0)) := (on5.block b2 hne2 (hB2.later bY).lt).trans (hB2.later bY)
  have L5 : BK w5 bl (.cells #[.slice pi id.length ci, .slice pk key.length ck] 90 (0, 0)) := (on5.block bl hnel (hL.later bY).lt).trans (hL.later bY)
  have hBA5 := ba_one L5 ((hI.later bY).only hpa on5) ((hK.later bY).only hpk on5)
  have S5 : Hid (∀ T, 134 ≠ T → Sty T w0 w5) := fun T h => (Sty.of_below bY).trans (sty_onlyT on5 hAY h)
  have K5 : Below base w0 w5 := (bY.mono (by have := H.lt; omega)).trans (on5.below q2)
  clear hP HY hAY bY on5 L5 H9 K9 kX HX hB2x hne hne1 hne2 hnel k7 b8 K2 k1 k2 H2 hBA
  go_wp2_with fail
  obtain ⟨Z, hZ⟩ : ∃ Z, Z = w5.drew := ⟨_, rfl⟩
  have kZ : Below w5.heap.size w5 Z := by rw [hZ]; exact (Below.refl _ w5).drew
  have HZ := H5.later kZ
  have BZ1 := B15.later kZ
  have BZ2 := B25.later kZ
  have AZ := A5.later kZ
  have oZ := owns_later ow5 kZ
  have nZ := nb5.later kZ
  have hBAZ := hBA5.later kZ
  have SZ : Hid (∀ T, 134 ≠ T → Sty T w0 Z) := fun T h => (S5.out T h).trans (Sty.of_below kZ)
  have KZ : Below base w0 Z := K5.trans (kZ.mono (by have := H5.lt; omega))
  clear H5 B15 B25 A5 ow5 nb5 hBA5 K5 kZ S5
  obtain ⟨j0, hj, jz0, jz1, jz2⟩ := info_parts i_bindsN
  obtain ⟨l0, hl, lz0, lz1, lz2⟩ := info_parts i_treeN
  have hHeld : Z.cell? ⟨g, 9, none⟩ = some (.slice (some ⟨b1, 0, none⟩) 1 1) := HZ.cells.2.2.1
  refine wp_region_split (by kernel_rfl) (fun W => W.cell? ⟨g, 9, none⟩ = some (.slice (some ⟨b1, 0, none⟩) 1 1)) 9 3 #[⟨some 71, .move (.tmp 0), 28, "snaps.go:82", #[], none⟩, ⟨some 72, .move (.tmp 0), 28, "snaps.go:82", #[], none⟩, ⟨some 73, .nilCheck (.tmp 72), 0, "snaps.go:82", #[⟨1, .data⟩], none⟩, ⟨some 74, .fieldAddr 128 (.tmp 73) 2, 0, "snaps.go:82", #[⟨2, .data⟩], none⟩, ⟨some 75, .load 29 (.tmp 74), 29, "snaps.go:82", #[⟨3, .data⟩], none⟩, ⟨some 76, .move (.tmp 1), 22, "snaps.go:82", #[], none⟩, ⟨some 77, .call { callee := .value (.func 23), args := #[.tmp 76], argTypes := #[22] }, 22, "snaps.go:82", #[⟨5, .data⟩], none⟩, ⟨some 78, .buildSlice 29 1 #[(0, .tmp 77)], 29, "snaps.go:82", #[⟨6, .data⟩], none⟩, ⟨some 79, .call { callee := .builtin .append, args := #[.tmp 75, .tmp 78], argTypes := #[29, 29] }, 29, "snaps.go:82", #[⟨4, .data⟩, ⟨7, .data⟩, ⟨6, .chain⟩], none⟩] (by kernel_rfl) (by kernel_rfl) ?_
  rw [← hZ]
  clear hZ
  refine tkY 0 ⟨some 71, .move (.tmp 0), 28, "snaps.go:82", #[], none⟩ ?v0z31 hHeld ?y0z31 ?r0z31
  case y0z31 => (intro w hSw; (try dsimp only at hSw); go_simp) <;> with_reducible rfl
  try simp only [Act.put, List.setIfInBounds_toArray, List.set_cons_zero, List.set_cons_succ]
  refine tkY 1 ⟨some 72, .move (.tmp 0), 28, "snaps.go:82", #[], none⟩ ?v1z32 hHeld ?y1z32 ?r1z32
  case y1z32 => (intro w hSw; (try dsimp only at hSw); go_simp) <;> with_reducible rfl
  try simp only [Act.put, List.setIfInBounds_toArray, List.set_cons_zero, List.set_cons_succ]
  refine tkY 2 ⟨some 73, .nilCheck (.tmp 72), 0, "snaps.go:82", #[⟨1, .data⟩], none⟩ ?v2z33 hHeld ?y2z33 ?r2z33
  case y2z33 => (intro w hSw; (try dsimp only at hSw); go_simp) <;> with_reducible rfl
  try simp only [Act.put, List.setIfInBounds_toArray, List.set_cons_zero, List.set_cons_succ]
  refine tkY 3 ⟨some 74, .fieldAddr 128 (.tmp 73) 2, 0, "snaps.go:82", #[⟨2, .data⟩], none⟩ ?v3z34 hHeld ?y3z34 ?r3z34
  case y3z34 => (intro w hSw; (try dsimp only at hSw); go_simp) <;> with_reducible rfl
  try simp only [Act.put, List.setIfInBounds_toArray, List.set_cons_zero, List.set_cons_succ]
  refine tkY 4 ⟨some 75, .load 29 (.tmp 74), 29, "snaps.go:82", #[⟨3, .data⟩], none⟩ ?v4z35 hHeld ?y4z35 ?r4z35
  case y4z35 => (intro w hSw; (try dsimp only at hSw); go_simp) <;> with_reducible rfl
  try simp only [Act.put, List.setIfInBounds_toArray, List.set_cons_zero, List.set_cons_succ]
  refine tkY 5 ⟨some 76, .move (.tmp 1), 22, "snaps.go:82", #[], none⟩ ?v5z36 hHeld ?y5z36 ?r5z36
  case y5z36 => (intro w hSw; (try dsimp only at hSw); go_simp) <;> with_reducible rfl
  try simp only [Act.put, List.setIfInBounds_toArray, List.set_cons_zero, List.set_cons_succ]
  refine wpAnyH_ready (rs := [6]) (by kernel_rfl) (by simp) ?_
  refine AllReadyH.cons (o := ⟨some 77, .call { callee := .value (.func 23), args := #[.tmp 76], argTypes := #[22] }, 22, "snaps.go:82", #[⟨5, .data⟩], none⟩) rfl (fun K hK => ?_) AllReadyH.nil
  go_simp
  refine (copiedB_any _ _ Z hBAZ (by simp) (by intro x hx; simp at hx; subst hx; exact ⟨by simp; omega, by simp; omega⟩)).mono ?_
  rintro e1 w6 ⟨gR, rfl, _, _, k6⟩
  have H6 := HZ.later k6
  replace hHeld := H6.cells.2.2.1
  refine hK.out _ _ ?_ (fun _ => ?_)
  · exact hHeld
  clear hK K
  try simp only [Act.put, List.setIfInBounds_toArray, List.set_cons_zero, List.set_cons_succ]
  refine wpAnyH_ready (rs := [7]) (by kernel_rfl) (by simp) ?_
  refine AllReadyH.cons (o := ⟨some 78, .buildSlice 29 1 #[(0, .tmp 77)], 29, "snaps.go:82", #[⟨6, .data⟩], none⟩) rfl (fun K hK => ?_) AllReadyH.nil
  go_simp
  have k7 := (Below.refl w6.heap.size w6).alloc (Nat.le_refl _) (.cells #[.slice (some ⟨gR, 0, none⟩) 1 1] 22)
  have gB7 := heap_alloc_new w6 (.cells #[.slice (some ⟨gR, 0, none⟩) 1 1] 22)
  replace hHeld := cell_later k7 hHeld
  refine hK.out _ _ ?_ (fun _ => ?_)
  · exact hHeld
  clear hK K
  try simp only [Act.put, List.setIfInBounds_toArray, List.set_cons_zero, List.set_cons_succ]
  refine wpAnyH_ready (rs := [8]) (by kernel_rfl) (by simp) ?_
  refine AllReadyH.cons (o := ⟨some 79, .call { callee := .builtin .append, args := #[.tmp 75, .tmp 78], argTypes := #[29, 29] }, 29, "snaps.go:82", #[⟨4, .data⟩, ⟨7, .data⟩, ⟨6, .chain⟩], none⟩) rfl (fun K hK => ?_) AllReadyH.nil
  have k67 := k6.trans (k7.mono k6.size)
  have Z1 := BZ1.later k67
  have OWN : (w6.alloc (.cells #[.slice (some ⟨gR, 0, none⟩) 1 1] 22)).ownsRow base 22 1 (.slice (some ⟨b1, 0, none⟩) 1 1) 1 [.slice none 0 0] := ⟨rfl, .inr ⟨b1, 1, _, rfl, q3, Z1, Nat.le_refl _, by decide, rfl, rfl⟩⟩
  have KA : Below base w0 (w6.alloc (.cells #[.slice (some ⟨gR, 0, none⟩) 1 1] 22)) := KZ.trans (k67.mono (by have := HZ.lt; omega))
  refine step_append_lies _ (by rfl) _ _ _ (by rfl) base 22 j0 _ 1 24 Tryz.underlying29 hj jz0 jz1 jz2 rfl (by decide) _ 1 [.slice none 0 0] (by rfl) OWN ⟨w6.heap.size, 0, none⟩ 1 1 [.slice (some ⟨gR, 0, none⟩) 1 1] (by rfl) (by rfl) (World.news_of_block (cs := #[.slice (some ⟨gR, 0, none⟩) 1 1]) (t := 22) (fr := (0, 0)) gB7) (by simp [Value.oneCell']) (by omega) (by unfold maxLen; omega) (by omega) (by have := HZ.lt; have := k67.size; omega) _ rfl ?_
  intro g7 cap7 w7 ow7 gr7 hat7 hlt7
  have t7 := TK.of_grown OWN gr7
  have T7 : TK 22 Z w7 := fun k cur t fr hk ht => t7 _ _ _ _ ((TK.of_below (T := 22) k67) _ _ _ _ hk ht) ht
  have H7 : SN w7 g 3 3 2 4 30 2400 1 3 ga (.slice (some ⟨b1, 0, none⟩) 1 1) (.slice (some ⟨b2, 0, none⟩) 1 1) (.slice none 0 0) := T7 _ _ _ _ HZ (by decide)
  have K7 : Below base w0 w7 := KA.grown gr7 (by have := H.lt; have := KA.size; omega) (fun k hk => by simp [Value.ownBlock] at hk; omega)
  replace hHeld := H7.cells.2.2.1
  refine hK.out _ _ ?_ (fun _ => ?_)
  · exact hHeld
  clear hK K
  try simp only [Act.put, List.setIfInBounds_toArray, List.set_cons_zero, List.set_cons_succ]
  refine wpAnyH_done (by kernel_rfl) ?_ _
  refine headPost_rest [⟨some 80, .nilCheck (.tmp 71), 0, "snaps.go:82", #[⟨0, .data⟩, ⟨0, .phase⟩, ⟨1, .phase⟩, ⟨2, .phase⟩, ⟨3, .phase⟩, ⟨4, .phase⟩, ⟨5, .phase⟩, ⟨6, .phase⟩, ⟨7, .phase⟩, ⟨8, .phase⟩], none⟩, ⟨some 81, .fieldAddr 128 (.tmp 80) 2, 0, "snaps.go:82", #[⟨9, .data⟩, ⟨0, .phase⟩, ⟨1, .phase⟩, ⟨2, .phase⟩, ⟨3, .phase⟩, ⟨4, .phase⟩, ⟨5, .phase⟩, ⟨6, .phase⟩, ⟨7, .phase⟩, ⟨8, .phase⟩], none⟩, ⟨none, .store 29 (.tmp 81) (.tmp 79), 0, "snaps.go:82", #[⟨10, .data⟩, ⟨8, .data⟩, ⟨8, .chain⟩, ⟨0, .phase⟩, ⟨1, .phase⟩, ⟨2, .phase⟩, ⟨3, .phase⟩, ⟨4, .phase⟩, ⟨5, .phase⟩, ⟨6, .phase⟩, ⟨7, .phase⟩, ⟨8, .phase⟩], none⟩] (by kernel_rfl) rfl (by kernel_rfl) ?_
  clear hHeld
  have fz9 := H7.frozen 9
  have c9 := H7.cells.2.2.1
  have m8 := heap_setCell_same w7 g 9 _ _ (.slice (some ⟨g7, 0, none⟩) 2 cap7) H7
  have H8 : SN (w7.setCell ⟨g, 9, none⟩ (.slice (some ⟨g7, 0, none⟩) 2 cap7)) g 3 3 2 4 30 2400 1 3 ga (.slice (some ⟨g7, 0, none⟩) 2 cap7) (.slice (some ⟨b2, 0, none⟩) 1 1) (.slice none 0 0) := by
    unfold SN
    rw [m8]
    simp [snC]
  have t8 : TK 128 w7 (w7.setCell ⟨g, 9, none⟩ (.slice (some ⟨g7, 0, none⟩) 2 cap7)) := TK.of_only ((Only.refl g w7).setCell _ _) H7
  have B28 := (BZ2.tk T7 (by decide)).tk t8 (by decide)
  have A8 : AG (w7.setCell ⟨g, 9, none⟩ (.slice (some ⟨g7, 0, none⟩) 2 cap7)) ga 3 2400 p' 1 c' := t8 _ _ _ _ (T7 _ _ _ _ AZ (by decide)) (by decide)
  have o8 := owns_tk (owns_tk oZ T7 (by decide)) t8 (by decide)
  have n8 := (nZ.tk T7 (by decide) (by decide)).tk t8 (by decide) (by decide)
  have K8 : Below base w0 (w7.setCell ⟨g, 9, none⟩ (.slice (some ⟨g7, 0, none⟩) 2 cap7)) := K7.trans (((Only.refl g w7).setCell 9 _).below q1)
  have S8 : Hid (∀ T, 134 ≠ T → 22 ≠ T → 128 ≠ T → Sty T w0 (w7.setCell ⟨g, 9, none⟩ (.slice (some ⟨g7, 0, none⟩) 2 cap7))) := fun T h h2 h3 => ((SZ.out T h).trans (sty_tk T7 h2)).trans (sty_tk t8 h3)
  clear SZ hBAZ HZ BZ1 BZ2 AZ oZ nZ KZ H6 k6 k7 gB7 k67 Z1 OWN KA ow7 gr7 hat7 t7 T7 K7 m8 t8
  have c10 := H7.cells.2.2.2.1
  have d10 := H8.cells.2.2.2.1
  have OWN2 : (w7.setCell ⟨g, 9, none⟩ (.slice (some ⟨g7, 0, none⟩) 2 cap7)).ownsRow base 146 2 (.slice (some ⟨b2, 0, none⟩) 1 1) 1 [.int .i64 0, .int .i64 (-1)] := ⟨rfl, .inr ⟨b2, 1, _, rfl, q4, B28, Nat.le_refl _, by decide, rfl, rfl⟩⟩
  have sV := H8.lt
  have gV : ((w7.setCell ⟨g, 9, none⟩ (.slice (some ⟨g7, 0, none⟩) 2 cap7)).alloc (.cells #[.int .i64 1, .int .i64 0] 146)).heap[w7.heap.size]? = some (.cells #[.int .i64 1, .int .i64 0] 146 (0, 0)) := by
    have h := heap_alloc_new (w7.setCell ⟨g, 9, none⟩ (.slice (some ⟨g7, 0, none⟩) 2 cap7)) (.cells #[.int .i64 1, .int .i64 0] 146)
    rw [show (w7.setCell ⟨g, 9, none⟩ (.slice (some ⟨g7, 0, none⟩) 2 cap7)).heap.size = w7.heap.size by simp] at h
    exact h
  go_wp2_with (first | (at_builtin; refine wpList_append_own _ rfl (.tmp 86) (.tmp 90) 126 rfl base 146 l0 _ 2 16 Tryz.underlying126 hl lz0 lz1 lz2 rfl (by decide) _ _ _ rfl (OWN2.alloc _) ⟨w7.heap.size, 0, none⟩ 1 1 [.int .i64 1, .int .i64 0] rfl rfl ?ra ?rb ?rc ?rd ?re ?_))
  case ra => exact World.news_of_block (cs := #[.int .i64 1, .int .i64 0]) (t := 146) (fr := (0, 0)) gV
  case rb => intro u hu; simp at hu; rcases hu with rfl | rfl <;> rfl
  case rc => unfold maxLen; omega
  case rd => omega
  case re => simp at sV ⊢; omega
  intro v3 w3 hown3 hgrow3 _
  obtain ⟨p3, c3, rfl⟩ := owns_shape hown3
  have sV2 : base ≤ (w7.setCell ⟨g, 9, none⟩ (.slice (some ⟨g7, 0, none⟩) 2 cap7)).heap.size := by omega
  have aV := (Below.refl _ (w7.setCell ⟨g, 9, none⟩ (.slice (some ⟨g7, 0, none⟩) 2 cap7))).alloc (Nat.le_refl _) (.cells #[.int .i64 1, .int .i64 0] 146)
  have K3 : Below base w0 w3 := (K8.alloc sV2 _).grown hgrow3 (Nat.le_trans sV2 aV.size) (fun k hk => by simp [Value.ownBlock] at hk; omega)
  have t3 := TK.of_grown (OWN2.alloc _) hgrow3
  have T3 : TK 146 (w7.setCell ⟨g, 9, none⟩ (.slice (some ⟨g7, 0, none⟩) 2 cap7)) w3 := fun k cur t fr hk ht => t3 _ _ _ _ ((TK.of_below (T := 146) aV) _ _ _ _ hk ht) ht
  have H3 : SN w3 g 3 3 2 4 30 2400 1 3 ga (.slice (some ⟨g7, 0, none⟩) 2 cap7) (.slice (some ⟨b2, 0, none⟩) 1 1) (.slice none 0 0) := T3 _ _ _ _ H8 (by decide)
  have fz10 := H3.frozen 10
  have e10 := H3.cells.2.2.2.1
  have e8 := H3.cells.2.1
  have m11 := heap_setCell_same w3 g 10 _ _ (.slice p3 2 c3) H3
  have HF : SN (w3.setCell ⟨g, 10, none⟩ (.slice p3 2 c3)) g 3 3 2 4 30 2400 1 3 ga (.slice (some ⟨g7, 0, none⟩) 2 cap7) (.slice p3 2 c3) (.slice none 0 0) := by
    unfold SN
    rw [m11]
    simp [snC]
  have tF : TK 128 w3 (w3.setCell ⟨g, 10, none⟩ (.slice p3 2 c3)) := TK.of_only ((Only.refl g w3).setCell _ _) H3
  have AF : AG (w3.setCell ⟨g, 10, none⟩ (.slice p3 2 c3)) ga 3 2400 p' 1 c' := tF _ _ _ _ (T3 _ _ _ _ A8 (by decide)) (by decide)
  have oF := owns_tk (owns_tk o8 T3 (by decide)) tF (by decide)
  have nF := (n8.tk T3 (by decide) (by decide)).tk tF (by decide) (by decide)
  have rF := owns_tk2 hown3 tF (by decide)
  have KF : Below base w0 (w3.setCell ⟨g, 10, none⟩ (.slice p3 2 c3)) := K3.trans (((Only.refl g w3).setCell 10 _).below q1)
  have f8 := HF.cells.2.1
  have hH := hash_at ga 1 c' 0 0 nb 3 2400 p' _ _ _ AF oF (by decide) rfl nF (by rw [leaf_n _ _ h255 hkl]; decide)
  rw [leaf_n _ _ h255 hkl] at hH
  generalize (leafS 3 id key 1).hash = hh at *
  have sF := HF.lt
  have SF : Hid (∀ T, 134 ≠ T → 22 ≠ T → 128 ≠ T → 146 ≠ T → Sty T w0 (w3.setCell ⟨g, 10, none⟩ (.slice p3 2 c3))) := fun T h h2 h3 h4 => ((S8.out T h h2 h3).trans (sty_tk T3 h4)).trans (sty_tk tF h3)
  clear hown3 hgrow3 aV t3 T3 m11 tF AF oF nF K3 K8 A8 o8 n8 B28 OWN2
  go_wp2_with fail
  refine hH.mono ?_
  rintro x wF ⟨ph, chh, rfl, _, kH⟩
  go_wp2
  go_ret2
  exact ⟨ph, chh, _, cap7, p3, c3, rfl, HF.later kH, owns_later rF kH, KF.trans (kH.mono (by omega)), fun T h1 h2 h3 h4 => (SF.out T h1 h2 h3 h4).trans (Sty.of_below kH)⟩

end Go.Proofs.YtcgpgnajmfemhaaGreatDoor.Vf
