/- What this text proves: a law for a walk, over any program: a region that draws its order, cut where all that is left waits for all that came ahead. What this text proves: the walk of the document's Check (layer 20) over this program: what any looks find from any head. (By program: mkekrchk.py.) -/
import Derived.Test.YtpndpmkoegmbkaaDoorVocab
import Derived.Deep.RegionHeld3
import Derived.Test.YtpndpmkoegmbkaaDoorJEl
import Derived.Test.YtpndpmkoegmbkaaDoorJFr
namespace Go.Proofs.YtpndpmkoegmbkaaDoor
open Go.RowKit

/-- The first part's post: behind it the rest, from there on. -/
def headPost (P : Program) (md : Region.Mode) (ops : Array Oper) (Q : Exit → Act → World → Prop) (m r : Nat) : Exit → Act → World → Prop
  | .normal, a, w => wpAny P md ops Q r (Array.replicate m true ++ Array.replicate r false) a w
  | e, a, w => Q e a w

/-- Whether one operation waits for another, by way of those between. -/
def waitsFor (md : Region.Mode) (ops : Array Oper) : Nat → Nat → Nat → Bool
  | 0, _, _ => false
  | f + 1, i, j => match ops[i]? with
    | none => false
    | some o => o.after.any fun e => Region.binds md e && (e.on == j || waitsFor md ops f e.on j)

/-- What has come up came up behind what it waits for. -/
def Closed (md : Region.Mode) (ops : Array Oper) (L : Array Bool) : Prop := ∀ i o, L.getD i false = true → ops[i]? = some o → ∀ e ∈ o.after, Region.binds md e = true → L.getD e.on false = true

theorem waitsFor_listed {md : Region.Mode} {ops : Array Oper} {L : Array Bool} (hL : Closed md ops L) (j : Nat) : ∀ (f i : Nat) (o : Oper), ops[i]? = some o → (∀ e ∈ o.after, Region.binds md e = true → L.getD e.on false = true) → waitsFor md ops f i j = true → L.getD j false = true := by
  intro f
  induction f with
  | zero => intro i o _ _ h; simp [waitsFor] at h
  | succ f ih =>
    intro i o ho hw h
    simp only [waitsFor, ho, Array.any_eq_true', Bool.and_eq_true, Bool.or_eq_true, beq_iff_eq] at h
    obtain ⟨e, he, hb, hj⟩ := h
    have hl := hw e he hb
    rcases hj with rfl | hj
    · exact hl
    · cases ho2 : ops[e.on]? with
      | none => cases f <;> simp [waitsFor, ho2] at hj
      | some o2 => exact ih e.on o2 ho2 (hL e.on o2 hl ho2) hj

/-- Of the first m operations none waits for a later one and none has a guard; each of the others waits for all of these, or for one of the others. -/
def cutsAt (md : Region.Mode) (ops : Array Oper) (m r : Nat) : Bool :=
  ops.size == m + r &&
  (List.range m).all (fun i => match ops[i]? with
    | none => false
    | some o => o.guard.isNone && o.after.all fun e => !Region.binds md e || decide (e.on < i)) &&
  (List.range r).all (fun k => match ops[m + k]? with
    | none => false
    | some o => (List.range m).all (fun j => waitsFor md ops (m + r) (m + k) j) || o.after.any fun e => Region.binds md e && decide (m ≤ e.on))

theorem wpAny_more {P : Program} {md : Region.Mode} {ops : Array Oper} {Q : Exit → Act → World → Prop} : ∀ (fuel : Nat) (listed : Array Bool) (a : Act) (w : World), wpAny P md ops Q fuel listed a w → wpAny P md ops Q (fuel + 1) listed a w := by
  intro fuel
  induction fuel with
  | zero => intro listed a w h; exact ⟨fun _ => h.2, fun i hi => by rw [h.1] at hi; cases hi⟩
  | succ fuel ih => intro listed a w h; exact ⟨h.1, fun i hi => wpOp_mono (fun a' w' h' => ih _ a' w' h') (h.2 i hi)⟩

theorem wpAny_more2 {P : Program} {md : Region.Mode} {ops : Array Oper} {Q : Exit → Act → World → Prop} (k fuel : Nat) (listed : Array Bool) (a : Act) (w : World) (h : wpAny P md ops Q fuel listed a w) : wpAny P md ops Q (k + fuel) listed a w := by
  induction k with
  | zero => rw [Nat.zero_add]; exact h
  | succ k ih => rw [Nat.add_right_comm]; exact wpAny_more _ _ _ _ ih

theorem wp_head {P : Program} {o : Oper} {a : Act} {w : World} {K : Act → World → Prop} {Q Q' : Exit → Act → World → Prop} (h : ∀ e a w, e ≠ .normal → Q e a w → Q' e a w) (hh : o.wp P a w K Q) : o.wp P a w K Q' := by
  have hl : LetsOut Q → LetsOut Q' := fun ⟨a, w, hx⟩ => ⟨a, w, h _ _ _ (by simp) hx⟩
  unfold Oper.wp at *
  generalize (execOp a.eval o).run P w = r at *
  cases r with
  | ok n w' =>
    cases n <;> simp only [Oper.upon] at hh ⊢ <;>
      first
        | exact hh
        | exact Calls.mono hh (fun e w'' he => by cases e <;> first | exact he | exact hl he | exact h _ _ _ (by simp) he)
  | halt x w' => cases x <;> simp only [Oper.upon] at hh ⊢ <;> first | exact hh | exact h _ _ _ (by simp) hh

theorem getD_app {l : Array Bool} {r j : Nat} {d : Bool} : (l ++ Array.replicate r false).getD j d = if j < l.size then l.getD j d else if j < l.size + r then false else d := by
  simp only [Array.getD_eq_getD_getElem?, Array.getElem?_append]
  split
  · rfl
  · simp only [Array.getElem?_replicate]
    split <;> split <;> first | rfl | omega

theorem wpAny_split {P : Program} {md : Region.Mode} {ops ops1 : Array Oper} {Q : Exit → Act → World → Prop} (m r : Nat) (h1 : ops1 = ops.extract 0 m) (hc : cutsAt md ops m r = true) :
    ∀ (fuel : Nat) (l : Array Bool) (a : Act) (w : World), l.size = m → Closed md ops (l ++ Array.replicate r false) → wpAny P md ops1 (headPost P md ops Q m r) fuel l a w → wpAny P md ops Q (fuel + r) (l ++ Array.replicate r false) a w := by
  unfold cutsAt at hc
  simp only [Bool.and_eq_true, beq_iff_eq, List.all_eq_true, List.mem_range] at hc
  obtain ⟨⟨hn, hA⟩, hB⟩ := hc
  have hop : ∀ i, i < m → ops1[i]? = ops[i]? := by
    intro i hi
    rw [h1, Array.getElem?_extract]
    simp only [Nat.sub_zero, Nat.zero_add]
    rw [if_pos (by omega)]
  have hs1 : ops1.size = m := by rw [h1, Array.size_extract]; omega
  have hA2 : ∀ i, i < m → ∃ o, ops[i]? = some o ∧ o.guard = none ∧ ∀ e ∈ o.after, Region.binds md e = true → e.on < i := by
    intro i hi
    have := hA i hi
    revert this
    cases ops[i]? with
    | none => intro h; cases h
    | some o =>
      intro h
      simp only [Bool.and_eq_true, Option.isNone_iff_eq_none, Array.all_eq_true_iff_forall_mem, Bool.or_eq_true, Bool.not_eq_true', decide_eq_true_eq] at h
      exact ⟨o, rfl, h.1, fun e he hb => (h.2 e he).resolve_left (by simp [hb])⟩
  have hB2 : ∀ k, k < r → ∃ o, ops[m + k]? = some o ∧ ((∀ j, j < m → waitsFor md ops (m + r) (m + k) j = true) ∨ ∃ e ∈ o.after, Region.binds md e = true ∧ m ≤ e.on) := by
    intro k hk
    have := hB k hk
    revert this
    cases ops[m + k]? with
    | none => intro h; cases h
    | some o =>
      intro h
      simp only [Bool.or_eq_true, List.all_eq_true, List.mem_range, Array.any_eq_true', Bool.and_eq_true, decide_eq_true_eq] at h
      exact ⟨o, rfl, h⟩
  -- all of the first part have come up, where none of it may
  have hall : ∀ l : Array Bool, l.size = m → Region.ready md ops1 l = [] → l = Array.replicate m true := by
    intro l hl hr
    have key : ∀ n i, i < n → i < m → l.getD i true = true := by
      intro n
      induction n with
      | zero => intro i hi; omega
      | succ n ih =>
        intro i hi hm
        rcases hb : l.getD i true with _ | _
        · exfalso
          obtain ⟨o, ho, _, hw⟩ := hA2 i hm
          have : i ∈ Region.ready md ops1 l := by
            refine mem_ready.2 ⟨hb, o, (hop i hm).trans ho, fun e he hbb => ?_⟩
            have hlt := hw e he hbb
            have := ih e.on (by omega) (by omega)
            simp only [Array.getD_eq_getD_getElem?] at this ⊢
            rw [Array.getElem?_eq_getElem (by omega)] at this ⊢
            exact this
          rw [hr] at this
          cases this
        · rfl
    refine Array.ext (by simp [hl]) fun i h1 h2 => ?_
    have := key (i + 1) i (by omega) (by omega)
    simpa [Array.getD_eq_getD_getElem?, Array.getElem?_eq_getElem h1] using this
  intro fuel
  induction fuel with
  | zero =>
    intro l a w hl _ h
    have e := hall l hl h.1
    subst e
    rw [Nat.zero_add]
    exact h.2
  | succ fuel ih =>
    intro l a w hl hcl h
    by_cases hr : Region.ready md ops1 l = []
    · have e := hall l hl hr
      have := h.1 hr
      subst e
      exact wpAny_more2 _ _ _ _ _ this
    · have hin : ∀ i, i ∈ Region.ready md ops1 l → i ∈ Region.ready md ops (l ++ Array.replicate r false) := by
        intro i hi
        obtain ⟨h0, o, ho, hw⟩ := mem_ready.1 hi
        have him : i < m := by rw [← hs1]; exact (Array.getElem?_eq_some_iff.1 ho).1
        refine mem_ready.2 ⟨by rw [getD_app, if_pos (by omega)]; exact h0, o, (hop i him).symm.trans ho, fun e he hb => ?_⟩
        obtain ⟨o', ho', _, hw'⟩ := hA2 i him
        obtain rfl : o' = o := Option.some.inj (ho'.symm.trans ((hop i him).symm.trans ho))
        have := hw' e he hb
        rw [getD_app, if_pos (by omega)]
        exact hw e he hb
      obtain ⟨i0, hi0⟩ := List.exists_mem_of_ne_nil _ hr
      have hi0m : i0 < m ∧ l.getD i0 true = false := by
        obtain ⟨h0, o, ho, _⟩ := mem_ready.1 hi0
        exact ⟨by rw [← hs1]; exact (Array.getElem?_eq_some_iff.1 ho).1, h0⟩
      rw [Nat.add_right_comm]
      refine ⟨fun h0 => ?_, fun i hi => ?_⟩
      · have := hin i0 hi0
        rw [h0] at this
        cases this
      · obtain ⟨h0, o, ho, hw⟩ := mem_ready.1 hi
        have hilt : i < m + r := by rw [← hn]; exact (Array.getElem?_eq_some_iff.1 ho).1
        have him : i < m := by
          rcases Nat.lt_or_ge i m with h' | h'
          · exact h'
          · exfalso
            obtain ⟨o', ho', hx⟩ := hB2 (i - m) (by omega)
            rw [show m + (i - m) = i by omega, ho] at ho'
            obtain rfl := Option.some.inj ho'
            rcases hx with hx | ⟨e, he, hb, hme⟩
            · have := waitsFor_listed hcl i0 (m + r) i o ho hw (by have := hx i0 hi0m.1; rwa [show m + (i - m) = i by omega] at this)
              rw [getD_app, if_pos (by omega)] at this
              have h2 := hi0m.2
              simp only [Array.getD_eq_getD_getElem?] at this h2
              rw [Array.getElem?_eq_getElem (by omega)] at this h2
              simp at this h2
              rw [h2] at this
              cases this
            · have := hw e he hb
              rw [getD_app, if_neg (by omega)] at this
              split at this <;> cases this
        obtain ⟨o', ho', hg, hw'⟩ := hA2 i him
        obtain rfl : o' = o := Option.some.inj (ho'.symm.trans ho)
        have hi1 : i ∈ Region.ready md ops1 l := by
          refine mem_ready.2 ⟨by rw [getD_app, if_pos (by omega)] at h0; exact h0, o', (hop i him).trans ho, fun e he hb => ?_⟩
          have := hw e he hb
          have hlt := hw' e he hb
          rw [getD_app, if_pos (by omega)] at this
          exact this
        have hst := h.2 i hi1
        have hse : (l ++ Array.replicate r false).setIfInBounds i true = l.setIfInBounds i true ++ Array.replicate r false := by
          rw [Array.setIfInBounds_append_left]; omega
        have hcl2 : Closed md ops (l.setIfInBounds i true ++ Array.replicate r false) := by
          rw [← hse]
          intro j oj hj hoj e he hb
          have hup : (l ++ Array.replicate r false).getD e.on false = true → ((l ++ Array.replicate r false).setIfInBounds i true).getD e.on false = true := by
            intro hx
            by_cases hie : i = e.on
            · rw [← hie]
              simp [hl]; omega
            · rw [getD_set_ne false hie]; exact hx
          refine hup ?_
          by_cases hij : i = j
          · subst hij
            obtain rfl := Option.some.inj (hoj.symm.trans ho)
            exact hw e he hb
          · rw [getD_set_ne false hij] at hj
            exact hcl j oj hj hoj e he hb
        have hst2 := wpOp_mono (fun a' w' h' => ih (l.setIfInBounds i true) a' w' (by simp [hl]) hcl2 h') hst
        rw [hse]
        unfold wpOp at hst2 ⊢
        rw [hop i him, ho] at hst2
        rw [ho]
        simp only [Region.wanted, hg, if_true] at hst2 ⊢
        refine hst2.imp (wp_head ?_) (fun ⟨x, a, w, hx⟩ => ⟨x, a, w, hx⟩)
        intro e a w hne hx
        cases e <;> first | exact absurd rfl hne | exact hx

/-- A region that draws, in two parts: the first by itself; the rest from where it ends. -/
theorem wp_region_split {P : Program} {id : Nat} {ops : Array Oper} {Q : Exit → Act → World → Prop} {a : Act} {w : World} (hm : P.follows .mixedOrders = true) (S : World → Prop) (m r : Nat) (ops1 : Array Oper) (h1 : ops1 = ops.extract 0 m) (hc : cutsAt .any ops m r = true)
    (h : wpAnyH P .any ops1 (headPost P .any ops Q m r) S m (Array.replicate m false) a w.drew) : (Code.region id ops true).wp P Q a w := by
  have hn : ops.size = m + r := by
    unfold cutsAt at hc
    simp only [Bool.and_eq_true, beq_iff_eq] at hc
    exact hc.1.1
  refine wp_region_any hm ?_
  have := wpAny_split m r h1 hc m (Array.replicate m false) a w.drew (by simp) (by intro i o hi; exfalso; rw [getD_app] at hi; revert hi; simp only [Array.size_replicate, Array.getD_eq_getD_getElem?, Array.getElem?_replicate]; split <;> simp_all) (wpAny_of_held _ _ _ _ h)
  rw [hn, show Array.replicate (m + r) false = Array.replicate m false ++ Array.replicate r false by simp]
  exact this

/-- Whether the rest comes up in one way alone. -/
def chainFrom (md : Region.Mode) (ops : Array Oper) : Nat → Nat → Array Bool → Bool
  | 0, _, L => (Region.ready md ops L).isEmpty
  | n + 1, i, L => Region.ready md ops L == [i] && chainFrom md ops n (i + 1) (L.setIfInBounds i true)

theorem wpAny_chain {P : Program} {md : Region.Mode} {ops : Array Oper} {Q : Exit → Act → World → Prop} : ∀ (n i : Nat) (L : Array Bool) (a : Act) (w : World), chainFrom md ops n i L = true → wpOps P ops Q (List.range' i n) a w → wpAny P md ops Q n L a w := by
  intro n
  induction n with
  | zero =>
    intro i L a w hc h
    exact ⟨by simpa [chainFrom] using hc, by simpa [wpOps] using h⟩
  | succ n ih =>
    intro i L a w hc h
    simp only [chainFrom, Bool.and_eq_true, beq_iff_eq] at hc
    rw [List.range'_succ, wpOps_cons] at h
    refine ⟨fun h0 => (by rw [hc.1] at h0; cases h0), fun j hj => ?_⟩
    rw [hc.1, List.mem_singleton] at hj
    subst hj
    exact wpOp_mono (fun a' w' h' => ih _ _ a' w' hc.2 h') h

/-- The rest, where it comes up in one way alone. -/
theorem headPost_rest {P : Program} {md : Region.Mode} {ops : Array Oper} {Q : Exit → Act → World → Prop} {m r : Nat} {a : Act} {w : World} (l : List Oper) (hl : l = ops.toList.drop m) (hr : l.length = r) (hc : chainFrom md ops r m (Array.replicate m true ++ Array.replicate r false) = true) (h : wpList P ops Q l a w) : headPost P md ops Q m r .normal a w := by
  refine wpAny_chain r m _ a w hc ?_
  rw [← hr, wpOps_eq_wpList l m fun j => by rw [hl, List.getElem?_drop]; simp]
  exact h

theorem wpList_post {P : Program} {ops : Array Oper} {Q Q' : Exit → Act → World → Prop} (h : ∀ e a w, Q e a w → Q' e a w) : ∀ (l : List Oper) (a : Act) (w : World), wpList P ops Q l a w → wpList P ops Q' l a w := by
  intro l
  induction l with
  | nil => intro a w hh; exact h _ _ _ hh
  | cons o l ih =>
    intro a w hh
    unfold wpList at hh ⊢
    split at hh
    · rw [if_pos (by assumption)]
      exact hh.imp (fun hx => wp_head (fun e a w _ hy => h e a w hy) (Oper.wp_mono (fun a w hz => ih a w hz) hx)) (fun ⟨hx, a, w, hy⟩ => ⟨hx, a, w, h _ _ _ hy⟩)
    · rw [if_neg (by assumption)]
      exact ih _ _ hh

/-- A post of the normal end alone. -/
def atEnd (R : Act → World → Prop) : Exit → Act → World → Prop
  | .normal, a, w => R a w
  | _, _, _ => False

/-- The rest in one way alone, and what is known behind it. -/
theorem headPost_end {P : Program} {md : Region.Mode} {ops : Array Oper} {Q : Exit → Act → World → Prop} {m r : Nat} {a : Act} {w : World} (l : List Oper) (hl : l = ops.toList.drop m) (hr : l.length = r) (hc : chainFrom md ops r m (Array.replicate m true ++ Array.replicate r false) = true) (A : Act) (R : World → Prop)
    (h : wpList P ops (atEnd fun a' w' => a' = A ∧ R w') l a w) (hR : ∀ w', R w' → Q .normal A w') : headPost P md ops Q m r .normal a w := by
  refine headPost_rest l hl hr hc (wpList_post ?_ l a w h)
  intro e a w hx
  cases e <;> first | exact hx.elim | (obtain ⟨rfl, hx⟩ := hx; exact hR _ hx)

end Go.Proofs.YtpndpmkoegmbkaaDoor

namespace Go.Proofs.YtpndpmkoegmbkaaDoor
open Go.RowKit

theorem folO_gen {R : Option Rc} {w0 w : World} {x : Ending} {w' : World} (h : FolO R w0 w x w') : ∃ tp tc lp lc kp kc, x = .returned (.tuple #[.agg (RVs (R.getD zR) tp tc lp lc kp kc), .bool R.isSome]) ∧ HB w0 (.slice tp (R.getD zR).tr.length tc) (R.getD zR).tr ∧ HB w0 (.slice lp (R.getD zR).li.length lc) (R.getD zR).li ∧ PA w0 (.slice kp (R.getD zR).lk.length kc) (R.getD zR).lk ∧ Below w.heap.size w w' := by
  obtain ⟨f1, f2, f3⟩ := h
  cases R with
  | none => exact ⟨none, 0, none, 0, none, 0, f1 rfl, HB.nil _, HB.nil _, PA.nil _, f3⟩
  | some r =>
    obtain ⟨tp, tc, lp, lc, kp, kc, e, g1, g2, g3⟩ := f2 r rfl
    exact ⟨tp, tc, lp, lc, kp, kc, e, g1, g2, g3, f3⟩

theorem s_recsE : (Tryd.prog.info? 26).map (·.size) = some 1 := by kernel_rfl

theorem cutP_one (sb so sc : Nat) (h : 1 < sc) : cutP (some ⟨sb, so, none⟩) sc 1 = some ⟨sb, so + 1, none⟩ := by
  unfold cutP
  rw [if_neg (by omega)]
  simp [Addr.add]

set_option maxRecDepth 100000 in
set_option maxHeartbeats 8000000 in
theorem rcheck_any (size t : Int) (hd : Rc) (tv lv kv sv : Value) (ss : List (List Rc)) (w : World) (h1 : HB w tv hd.tr) (h2 : HB w lv hd.li) (h3 : PA w kv hd.lk) (hQ : QA w sv ss) :
    Calls Tryd.prog 15 #[.int .i64 size, .agg #[.int .i64 hd.e, .int .i64 hd.t, tv, .int .i64 hd.c, lv, kv], sv, .int .i64 t] w (ChkSaid (chkR size hd ss t) w) := by
  obtain ⟨htp, htc, rfl⟩ := h1.shape
  obtain ⟨hlp, hlc, rfl⟩ := h2.shape
  obtain ⟨hkp, hkc, rfl⟩ := h3.shape
  obtain ⟨sp, sc, rfl⟩ := hQ.shape
  have hQm : sc ≤ 9223372036854775807 := hQ.len.2.2
  have hQl := hQ.len.2.1
  obtain ⟨sX, gX0, gX1, bX⟩ := two_of_alloc w (.cells #[.int .i64 hd.e, .int .i64 hd.t, .slice htp hd.tr.length htc, .int .i64 hd.c, .slice hlp hd.li.length hlc, .slice hkp hd.lk.length hkc] 25) (.cells #[.int .i64 0, .int .i64 0, .slice none 0 0, .int .i64 0, .slice none 0 0, .slice none 0 0] 25)
  obtain ⟨X, hX⟩ : ∃ X, (w.alloc (.cells #[.int .i64 hd.e, .int .i64 hd.t, .slice htp hd.tr.length htc, .int .i64 hd.c, .slice hlp hd.li.length hlc, .slice hkp hd.lk.length hkc] 25)).alloc (.cells #[.int .i64 0, .int .i64 0, .slice none 0 0, .int .i64 0, .slice none 0 0, .slice none 0 0] 25) = X := ⟨_, rfl⟩
  rw [hX] at sX gX0 gX1 bX
  have hCan : Calls Tryd.prog 20 #[.int .i64 size, .agg #[.int .i64 hd.e, .int .i64 hd.t, .slice htp hd.tr.length htc, .int .i64 hd.c, .slice hlp hd.li.length hlc, .slice hkp hd.lk.length hkc]] X fun x w' => x = .returned (.bool (canB size hd)) ∧ Below X.heap.size X w' := rcan_any size hd.e hd.t hd.c _ _ _ hd.tr hd.li hd.lk X (h1.later bX) (h2.later bX) (h3.later bX)
  have hx0 : X.cell? ⟨w.heap.size, 0, none⟩ = some (.int .i64 hd.e) := by rw [cell_of_row _ _ _ _ _ _ gX0]; rfl
  have hx1 : X.cell? ⟨w.heap.size, 1, none⟩ = some (.int .i64 hd.t) := by rw [cell_of_row _ _ _ _ _ _ gX0]; rfl
  have hx2 : X.cell? ⟨w.heap.size, 2, none⟩ = some (.slice htp hd.tr.length htc) := by rw [cell_of_row _ _ _ _ _ _ gX0]; rfl
  have hx3 : X.cell? ⟨w.heap.size, 3, none⟩ = some (.int .i64 hd.c) := by rw [cell_of_row _ _ _ _ _ _ gX0]; rfl
  have hx4 : X.cell? ⟨w.heap.size, 4, none⟩ = some (.slice hlp hd.li.length hlc) := by rw [cell_of_row _ _ _ _ _ _ gX0]; rfl
  have hx5 : X.cell? ⟨w.heap.size, 5, none⟩ = some (.slice hkp hd.lk.length hkc) := by rw [cell_of_row _ _ _ _ _ _ gX0]; rfl
  have HC0 : Hid (canB size hd = false → chkR size hd ss t = none) := fun h => if_neg (fun q => by rw [h] at q; cases q.1)
  have HC1 : Hid (canB size hd = true → 0 ≤ hd.e ∧ hd.e ≤ 255) := fun h => by
    obtain ⟨_, _, a3, a4, _⟩ := (canB_iff _ _).1 h
    exact ⟨a3, a4⟩
  have HC2 : Hid (canB size hd = true → chkR size hd ss t = if (srchA (gC size hd ss t) hd.e.toNat).2.isSome = true ∧ ss.length ≤ (srchA (gC size hd ss t) hd.e.toNat).1.length then some (fnd size hd t ss (srchA (gC size hd ss t) hd.e.toNat).1 zR) else none) := fun h => by
    show _ = _
    unfold chkR
    simp only [h, true_and]
  generalize hR0 : chkR size hd ss t = R at *
  clear hR0
  generalize hCB : canB size hd = CB at *
  cases CB with
  | false =>
    have HR : Hid (R = none) := HC0.out rfl
    clear HC0 HC1 HC2
    go_enter Tryd.func15, Tryd.ntmps15
    go_wp2_with fail
    first | rw [hX] | skip
    refine hCan.mono ?_
    rintro x w2 ⟨rfl, b2⟩
    have g21 := (b2.block _ (by omega)).trans gX1
    have bw2 := bX.trans (b2.mono bX.size)
    clear hCan gX0 gX1 bX b2 hx0 hx1 hx2 hx3 hx4 hx5 hX hQ h1 h2 h3
    have fx0 : w2.cell? ⟨w.heap.size + 1, 0, none⟩ = some (.int .i64 0) := by rw [cell_of_row _ _ _ _ _ _ g21]; rfl
    have fx1 : w2.cell? ⟨w.heap.size + 1, 1, none⟩ = some (.int .i64 0) := by rw [cell_of_row _ _ _ _ _ _ g21]; rfl
    have fx2 : w2.cell? ⟨w.heap.size + 1, 2, none⟩ = some (.slice none 0 0) := by rw [cell_of_row _ _ _ _ _ _ g21]; rfl
    have fx3 : w2.cell? ⟨w.heap.size + 1, 3, none⟩ = some (.int .i64 0) := by rw [cell_of_row _ _ _ _ _ _ g21]; rfl
    have fx4 : w2.cell? ⟨w.heap.size + 1, 4, none⟩ = some (.slice none 0 0) := by rw [cell_of_row _ _ _ _ _ _ g21]; rfl
    have fx5 : w2.cell? ⟨w.heap.size + 1, 5, none⟩ = some (.slice none 0 0) := by rw [cell_of_row _ _ _ _ _ _ g21]; rfl
    have fz0 : w2.frozen? ⟨w.heap.size + 1, 0, none⟩ = false := frz_of g21
    have fz1 : w2.frozen? ⟨w.heap.size + 1, 1, none⟩ = false := frz_of g21
    have fz2 : w2.frozen? ⟨w.heap.size + 1, 2, none⟩ = false := frz_of g21
    have fz3 : w2.frozen? ⟨w.heap.size + 1, 3, none⟩ = false := frz_of g21
    have fz4 : w2.frozen? ⟨w.heap.size + 1, 4, none⟩ = false := frz_of g21
    have fz5 : w2.frozen? ⟨w.heap.size + 1, 5, none⟩ = false := frz_of g21
    have hon : Only (w.heap.size + 1) w2 (((((((w2).setCell ⟨w.heap.size + 1, 0, none⟩ (.int .i64 0)).setCell ⟨w.heap.size + 1, 1, none⟩ (.int .i64 0)).setCell ⟨w.heap.size + 1, 2, none⟩ (.slice none 0 0)).setCell ⟨w.heap.size + 1, 3, none⟩ (.int .i64 0)).setCell ⟨w.heap.size + 1, 4, none⟩ (.slice none 0 0)).setCell ⟨w.heap.size + 1, 5, none⟩ (.slice none 0 0)) := ((((((Only.refl _ _).setCell 0 _).setCell 1 _).setCell 2 _).setCell 3 _).setCell 4 _).setCell 5 _
    have bf : Below w.heap.size w (((((((w2).setCell ⟨w.heap.size + 1, 0, none⟩ (.int .i64 0)).setCell ⟨w.heap.size + 1, 1, none⟩ (.int .i64 0)).setCell ⟨w.heap.size + 1, 2, none⟩ (.slice none 0 0)).setCell ⟨w.heap.size + 1, 3, none⟩ (.int .i64 0)).setCell ⟨w.heap.size + 1, 4, none⟩ (.slice none 0 0)).setCell ⟨w.heap.size + 1, 5, none⟩ (.slice none 0 0)) := bw2.trans (hon.below (by omega))
    clear hon
    go_wp2
    refine bodyPost_ret (v := .tuple #[.agg #[.int .i64 0, .int .i64 0, .slice none 0 0, .int .i64 0, .slice none 0 0, .slice none 0 0], .int .i64 95]) ?_ rfl ?_
    · simp only [results, Tryd.results15]
      go_simp
    · rw [HR.out]
      exact ⟨none, 0, none, 0, none, 0, rfl, HB.nil _, HB.nil _, PA.nil _, bf⟩
  | true =>
    obtain ⟨a3, a4⟩ := HC1.out rfl
    have hRR := HC2.out rfl
    clear HC0 HC1 HC2
    obtain ⟨N, hN⟩ : ∃ N : Nat, hd.e = (N : Int) := ⟨hd.e.toNat, by omega⟩
    have hNt : hd.e.toNat = N := by omega
    have hNb : N ≤ 255 := by omega
    rw [hNt] at hRR
    have HN : Hid (hd.e = (N : Int)) := hN
    by_cases h0 : ss = []
    · subst h0
      have HR : Hid (R = none) := by
        show _ = _
        rw [hRR]
        rfl
      clear hRR hNt hN HN a3 a4
      go_enter Tryd.func15, Tryd.ntmps15
      go_wp2_with fail
      first | rw [hX] | skip
      refine hCan.mono ?_
      rintro x w2 ⟨rfl, b2⟩
      have g21 := (b2.block _ (by omega)).trans gX1
      have bw2 := bX.trans (b2.mono bX.size)
      clear hCan gX0 gX1 bX b2 hx0 hx1 hx2 hx3 hx4 hx5 hX hQ h1 h2 h3
      have fx0 : w2.cell? ⟨w.heap.size + 1, 0, none⟩ = some (.int .i64 0) := by rw [cell_of_row _ _ _ _ _ _ g21]; rfl
      have fx1 : w2.cell? ⟨w.heap.size + 1, 1, none⟩ = some (.int .i64 0) := by rw [cell_of_row _ _ _ _ _ _ g21]; rfl
      have fx2 : w2.cell? ⟨w.heap.size + 1, 2, none⟩ = some (.slice none 0 0) := by rw [cell_of_row _ _ _ _ _ _ g21]; rfl
      have fx3 : w2.cell? ⟨w.heap.size + 1, 3, none⟩ = some (.int .i64 0) := by rw [cell_of_row _ _ _ _ _ _ g21]; rfl
      have fx4 : w2.cell? ⟨w.heap.size + 1, 4, none⟩ = some (.slice none 0 0) := by rw [cell_of_row _ _ _ _ _ _ g21]; rfl
      have fx5 : w2.cell? ⟨w.heap.size + 1, 5, none⟩ = some (.slice none 0 0) := by rw [cell_of_row _ _ _ _ _ _ g21]; rfl
      have fz0 : w2.frozen? ⟨w.heap.size + 1, 0, none⟩ = false := frz_of g21
      have fz1 : w2.frozen? ⟨w.heap.size + 1, 1, none⟩ = false := frz_of g21
      have fz2 : w2.frozen? ⟨w.heap.size + 1, 2, none⟩ = false := frz_of g21
      have fz3 : w2.frozen? ⟨w.heap.size + 1, 3, none⟩ = false := frz_of g21
      have fz4 : w2.frozen? ⟨w.heap.size + 1, 4, none⟩ = false := frz_of g21
      have fz5 : w2.frozen? ⟨w.heap.size + 1, 5, none⟩ = false := frz_of g21
      have hon : Only (w.heap.size + 1) w2 (((((((w2).setCell ⟨w.heap.size + 1, 0, none⟩ (.int .i64 0)).setCell ⟨w.heap.size + 1, 1, none⟩ (.int .i64 0)).setCell ⟨w.heap.size + 1, 2, none⟩ (.slice none 0 0)).setCell ⟨w.heap.size + 1, 3, none⟩ (.int .i64 0)).setCell ⟨w.heap.size + 1, 4, none⟩ (.slice none 0 0)).setCell ⟨w.heap.size + 1, 5, none⟩ (.slice none 0 0)) := ((((((Only.refl _ _).setCell 0 _).setCell 1 _).setCell 2 _).setCell 3 _).setCell 4 _).setCell 5 _
      have bf : Below w.heap.size w (((((((w2).setCell ⟨w.heap.size + 1, 0, none⟩ (.int .i64 0)).setCell ⟨w.heap.size + 1, 1, none⟩ (.int .i64 0)).setCell ⟨w.heap.size + 1, 2, none⟩ (.slice none 0 0)).setCell ⟨w.heap.size + 1, 3, none⟩ (.int .i64 0)).setCell ⟨w.heap.size + 1, 4, none⟩ (.slice none 0 0)).setCell ⟨w.heap.size + 1, 5, none⟩ (.slice none 0 0)) := bw2.trans (hon.below (by omega))
      clear hon
      go_wp2
      refine bodyPost_ret (v := .tuple #[.agg #[.int .i64 0, .int .i64 0, .slice none 0 0, .int .i64 0, .slice none 0 0, .slice none 0 0], .int .i64 95]) ?_ rfl ?_
      · simp only [results, Tryd.results15]
        go_simp
      · rw [HR.out]
        exact ⟨none, 0, none, 0, none, 0, rfl, HB.nil _, HB.nil _, PA.nil _, bf⟩
    · obtain ⟨n1, hn1⟩ : ∃ n1, ss.length = n1 + 1 := ⟨ss.length - 1, by have := List.length_pos_iff.2 h0; omega⟩
      have Hn : Hid (ss.length = n1 + 1) := hn1
      obtain ⟨sb, so, hsp, hsq⟩ := hQ.addr (by omega)
      subst hsp
      obtain ⟨way0, hway0⟩ : ∃ way, ss[0]? = some way := ⟨_, List.getElem?_eq_getElem (by omega)⟩
      obtain ⟨wp, wc, gw1, gw2⟩ := hsq 0 way0 hway0
      rw [Nat.add_zero] at gw1
      have HQs : Hid (∀ (i : Nat) (s : List Rc), ss[i]? = some s → ∃ q c, w.cell? ⟨sb, so + i, none⟩ = some (.slice q s.length c) ∧ RA w (.slice q s.length c) s) := hsq
      have hg0 : gC size hd ss t [] 0 = (decide (((folR size hd way0 0).getD zR).t ≤ t), (folR size hd way0 0).isSome) := by unfold gC; rw [show ss[([] : List Nat).length]? = some way0 from hway0]; rfl
      have hf0 := fnd_some (size := size) (hd := hd) (t := t) (m := 0) (a := zR) (l := []) (ss := ss) (way := way0) hway0
      have hFol : ∀ W, Below w.heap.size w W → Calls Tryd.prog 8 #[.int .i64 size, .agg (RVs hd htp htc hlp hlc hkp hkc), .slice wp way0.length wc, .int .i64 0] W fun x w' => ∃ tp tc lp lc kp kc, x = .returned (.tuple #[.agg (RVs ((folR size hd way0 0).getD zR) tp tc lp lc kp kc), .bool (folR size hd way0 0).isSome]) ∧ HB w (.slice tp ((folR size hd way0 0).getD zR).tr.length tc) ((folR size hd way0 0).getD zR).tr ∧ HB w (.slice lp ((folR size hd way0 0).getD zR).li.length lc) ((folR size hd way0 0).getD zR).li ∧ PA w (.slice kp ((folR size hd way0 0).getD zR).lk.length kc) ((folR size hd way0 0).getD zR).lk ∧ Below W.heap.size W w' := fun W hB => (rfollowO_any size hd _ _ _ _ way0 0 w W hB h1 h2 h3 gw2).mono (fun x w' hx => folO_gen hx)
      obtain ⟨A, hA⟩ : ∃ A, srchA (gC size hd ss t) N = A := ⟨_, rfl⟩
      rw [hA] at hRR
      have HRR : Hid (R = if A.2.isSome = true ∧ ss.length ≤ A.1.length then some (fnd size hd t ss A.1 zR) else none) := hRR
      have HA0 : Hid (¬ ((folR size hd way0 0).isSome = true ∧ ((folR size hd way0 0).getD zR).t ≤ t) → R = none) := by
        intro hno
        have hA2 : A = ([0], none) := by
          rw [← hA]
          unfold srchA
          rw [hg0, if_neg (fun h => hno ⟨h.1, of_decide_eq_true h.2⟩)]
        rw [hRR, hA2]
        simp
      have HA1 : Hid ((folR size hd way0 0).isSome = true ∧ ((folR size hd way0 0).getD zR).t ≤ t → Hid (srchI (gC size hd ss t) [0] 0 N = A)) := by
        intro hyes
        show _ = _
        rw [← hA]
        unfold srchA
        rw [hg0, if_pos ⟨hyes.1, decide_eq_true hyes.2⟩]
      have HQ0 : Hid ((folR size hd way0 0).isSome = true ∧ ((folR size hd way0 0).getD zR).t ≤ t → Hid (fnd size hd t ss [0] zR = (folR size hd way0 0).getD zR)) := by
        intro hyes
        show _ = _
        exact hf0.trans (if_pos hyes)
      clear hf0 hg0 hRR hA hNt hN
      generalize (folR size hd way0 0).getD zR = q at *
      generalize (folR size hd way0 0).isSome = ok at *
      have hcut := fun W => run_cut (P := Tryd.prog) Tryd.underlying35 s_recsE (some ⟨sb, so, none⟩) (n1 + 1) sc 1 1 rfl (by omega) W
      rw [show n1 + 1 - 1 = n1 by omega] at hcut
      have Hpc0 : 0 < n1 → cutP (some ⟨sb, so, none⟩) sc 1 = some ⟨sb, so + 1, none⟩ := fun h => cutP_one sb so sc (by omega)
      generalize cutP (some ⟨sb, so, none⟩) sc 1 = pc at *
      have Hpc : Hid (0 < n1 → pc = some ⟨sb, so + 1, none⟩) := Hpc0
      rw [hn1] at hQ hQl ⊢
      have hn64 : n1 + 1 ≤ 9223372036854775807 := by omega
      have hz0 : ((n1 : Int) + 1 == 0) = false := by simp; omega
      have hpos : (0 : Int) < (n1 : Int) + 1 := by omega
      clear hn1 hsq hway0 h0 Hpc0
      go_enter Tryd.func15, Tryd.ntmps15
      go_wp2_with fail
      first | rw [hX] | skip
      refine hCan.mono ?_
      rintro x w2 ⟨rfl, b2⟩
      have g20 := (b2.block _ (by omega)).trans gX0
      have g21 := (b2.block _ (by omega)).trans gX1
      have bw2 := bX.trans (b2.mono bX.size)
      have hs2 : w.heap.size + 2 ≤ w2.heap.size := by have := b2.size; omega
      have cw0 := cell_later bw2 gw1
      clear hCan gX0 gX1 bX b2 hx0 hx1 hx2 hx3 hx4 hx5 hX gw1 gw2 sX
      have hcells : ∀ W, Below w2.heap.size w2 W → (W.cell? ⟨w.heap.size, 0, none⟩ = some (.int .i64 hd.e) ∧ W.cell? ⟨w.heap.size, 1, none⟩ = some (.int .i64 hd.t) ∧ W.cell? ⟨w.heap.size, 2, none⟩ = some (.slice htp hd.tr.length htc) ∧ W.cell? ⟨w.heap.size, 3, none⟩ = some (.int .i64 hd.c) ∧ W.cell? ⟨w.heap.size, 4, none⟩ = some (.slice hlp hd.li.length hlc) ∧ W.cell? ⟨w.heap.size, 5, none⟩ = some (.slice hkp hd.lk.length hkc)) ∧ W.cell? ⟨sb, so, none⟩ = some (.slice wp way0.length wc) := by
        intro W hb
        have z1 := (hb.block w.heap.size (by omega)).trans g20
        refine ⟨⟨?_, ?_, ?_, ?_, ?_, ?_⟩, cell_later hb cw0⟩ <;> (rw [cell_of_row _ _ _ _ _ _ z1]; rfl)
      have HCe : Hid (∀ W, Below w2.heap.size w2 W → (W.cell? ⟨w.heap.size, 0, none⟩ = some (.int .i64 hd.e) ∧ W.cell? ⟨w.heap.size, 1, none⟩ = some (.int .i64 hd.t) ∧ W.cell? ⟨w.heap.size, 2, none⟩ = some (.slice htp hd.tr.length htc) ∧ W.cell? ⟨w.heap.size, 3, none⟩ = some (.int .i64 hd.c) ∧ W.cell? ⟨w.heap.size, 4, none⟩ = some (.slice hlp hd.li.length hlc) ∧ W.cell? ⟨w.heap.size, 5, none⟩ = some (.slice hkp hd.lk.length hkc)) ∧ W.cell? ⟨sb, so, none⟩ = some (.slice wp way0.length wc)) := hcells
      have HFol : Hid (∀ W, Below w2.heap.size w2 W → Calls Tryd.prog 8 #[.int .i64 size, .agg (RVs hd htp htc hlp hlc hkp hkc), .slice wp way0.length wc, .int .i64 0] W fun x w' => ∃ tp tc lp lc kp kc, x = .returned (.tuple #[.agg (RVs q tp tc lp lc kp kc), .bool ok]) ∧ HB w (.slice tp q.tr.length tc) q.tr ∧ HB w (.slice lp q.li.length lc) q.li ∧ PA w (.slice kp q.lk.length kc) q.lk ∧ Below W.heap.size W w') := fun W hB => hFol W (bw2.trans (hB.mono bw2.size))
      have bD : Below w2.heap.size w2 w2.drew := (Below.refl _ w2).drew
      have hH0 := hcells _ bD
      have bDa : Below w2.heap.size w2 (w2.drew.alloc (.cells #[.int .i64 0, .int .i64 0, .slice none 0 0, .int .i64 0, .slice none 0 0, .slice none 0 0] 25)) := bD.alloc bD.size _
      have hH1 := hcells _ bDa
      have bDb : Below w2.heap.size w2 (w2.alloc (.cells #[.int .i64 0, .int .i64 0, .slice none 0 0, .int .i64 0, .slice none 0 0, .slice none 0 0] 25)) := (Below.refl _ w2).alloc (Nat.le_refl _) _
      have hH1b := hcells _ bDb
      have bDc : Below w2.heap.size w2 (w2.alloc (.cells #[.int .i64 0, .int .i64 0, .slice none 0 0, .int .i64 0, .slice none 0 0, .slice none 0 0] 25)).drew := bDb.drew
      have hH1c := hcells _ bDc
      clear hFol hcells
      go_wp2
      go_region_held3 (fun W => (W.cell? ⟨w.heap.size, 0, none⟩ = some (.int .i64 hd.e) ∧ W.cell? ⟨w.heap.size, 1, none⟩ = some (.int .i64 hd.t) ∧ W.cell? ⟨w.heap.size, 2, none⟩ = some (.slice htp hd.tr.length htc) ∧ W.cell? ⟨w.heap.size, 3, none⟩ = some (.int .i64 hd.c) ∧ W.cell? ⟨w.heap.size, 4, none⟩ = some (.slice hlp hd.li.length hlc) ∧ W.cell? ⟨w.heap.size, 5, none⟩ = some (.slice hkp hd.lk.length hkc)) ∧ W.cell? ⟨sb, so, none⟩ = some (.slice wp way0.length wc)) (first | with_reducible exact hH0 | with_reducible exact hH1 | with_reducible exact hH1b | with_reducible exact hH1c | with_reducible assumption) (first | (go_at_call 8; refine (HFol.out _ (by first | exact bD | exact bDa | exact bDb | exact bDc)).mono ?_; rintro x w5 ⟨ntp, ntc, nlp, nlc, nkp, nkc, rfl, nq1, nq2, nq3, nb5⟩; have nb : Below w2.heap.size w2 w5 := Below.trans (by first | exact bD | exact bDa | exact bDb | exact bDc) (nb5.mono (by first | exact bD.size | exact bDa.size | exact bDb.size | exact bDc.size)); have hH2 := HCe.out _ nb; have hH3 := HCe.out _ (nb.alloc nb.size (.cells #[.int .i64 0, .int .i64 0, .slice none 0 0, .int .i64 0, .slice none 0 0, .slice none 0 0] 25)); have hH5 := HCe.out _ (nb.alloc nb.size (.cells (RVs q ntp ntc nlp nlc nkp nkc) 25)); first | (have gz := (nb5.block w2.heap.size (by simp)).trans (alloc_drew_new w2 _); obtain ⟨⟨x0, x1, x2, x3, x4, x5⟩, y0, y1, y2, y3, y4, y5⟩ := six_of gz; have hH4 := HCe.out _ (sets_below nb (.int .i64 q.e) (.int .i64 q.t) (.slice ntp q.tr.length ntc) (.int .i64 q.c) (.slice nlp q.li.length nlc) (.slice nkp q.lk.length nkc))) | skip))
      · have GX := heap_alloc_new w5 (.cells (RVs q ntp ntc nlp nlc nkp nkc) 25)
        have bU : Below w2.heap.size w2 (w5.alloc (.cells (RVs q ntp ntc nlp nlc nkp nkc) 25)) := nb.alloc nb.size _
        have hgx : w2.heap.size ≤ w5.heap.size := nb.size
        generalize w5.alloc (.cells (RVs q ntp ntc nlp nlc nkp nkc) 25) = U at *
        generalize w5.heap.size = gx at *
        have bwU := bw2.trans (bU.mono bw2.size)
        have US := (bU.block _ (by omega)).trans g20
        have UZ := (bU.block _ (by omega)).trans g21
        have ltx : gx < U.heap.size := (Array.getElem?_eq_some_iff.1 GX).1
        have gq0 : U.cell? ⟨gx, 0, none⟩ = some (.int .i64 q.e) := by rw [cell_of_row _ _ _ _ _ _ GX]; rfl
        have gq1 : U.cell? ⟨gx, 1, none⟩ = some (.int .i64 q.t) := by rw [cell_of_row _ _ _ _ _ _ GX]; rfl
        have gq2 : U.cell? ⟨gx, 2, none⟩ = some (.slice ntp q.tr.length ntc) := by rw [cell_of_row _ _ _ _ _ _ GX]; rfl
        have gq3 : U.cell? ⟨gx, 3, none⟩ = some (.int .i64 q.c) := by rw [cell_of_row _ _ _ _ _ _ GX]; rfl
        have gq4 : U.cell? ⟨gx, 4, none⟩ = some (.slice nlp q.li.length nlc) := by rw [cell_of_row _ _ _ _ _ _ GX]; rfl
        have gq5 : U.cell? ⟨gx, 5, none⟩ = some (.slice nkp q.lk.length nkc) := by rw [cell_of_row _ _ _ _ _ _ GX]; rfl
        have uh : U.cell? ⟨w.heap.size, 0, none⟩ = some (.int .i64 hd.e) := by rw [cell_of_row _ _ _ _ _ _ US]; rfl
        clear hH0 hH1 hH1b hH1c hH2 hH3 hH5 HCe HFol nb nb5 bD bDa bDb bDc
        cases hok : ok with
        | false =>
          subst hok
          have HR : Hid (R = none) := HA0.out (fun h => by cases h.1)
          clear HA0 HA1
          have fx0 : U.cell? ⟨w.heap.size + 1, 0, none⟩ = some (.int .i64 0) := by rw [cell_of_row _ _ _ _ _ _ UZ]; rfl
          have fx1 : U.cell? ⟨w.heap.size + 1, 1, none⟩ = some (.int .i64 0) := by rw [cell_of_row _ _ _ _ _ _ UZ]; rfl
          have fx2 : U.cell? ⟨w.heap.size + 1, 2, none⟩ = some (.slice none 0 0) := by rw [cell_of_row _ _ _ _ _ _ UZ]; rfl
          have fx3 : U.cell? ⟨w.heap.size + 1, 3, none⟩ = some (.int .i64 0) := by rw [cell_of_row _ _ _ _ _ _ UZ]; rfl
          have fx4 : U.cell? ⟨w.heap.size + 1, 4, none⟩ = some (.slice none 0 0) := by rw [cell_of_row _ _ _ _ _ _ UZ]; rfl
          have fx5 : U.cell? ⟨w.heap.size + 1, 5, none⟩ = some (.slice none 0 0) := by rw [cell_of_row _ _ _ _ _ _ UZ]; rfl
          have fz0 : U.frozen? ⟨w.heap.size + 1, 0, none⟩ = false := frz_of UZ
          have fz1 : U.frozen? ⟨w.heap.size + 1, 1, none⟩ = false := frz_of UZ
          have fz2 : U.frozen? ⟨w.heap.size + 1, 2, none⟩ = false := frz_of UZ
          have fz3 : U.frozen? ⟨w.heap.size + 1, 3, none⟩ = false := frz_of UZ
          have fz4 : U.frozen? ⟨w.heap.size + 1, 4, none⟩ = false := frz_of UZ
          have fz5 : U.frozen? ⟨w.heap.size + 1, 5, none⟩ = false := frz_of UZ
          have hon : Only (w.heap.size + 1) U (((((((U).setCell ⟨w.heap.size + 1, 0, none⟩ (.int .i64 0)).setCell ⟨w.heap.size + 1, 1, none⟩ (.int .i64 0)).setCell ⟨w.heap.size + 1, 2, none⟩ (.slice none 0 0)).setCell ⟨w.heap.size + 1, 3, none⟩ (.int .i64 0)).setCell ⟨w.heap.size + 1, 4, none⟩ (.slice none 0 0)).setCell ⟨w.heap.size + 1, 5, none⟩ (.slice none 0 0)) := ((((((Only.refl _ _).setCell 0 _).setCell 1 _).setCell 2 _).setCell 3 _).setCell 4 _).setCell 5 _
          have bf : Below w.heap.size w (((((((U).setCell ⟨w.heap.size + 1, 0, none⟩ (.int .i64 0)).setCell ⟨w.heap.size + 1, 1, none⟩ (.int .i64 0)).setCell ⟨w.heap.size + 1, 2, none⟩ (.slice none 0 0)).setCell ⟨w.heap.size + 1, 3, none⟩ (.int .i64 0)).setCell ⟨w.heap.size + 1, 4, none⟩ (.slice none 0 0)).setCell ⟨w.heap.size + 1, 5, none⟩ (.slice none 0 0)) := bwU.trans (hon.below (by omega))
          clear hon
          go_wp2
          refine bodyPost_ret (v := .tuple #[.agg #[.int .i64 0, .int .i64 0, .slice none 0 0, .int .i64 0, .slice none 0 0, .slice none 0 0], .int .i64 95]) ?_ rfl ?_
          · simp only [results, Tryd.results15]
            go_simp
          · rw [HR.out]
            exact ⟨none, 0, none, 0, none, 0, rfl, HB.nil _, HB.nil _, PA.nil _, bf⟩
        | true =>
          subst hok
          by_cases hfit : q.t ≤ t
          · have hfit2 : ¬ t < q.t := by omega
            have HS0 := HA1.out ⟨rfl, hfit⟩
            have HF0 := HQ0.out ⟨rfl, hfit⟩
            have gU : Below gx U U.drew := (Below.refl _ U).drew
            have gX2 : U.drew.heap[gx]? = some (.cells #[.int .i64 q.e, .int .i64 q.t, .slice ntp q.tr.length ntc, .int .i64 q.c, .slice nlp q.li.length nlc, .slice nkp q.lk.length nkc] 25 (0, 0)) := GX
            clear HA0 HA1 HQ0
            go_wp2
            go_region
            all_goals
              go_wp2
              go_loopw [12, 13, 52] (fun a b i wr => ∃ (k : Nat) (l : List Nat) (lo hi : Nat) (r : Rc) (ftp : Option Addr) (ftc : Nat) (flp : Option Addr) (flc : Nat) (fkp : Option Addr) (fkc : Nat), k ≤ n1 ∧ a = .int .i64 (lo : Int) ∧ b = .int .i64 (hi : Int) ∧ i = .int .i64 (k : Int) ∧ lo ≤ hi ∧ hi ≤ N ∧ Hid (l.length = k + 1) ∧ Hid (srchI (gC size hd ss t) l lo hi = A) ∧ Hid (fnd size hd t ss l zR = r) ∧ wr.heap[gx]? = some (.cells #[.int .i64 r.e, .int .i64 r.t, .slice ftp r.tr.length ftc, .int .i64 r.c, .slice flp r.li.length flc, .slice fkp r.lk.length fkc] 25 (0, 0)) ∧ HB w (.slice ftp r.tr.length ftc) r.tr ∧ HB w (.slice flp r.li.length flc) r.li ∧ PA w (.slice fkp r.lk.length fkc) r.lk ∧ Below gx U wr) (fun _ _ i _ => n1 - (intOf i).toNat)
              case atStart => exact ⟨0, [0], 0, N, q, ntp, ntc, nlp, nlc, nkp, nkc, Nat.zero_le _, rfl, by rw [HN.out], rfl, Nat.zero_le _, Nat.le_refl _, rfl, HS0, HF0, gX2, nq1, nq2, nq3, gU⟩
              case round =>
                clear HS0 HF0 gX2 gU gq0 gq1 gq2 gq3 gq4 gq5 GX hfit hfit2 uh
                obtain ⟨k, l, lo, hi, r, ftp, ftc, flp, flc, fkp, fkc, hk, rfl, rfl, rfl, hlo, hhi, Hll, HI, HFn, GF, r1, r2, r3, hbe⟩ := hrel
                have bwr : Below w.heap.size w wr := bwU.trans (hbe.mono (by omega))
                have WS := (hbe.block _ (by omega)).trans US
                have WZ := (hbe.block _ (by omega)).trans UZ
                have ltr : gx < wr.heap.size := (Array.getElem?_eq_some_iff.1 GF).1
                by_cases hkn : k < n1
                · obtain ⟨way, hway⟩ : ∃ way, ss[k + 1]? = some way := ⟨_, List.getElem?_eq_getElem (by have := Hn.out; omega)⟩
                  obtain ⟨vp, vc, gv1, gv2⟩ := HQs.out (k + 1) way hway
                  have cw := cell_later bwr gv1
                  obtain rfl : pc = some ⟨sb, so + 1, none⟩ := Hpc.out (by omega)
                  rw [show so + (k + 1) = so + 1 + k by omega] at cw
                  have hkn2 : (k : Int) < (n1 : Int) := by omega
                  by_cases hlt : lo < hi
                  · obtain ⟨m, hm⟩ : ∃ m, m = (lo + hi + 1) / 2 := ⟨_, rfl⟩
                    have hm1 : lo < m := by omega
                    have hm2 : m ≤ hi := by omega
                    have em : (((lo : Int) + (hi : Int) + 1) / 2) = (m : Int) := by omega
                    have et : Int.tdiv ((lo : Int) + (hi : Int) + 1) 2 = (m : Int) := by rw [Int.tdiv_eq_ediv_of_nonneg (by omega)]; exact em
                    have hg : gC size hd ss t l m = (decide (((folR size hd way (m : Int)).getD zR).t ≤ t), (folR size hd way (m : Int)).isSome) := by unfold gC; rw [Hll.out, hway]
                    have hfn := fnd_some (size := size) (hd := hd) (t := t) (m := m) (a := zR) (l := l) (ss := ss) (way := way) (by rw [Hll.out]; exact hway)
                    have hC := fun (W : World) (hB : Below w.heap.size w W) => (rfollowO_any size hd _ _ _ _ way (m : Int) w W hB h1 h2 h3 gv2).mono (fun x w' hx => folO_gen hx)
                    have Hs : Hid ((folR size hd way (m : Int)).isSome = false → (l ++ [m], none) = A) := fun e => (srchI_stop _ l lo hi m hlt hm (by rw [hg]; exact e)).symm.trans HI.out
                    have Hy : Hid ((folR size hd way (m : Int)).isSome = true → ((folR size hd way (m : Int)).getD zR).t ≤ t → srchI (gC size hd ss t) (l ++ [m]) m hi = A) := fun e e2 => (srchI_yes _ l lo hi m hlt hm (by rw [hg]; exact decide_eq_true e2) (by rw [hg]; exact e)).symm.trans HI.out
                    have Hno : Hid ((folR size hd way (m : Int)).isSome = true → ¬ ((folR size hd way (m : Int)).getD zR).t ≤ t → srchI (gC size hd ss t) (l ++ [m]) lo (m - 1) = A) := fun e e2 => (srchI_no _ l lo hi m hlt hm (by rw [hg]; exact decide_eq_false e2) (by rw [hg]; exact e)).symm.trans HI.out
                    have HFs : Hid (fnd size hd t ss (l ++ [m]) zR = if (folR size hd way (m : Int)).isSome = true ∧ ((folR size hd way (m : Int)).getD zR).t ≤ t then (folR size hd way (m : Int)).getD zR else r) := by rw [HFn.out] at hfn; exact hfn
                    have Hl2 : Hid ((l ++ [m]).length = k + 1 + 1) := by show _ = _; rw [List.length_append, Hll.out]; rfl
                    have hCw := hC wr bwr
                    clear hC hg hfn hm hway gv1 gv2
                    generalize (folR size hd way (m : Int)).getD zR = p at *
                    generalize (folR size hd way (m : Int)).isSome = pok at *
                    have hlt2 : (lo : Int) < (hi : Int) := by omega
                    have hge : ¬ ((hi : Int) ≤ (lo : Int)) := by omega
                    have wh0 : wr.cell? ⟨w.heap.size, 0, none⟩ = some (.int .i64 hd.e) := by rw [cell_of_row _ _ _ _ _ _ WS]; rfl
                    have wh1 : wr.cell? ⟨w.heap.size, 1, none⟩ = some (.int .i64 hd.t) := by rw [cell_of_row _ _ _ _ _ _ WS]; rfl
                    have wh2 : wr.cell? ⟨w.heap.size, 2, none⟩ = some (.slice htp hd.tr.length htc) := by rw [cell_of_row _ _ _ _ _ _ WS]; rfl
                    have wh3 : wr.cell? ⟨w.heap.size, 3, none⟩ = some (.int .i64 hd.c) := by rw [cell_of_row _ _ _ _ _ _ WS]; rfl
                    have wh4 : wr.cell? ⟨w.heap.size, 4, none⟩ = some (.slice hlp hd.li.length hlc) := by rw [cell_of_row _ _ _ _ _ _ WS]; rfl
                    have wh5 : wr.cell? ⟨w.heap.size, 5, none⟩ = some (.slice hkp hd.lk.length hkc) := by rw [cell_of_row _ _ _ _ _ _ WS]; rfl
                    go_wp2_with fail
                    refine hCw.mono ?_
                    rintro x w6 ⟨ptp, ptc, plp, plc, pkp, pkc, rfl, pr1, pr2, pr3, b6⟩
                    have b7 : Below wr.heap.size wr (w6.alloc (.cells #[.int .i64 p.e, .int .i64 p.t, .slice ptp p.tr.length ptc, .int .i64 p.c, .slice plp p.li.length plc, .slice pkp p.lk.length pkc] 25)) := b6.alloc b6.size _
                    have GP := heap_alloc_new w6 (.cells #[.int .i64 p.e, .int .i64 p.t, .slice ptp p.tr.length ptc, .int .i64 p.c, .slice plp p.li.length plc, .slice pkp p.lk.length pkc] 25)
                    have hs6 := b6.size
                    have G7 := (b7.block _ (by omega)).trans GF
                    have Z7 := (b7.block _ (by omega)).trans WZ
                    have bw7 := bwr.trans (b7.mono bwr.size)
                    have bU7 : Below gx U (w6.alloc (.cells #[.int .i64 p.e, .int .i64 p.t, .slice ptp p.tr.length ptc, .int .i64 p.c, .slice plp p.li.length plc, .slice pkp p.lk.length pkc] 25)) := hbe.trans (b7.mono (by omega))
                    generalize hY : w6.alloc (.cells #[.int .i64 p.e, .int .i64 p.t, .slice ptp p.tr.length ptc, .int .i64 p.c, .slice plp p.li.length plc, .slice pkp p.lk.length pkc] 25) = Y at *
                    generalize hg6 : w6.heap.size = gp at *
                    have ltp : gp < Y.heap.size := (Array.getElem?_eq_some_iff.1 GP).1
                    have hgpx : gx < gp := by omega
                    clear hCw b6 b7 wh0 wh1 wh2 wh3 wh4 wh5
                    have cp0 : Y.cell? ⟨gp, 0, none⟩ = some (.int .i64 p.e) := by rw [cell_of_row _ _ _ _ _ _ GP]; rfl
                    have cp1 : Y.cell? ⟨gp, 1, none⟩ = some (.int .i64 p.t) := by rw [cell_of_row _ _ _ _ _ _ GP]; rfl
                    have cp2 : Y.cell? ⟨gp, 2, none⟩ = some (.slice ptp p.tr.length ptc) := by rw [cell_of_row _ _ _ _ _ _ GP]; rfl
                    have cp3 : Y.cell? ⟨gp, 3, none⟩ = some (.int .i64 p.c) := by rw [cell_of_row _ _ _ _ _ _ GP]; rfl
                    have cp4 : Y.cell? ⟨gp, 4, none⟩ = some (.slice plp p.li.length plc) := by rw [cell_of_row _ _ _ _ _ _ GP]; rfl
                    have cp5 : Y.cell? ⟨gp, 5, none⟩ = some (.slice pkp p.lk.length pkc) := by rw [cell_of_row _ _ _ _ _ _ GP]; rfl
                    have cr0 : Y.cell? ⟨gx, 0, none⟩ = some (.int .i64 r.e) := by rw [cell_of_row _ _ _ _ _ _ G7]; rfl
                    have cr1 : Y.cell? ⟨gx, 1, none⟩ = some (.int .i64 r.t) := by rw [cell_of_row _ _ _ _ _ _ G7]; rfl
                    have cr2 : Y.cell? ⟨gx, 2, none⟩ = some (.slice ftp r.tr.length ftc) := by rw [cell_of_row _ _ _ _ _ _ G7]; rfl
                    have cr3 : Y.cell? ⟨gx, 3, none⟩ = some (.int .i64 r.c) := by rw [cell_of_row _ _ _ _ _ _ G7]; rfl
                    have cr4 : Y.cell? ⟨gx, 4, none⟩ = some (.slice flp r.li.length flc) := by rw [cell_of_row _ _ _ _ _ _ G7]; rfl
                    have cr5 : Y.cell? ⟨gx, 5, none⟩ = some (.slice fkp r.lk.length fkc) := by rw [cell_of_row _ _ _ _ _ _ G7]; rfl
                    have zr0 : Y.frozen? ⟨gx, 0, none⟩ = false := frz_of G7
                    have zr1 : Y.frozen? ⟨gx, 1, none⟩ = false := frz_of G7
                    have zr2 : Y.frozen? ⟨gx, 2, none⟩ = false := frz_of G7
                    have zr3 : Y.frozen? ⟨gx, 3, none⟩ = false := frz_of G7
                    have zr4 : Y.frozen? ⟨gx, 4, none⟩ = false := frz_of G7
                    have zr5 : Y.frozen? ⟨gx, 5, none⟩ = false := frz_of G7
                    cases hpok : pok with
                    | false =>
                      subst hpok
                      have HR : Hid (R = none) := by
                        show _ = _
                        rw [HRR.out, ← Hs.out rfl]
                        simp
                      clear Hs Hy Hno HFs
                      have fx0 : Y.cell? ⟨w.heap.size + 1, 0, none⟩ = some (.int .i64 0) := by rw [cell_of_row _ _ _ _ _ _ Z7]; rfl
                      have fx1 : Y.cell? ⟨w.heap.size + 1, 1, none⟩ = some (.int .i64 0) := by rw [cell_of_row _ _ _ _ _ _ Z7]; rfl
                      have fx2 : Y.cell? ⟨w.heap.size + 1, 2, none⟩ = some (.slice none 0 0) := by rw [cell_of_row _ _ _ _ _ _ Z7]; rfl
                      have fx3 : Y.cell? ⟨w.heap.size + 1, 3, none⟩ = some (.int .i64 0) := by rw [cell_of_row _ _ _ _ _ _ Z7]; rfl
                      have fx4 : Y.cell? ⟨w.heap.size + 1, 4, none⟩ = some (.slice none 0 0) := by rw [cell_of_row _ _ _ _ _ _ Z7]; rfl
                      have fx5 : Y.cell? ⟨w.heap.size + 1, 5, none⟩ = some (.slice none 0 0) := by rw [cell_of_row _ _ _ _ _ _ Z7]; rfl
                      have fz0 : Y.frozen? ⟨w.heap.size + 1, 0, none⟩ = false := frz_of Z7
                      have fz1 : Y.frozen? ⟨w.heap.size + 1, 1, none⟩ = false := frz_of Z7
                      have fz2 : Y.frozen? ⟨w.heap.size + 1, 2, none⟩ = false := frz_of Z7
                      have fz3 : Y.frozen? ⟨w.heap.size + 1, 3, none⟩ = false := frz_of Z7
                      have fz4 : Y.frozen? ⟨w.heap.size + 1, 4, none⟩ = false := frz_of Z7
                      have fz5 : Y.frozen? ⟨w.heap.size + 1, 5, none⟩ = false := frz_of Z7
                      have hon : Only (w.heap.size + 1) Y (((((((Y).setCell ⟨w.heap.size + 1, 0, none⟩ (.int .i64 0)).setCell ⟨w.heap.size + 1, 1, none⟩ (.int .i64 0)).setCell ⟨w.heap.size + 1, 2, none⟩ (.slice none 0 0)).setCell ⟨w.heap.size + 1, 3, none⟩ (.int .i64 0)).setCell ⟨w.heap.size + 1, 4, none⟩ (.slice none 0 0)).setCell ⟨w.heap.size + 1, 5, none⟩ (.slice none 0 0)) := ((((((Only.refl _ _).setCell 0 _).setCell 1 _).setCell 2 _).setCell 3 _).setCell 4 _).setCell 5 _
                      have bf : Below w.heap.size w (((((((Y).setCell ⟨w.heap.size + 1, 0, none⟩ (.int .i64 0)).setCell ⟨w.heap.size + 1, 1, none⟩ (.int .i64 0)).setCell ⟨w.heap.size + 1, 2, none⟩ (.slice none 0 0)).setCell ⟨w.heap.size + 1, 3, none⟩ (.int .i64 0)).setCell ⟨w.heap.size + 1, 4, none⟩ (.slice none 0 0)).setCell ⟨w.heap.size + 1, 5, none⟩ (.slice none 0 0)) := bw7.trans (hon.below (by omega))
                      clear hon
                      go_wp2
                      refine bodyPost_ret (v := .tuple #[.agg #[.int .i64 0, .int .i64 0, .slice none 0 0, .int .i64 0, .slice none 0 0, .slice none 0 0], .int .i64 95]) ?_ rfl ?_
                      · simp only [results, Tryd.results15]
                        go_simp
                      · rw [HR.out]
                        exact ⟨none, 0, none, 0, none, 0, rfl, HB.nil _, HB.nil _, PA.nil _, bf⟩
                    | true =>
                      subst hpok
                      by_cases hpf : p.t ≤ t
                      · have HE : Hid (srchI (gC size hd ss t) (l ++ [m]) m hi = A) := Hy.out rfl hpf
                        have HF2 : Hid (fnd size hd t ss (l ++ [m]) zR = p) := HFs.out.trans (if_pos ⟨rfl, hpf⟩)
                        clear Hs Hy Hno HFs
                        go_wp2
                        obtain ⟨WD, hWD⟩ : ∃ WD, WD = Y.drew := ⟨_, rfl⟩
                        have GPd : WD.heap[gp]? = some (.cells #[.int .i64 p.e, .int .i64 p.t, .slice ptp p.tr.length ptc, .int .i64 p.c, .slice plp p.li.length plc, .slice pkp p.lk.length pkc] 25 (0, 0)) := by rw [hWD]; exact GP
                        have G7d : WD.heap[gx]? = some (.cells #[.int .i64 r.e, .int .i64 r.t, .slice ftp r.tr.length ftc, .int .i64 r.c, .slice flp r.li.length flc, .slice fkp r.lk.length fkc] 25 (0, 0)) := by rw [hWD]; exact G7
                        have bUd : Below gx U WD := by rw [hWD]; exact bU7.drew
                        have G8 := set6 _ _ _ _ _ _ _ _ _ (.int .i64 p.e) (.int .i64 p.t) (.slice ptp p.tr.length ptc) (.int .i64 p.c) (.slice plp p.li.length plc) (.slice pkp p.lk.length pkc) G7d
                        have b8 : Below gx U (((((((WD).setCell ⟨gx, 0, none⟩ (.int .i64 p.e)).setCell ⟨gx, 1, none⟩ (.int .i64 p.t)).setCell ⟨gx, 2, none⟩ (.slice ptp p.tr.length ptc)).setCell ⟨gx, 3, none⟩ (.int .i64 p.c)).setCell ⟨gx, 4, none⟩ (.slice plp p.li.length plc)).setCell ⟨gx, 5, none⟩ (.slice pkp p.lk.length pkc)) := sets_below bUd _ _ _ _ _ _
                        clear cp0 cp1 cp2 cp3 cp4 cp5 cr0 cr1 cr2 cr3 cr4 cr5 zr0 zr1 zr2 zr3 zr4 zr5
                        have cp0 : WD.cell? ⟨gp, 0, none⟩ = some (.int .i64 p.e) := by rw [cell_of_row _ _ _ _ _ _ GPd]; rfl
                        have cp1 : WD.cell? ⟨gp, 1, none⟩ = some (.int .i64 p.t) := by rw [cell_of_row _ _ _ _ _ _ GPd]; rfl
                        have cp2 : WD.cell? ⟨gp, 2, none⟩ = some (.slice ptp p.tr.length ptc) := by rw [cell_of_row _ _ _ _ _ _ GPd]; rfl
                        have cp3 : WD.cell? ⟨gp, 3, none⟩ = some (.int .i64 p.c) := by rw [cell_of_row _ _ _ _ _ _ GPd]; rfl
                        have cp4 : WD.cell? ⟨gp, 4, none⟩ = some (.slice plp p.li.length plc) := by rw [cell_of_row _ _ _ _ _ _ GPd]; rfl
                        have cp5 : WD.cell? ⟨gp, 5, none⟩ = some (.slice pkp p.lk.length pkc) := by rw [cell_of_row _ _ _ _ _ _ GPd]; rfl
                        have cr0 : WD.cell? ⟨gx, 0, none⟩ = some (.int .i64 r.e) := by rw [cell_of_row _ _ _ _ _ _ G7d]; rfl
                        have cr1 : WD.cell? ⟨gx, 1, none⟩ = some (.int .i64 r.t) := by rw [cell_of_row _ _ _ _ _ _ G7d]; rfl
                        have cr2 : WD.cell? ⟨gx, 2, none⟩ = some (.slice ftp r.tr.length ftc) := by rw [cell_of_row _ _ _ _ _ _ G7d]; rfl
                        have cr3 : WD.cell? ⟨gx, 3, none⟩ = some (.int .i64 r.c) := by rw [cell_of_row _ _ _ _ _ _ G7d]; rfl
                        have cr4 : WD.cell? ⟨gx, 4, none⟩ = some (.slice flp r.li.length flc) := by rw [cell_of_row _ _ _ _ _ _ G7d]; rfl
                        have cr5 : WD.cell? ⟨gx, 5, none⟩ = some (.slice fkp r.lk.length fkc) := by rw [cell_of_row _ _ _ _ _ _ G7d]; rfl
                        have zr0 : WD.frozen? ⟨gx, 0, none⟩ = false := frz_of G7d
                        have zr1 : WD.frozen? ⟨gx, 1, none⟩ = false := frz_of G7d
                        have zr2 : WD.frozen? ⟨gx, 2, none⟩ = false := frz_of G7d
                        have zr3 : WD.frozen? ⟨gx, 3, none⟩ = false := frz_of G7d
                        have zr4 : WD.frozen? ⟨gx, 4, none⟩ = false := frz_of G7d
                        have zr5 : WD.frozen? ⟨gx, 5, none⟩ = false := frz_of G7d
                        have hHeld : WD.cell? ⟨gp, 0, none⟩ = some (.int .i64 p.e) ∧ WD.cell? ⟨gp, 1, none⟩ = some (.int .i64 p.t) ∧ WD.cell? ⟨gp, 2, none⟩ = some (.slice ptp p.tr.length ptc) ∧ WD.cell? ⟨gp, 3, none⟩ = some (.int .i64 p.c) ∧ WD.cell? ⟨gp, 4, none⟩ = some (.slice plp p.li.length plc) ∧ WD.cell? ⟨gp, 5, none⟩ = some (.slice pkp p.lk.length pkc) := ⟨cp0, cp1, cp2, cp3, cp4, cp5⟩
                        clear GPd G7d bUd cp0 cp1 cp2 cp3 cp4 cp5
                        refine wp_region_split (by kernel_rfl) (fun W => W.cell? ⟨gp, 0, none⟩ = some (.int .i64 p.e) ∧ W.cell? ⟨gp, 1, none⟩ = some (.int .i64 p.t) ∧ W.cell? ⟨gp, 2, none⟩ = some (.slice ptp p.tr.length ptc) ∧ W.cell? ⟨gp, 3, none⟩ = some (.int .i64 p.c) ∧ W.cell? ⟨gp, 4, none⟩ = some (.slice plp p.li.length plc) ∧ W.cell? ⟨gp, 5, none⟩ = some (.slice pkp p.lk.length pkc)) 3 1 #[⟨some 84, .move (.tmp 16), 3, "ref.go:66", #[], none⟩, ⟨some 85, .load 25 (.tmp 17), 25, "ref.go:66", #[{ on := 2, ground := .gcOnly .lateStores }], none⟩, ⟨some 12, .assign (.tmp 84), 3, "ref.go:66", #[⟨0, .data⟩, ⟨0, .phase⟩, { on := 1, ground := .textOnly .lateStores }], none⟩] (by kernel_rfl) (by kernel_rfl) ?_
                        rw [← hWD]
                        clear hWD
                        refine tkY 0 ⟨some 84, .move (.tmp 16), 3, "ref.go:66", #[], none⟩ ?v0z1 hHeld ?y0z1 ?r0z1
                        case y0z1 => (intro w hSw; (try dsimp only at hSw); go_simp) <;> with_reducible rfl
                        try simp only [Act.put, List.setIfInBounds_toArray, List.set_cons_zero, List.set_cons_succ]
                        refine tkY 1 ⟨some 85, .load 25 (.tmp 17), 25, "ref.go:66", #[{ on := 2, ground := .gcOnly .lateStores }], none⟩ ?v1z2 hHeld ?y1z2 ?r1z2
                        case y1z2 => (intro w hSw; (try dsimp only at hSw); go_simp) <;> with_reducible rfl
                        try simp only [Act.put, List.setIfInBounds_toArray, List.set_cons_zero, List.set_cons_succ]
                        refine tkY 2 ⟨some 12, .assign (.tmp 84), 3, "ref.go:66", #[⟨0, .data⟩, ⟨0, .phase⟩, { on := 1, ground := .textOnly .lateStores }], none⟩ ?v2z3 hHeld ?y2z3 ?r2z3
                        case y2z3 => (intro w hSw; (try dsimp only at hSw); go_simp) <;> with_reducible rfl
                        try simp only [Act.put, List.setIfInBounds_toArray, List.set_cons_zero, List.set_cons_succ]
                        refine wpAnyH_done (by kernel_rfl) ?_ _
                        refine headPost_rest [⟨none, .store 25 (.tmp 10) (.tmp 85), 0, "ref.go:66", #[⟨1, .data⟩, ⟨2, .chain⟩, ⟨0, .phase⟩, ⟨1, .phase⟩, ⟨2, .phase⟩], none⟩] (by kernel_rfl) rfl (by kernel_rfl) ?_
                        clear hHeld
                        go_wp2
                        go_roundw
                        case rel =>
                          first
                          | exact ⟨k + 1, l ++ [m], m, hi, p, ptp, ptc, plp, plc, pkp, pkc, by omega, rfl, rfl, by go_num, by omega, by omega, Hl2, HE, HF2, G8, pr1, pr2, pr3, b8⟩
                          | ((repeat apply Exists.intro); exact ⟨⟨k + 1, l ++ [m], m, hi, p, ptp, ptc, plp, plc, pkp, pkc, by omega, rfl, rfl, by go_num, by omega, by omega, Hl2, HE, HF2, G8, pr1, pr2, pr3, b8⟩, rfl⟩)
                        case measure => simp [intOf]; omega
                      · have hpf2 : t < p.t := by omega
                        have HE : Hid (srchI (gC size hd ss t) (l ++ [m]) lo (m - 1) = A) := Hno.out rfl (by first | exact hpf | omega)
                        have HF2 : Hid (fnd size hd t ss (l ++ [m]) zR = r) := HFs.out.trans (if_neg (fun h => hpf h.2))
                        clear Hs Hy Hno HFs
                        go_wp2
                        go_roundw
                        case rel => first | exact ⟨k + 1, l ++ [m], lo, m - 1, r, ftp, ftc, flp, flc, fkp, fkc, by omega, rfl, by go_num, by go_num, by omega, by omega, Hl2, HE, HF2, G7, r1, r2, r3, bU7⟩ | ((repeat apply Exists.intro); exact ⟨⟨k + 1, l ++ [m], lo, m - 1, r, ftp, ftc, flp, flc, fkp, fkc, by omega, rfl, by go_num, by go_num, by omega, by omega, Hl2, HE, HF2, G7, r1, r2, r3, bU7⟩, rfl⟩)
                        case measure => simp [intOf]; omega
                  · have HR : Hid (R = none) := by
                      show _ = _
                      rw [HRR.out, ← HI.out, srchI_end _ l lo hi hlt, if_neg (fun h => by have a1 := h.2; have a2 := Hll.out; have a3 := Hn.out; simp only at a1; omega)]
                    have hge : (hi : Int) ≤ (lo : Int) := by omega
                    have fx0 : wr.cell? ⟨w.heap.size + 1, 0, none⟩ = some (.int .i64 0) := by rw [cell_of_row _ _ _ _ _ _ WZ]; rfl
                    have fx1 : wr.cell? ⟨w.heap.size + 1, 1, none⟩ = some (.int .i64 0) := by rw [cell_of_row _ _ _ _ _ _ WZ]; rfl
                    have fx2 : wr.cell? ⟨w.heap.size + 1, 2, none⟩ = some (.slice none 0 0) := by rw [cell_of_row _ _ _ _ _ _ WZ]; rfl
                    have fx3 : wr.cell? ⟨w.heap.size + 1, 3, none⟩ = some (.int .i64 0) := by rw [cell_of_row _ _ _ _ _ _ WZ]; rfl
                    have fx4 : wr.cell? ⟨w.heap.size + 1, 4, none⟩ = some (.slice none 0 0) := by rw [cell_of_row _ _ _ _ _ _ WZ]; rfl
                    have fx5 : wr.cell? ⟨w.heap.size + 1, 5, none⟩ = some (.slice none 0 0) := by rw [cell_of_row _ _ _ _ _ _ WZ]; rfl
                    have fz0 : wr.frozen? ⟨w.heap.size + 1, 0, none⟩ = false := frz_of WZ
                    have fz1 : wr.frozen? ⟨w.heap.size + 1, 1, none⟩ = false := frz_of WZ
                    have fz2 : wr.frozen? ⟨w.heap.size + 1, 2, none⟩ = false := frz_of WZ
                    have fz3 : wr.frozen? ⟨w.heap.size + 1, 3, none⟩ = false := frz_of WZ
                    have fz4 : wr.frozen? ⟨w.heap.size + 1, 4, none⟩ = false := frz_of WZ
                    have fz5 : wr.frozen? ⟨w.heap.size + 1, 5, none⟩ = false := frz_of WZ
                    have hon : Only (w.heap.size + 1) wr (((((((wr).setCell ⟨w.heap.size + 1, 0, none⟩ (.int .i64 0)).setCell ⟨w.heap.size + 1, 1, none⟩ (.int .i64 0)).setCell ⟨w.heap.size + 1, 2, none⟩ (.slice none 0 0)).setCell ⟨w.heap.size + 1, 3, none⟩ (.int .i64 0)).setCell ⟨w.heap.size + 1, 4, none⟩ (.slice none 0 0)).setCell ⟨w.heap.size + 1, 5, none⟩ (.slice none 0 0)) := ((((((Only.refl _ _).setCell 0 _).setCell 1 _).setCell 2 _).setCell 3 _).setCell 4 _).setCell 5 _
                    have bf : Below w.heap.size w (((((((wr).setCell ⟨w.heap.size + 1, 0, none⟩ (.int .i64 0)).setCell ⟨w.heap.size + 1, 1, none⟩ (.int .i64 0)).setCell ⟨w.heap.size + 1, 2, none⟩ (.slice none 0 0)).setCell ⟨w.heap.size + 1, 3, none⟩ (.int .i64 0)).setCell ⟨w.heap.size + 1, 4, none⟩ (.slice none 0 0)).setCell ⟨w.heap.size + 1, 5, none⟩ (.slice none 0 0)) := bwr.trans (hon.below (by omega))
                    clear hon
                    go_wp2
                    refine bodyPost_ret (v := .tuple #[.agg #[.int .i64 0, .int .i64 0, .slice none 0 0, .int .i64 0, .slice none 0 0, .slice none 0 0], .int .i64 95]) ?_ rfl ?_
                    · simp only [results, Tryd.results15]
                      go_simp
                    · rw [HR.out]
                      exact ⟨none, 0, none, 0, none, 0, rfl, HB.nil _, HB.nil _, PA.nil _, bf⟩
                · obtain rfl : k = n1 := by omega
                  by_cases hlt : lo < hi
                  · have HR : Hid (R = none) := by
                      have hn : ss[l.length]? = none := List.getElem?_eq_none (by have := Hll.out; have := Hn.out; omega)
                      have hg : (gC size hd ss t l ((lo + hi + 1) / 2)).2 = false := by unfold gC; rw [hn]
                      show _ = _
                      rw [HRR.out, ← HI.out, srchI_stop _ l lo hi _ hlt rfl hg]
                      simp
                    have hlt2 : (lo : Int) < (hi : Int) := by omega
                    have fx0 : wr.cell? ⟨w.heap.size + 1, 0, none⟩ = some (.int .i64 0) := by rw [cell_of_row _ _ _ _ _ _ WZ]; rfl
                    have fx1 : wr.cell? ⟨w.heap.size + 1, 1, none⟩ = some (.int .i64 0) := by rw [cell_of_row _ _ _ _ _ _ WZ]; rfl
                    have fx2 : wr.cell? ⟨w.heap.size + 1, 2, none⟩ = some (.slice none 0 0) := by rw [cell_of_row _ _ _ _ _ _ WZ]; rfl
                    have fx3 : wr.cell? ⟨w.heap.size + 1, 3, none⟩ = some (.int .i64 0) := by rw [cell_of_row _ _ _ _ _ _ WZ]; rfl
                    have fx4 : wr.cell? ⟨w.heap.size + 1, 4, none⟩ = some (.slice none 0 0) := by rw [cell_of_row _ _ _ _ _ _ WZ]; rfl
                    have fx5 : wr.cell? ⟨w.heap.size + 1, 5, none⟩ = some (.slice none 0 0) := by rw [cell_of_row _ _ _ _ _ _ WZ]; rfl
                    have fz0 : wr.frozen? ⟨w.heap.size + 1, 0, none⟩ = false := frz_of WZ
                    have fz1 : wr.frozen? ⟨w.heap.size + 1, 1, none⟩ = false := frz_of WZ
                    have fz2 : wr.frozen? ⟨w.heap.size + 1, 2, none⟩ = false := frz_of WZ
                    have fz3 : wr.frozen? ⟨w.heap.size + 1, 3, none⟩ = false := frz_of WZ
                    have fz4 : wr.frozen? ⟨w.heap.size + 1, 4, none⟩ = false := frz_of WZ
                    have fz5 : wr.frozen? ⟨w.heap.size + 1, 5, none⟩ = false := frz_of WZ
                    have hon : Only (w.heap.size + 1) wr (((((((wr).setCell ⟨w.heap.size + 1, 0, none⟩ (.int .i64 0)).setCell ⟨w.heap.size + 1, 1, none⟩ (.int .i64 0)).setCell ⟨w.heap.size + 1, 2, none⟩ (.slice none 0 0)).setCell ⟨w.heap.size + 1, 3, none⟩ (.int .i64 0)).setCell ⟨w.heap.size + 1, 4, none⟩ (.slice none 0 0)).setCell ⟨w.heap.size + 1, 5, none⟩ (.slice none 0 0)) := ((((((Only.refl _ _).setCell 0 _).setCell 1 _).setCell 2 _).setCell 3 _).setCell 4 _).setCell 5 _
                    have bf : Below w.heap.size w (((((((wr).setCell ⟨w.heap.size + 1, 0, none⟩ (.int .i64 0)).setCell ⟨w.heap.size + 1, 1, none⟩ (.int .i64 0)).setCell ⟨w.heap.size + 1, 2, none⟩ (.slice none 0 0)).setCell ⟨w.heap.size + 1, 3, none⟩ (.int .i64 0)).setCell ⟨w.heap.size + 1, 4, none⟩ (.slice none 0 0)).setCell ⟨w.heap.size + 1, 5, none⟩ (.slice none 0 0)) := bwr.trans (hon.below (by omega))
                    clear hon
                    go_wp2
                    refine bodyPost_ret (v := .tuple #[.agg #[.int .i64 0, .int .i64 0, .slice none 0 0, .int .i64 0, .slice none 0 0, .slice none 0 0], .int .i64 95]) ?_ rfl ?_
                    · simp only [results, Tryd.results15]
                      go_simp
                    · rw [HR.out]
                      exact ⟨none, 0, none, 0, none, 0, rfl, HB.nil _, HB.nil _, PA.nil _, bf⟩
                  · have HR : Hid (R = some r) := by
                      show _ = _
                      rw [HRR.out, ← HI.out, srchI_end _ l lo hi hlt, if_pos ⟨rfl, by have := Hll.out; have := Hn.out; simp only; omega⟩]
                      simp only [HFn.out]
                    have hge : ¬ ((lo : Int) < (hi : Int)) := by omega
                    have fy0 : wr.cell? ⟨gx, 0, none⟩ = some (.int .i64 r.e) := by rw [cell_of_row _ _ _ _ _ _ GF]; rfl
                    have fy1 : wr.cell? ⟨gx, 1, none⟩ = some (.int .i64 r.t) := by rw [cell_of_row _ _ _ _ _ _ GF]; rfl
                    have fy2 : wr.cell? ⟨gx, 2, none⟩ = some (.slice ftp r.tr.length ftc) := by rw [cell_of_row _ _ _ _ _ _ GF]; rfl
                    have fy3 : wr.cell? ⟨gx, 3, none⟩ = some (.int .i64 r.c) := by rw [cell_of_row _ _ _ _ _ _ GF]; rfl
                    have fy4 : wr.cell? ⟨gx, 4, none⟩ = some (.slice flp r.li.length flc) := by rw [cell_of_row _ _ _ _ _ _ GF]; rfl
                    have fy5 : wr.cell? ⟨gx, 5, none⟩ = some (.slice fkp r.lk.length fkc) := by rw [cell_of_row _ _ _ _ _ _ GF]; rfl
                    have fx0 : wr.cell? ⟨w.heap.size + 1, 0, none⟩ = some (.int .i64 0) := by rw [cell_of_row _ _ _ _ _ _ WZ]; rfl
                    have fx1 : wr.cell? ⟨w.heap.size + 1, 1, none⟩ = some (.int .i64 0) := by rw [cell_of_row _ _ _ _ _ _ WZ]; rfl
                    have fx2 : wr.cell? ⟨w.heap.size + 1, 2, none⟩ = some (.slice none 0 0) := by rw [cell_of_row _ _ _ _ _ _ WZ]; rfl
                    have fx3 : wr.cell? ⟨w.heap.size + 1, 3, none⟩ = some (.int .i64 0) := by rw [cell_of_row _ _ _ _ _ _ WZ]; rfl
                    have fx4 : wr.cell? ⟨w.heap.size + 1, 4, none⟩ = some (.slice none 0 0) := by rw [cell_of_row _ _ _ _ _ _ WZ]; rfl
                    have fx5 : wr.cell? ⟨w.heap.size + 1, 5, none⟩ = some (.slice none 0 0) := by rw [cell_of_row _ _ _ _ _ _ WZ]; rfl
                    have fz0 : wr.frozen? ⟨w.heap.size + 1, 0, none⟩ = false := frz_of WZ
                    have fz1 : wr.frozen? ⟨w.heap.size + 1, 1, none⟩ = false := frz_of WZ
                    have fz2 : wr.frozen? ⟨w.heap.size + 1, 2, none⟩ = false := frz_of WZ
                    have fz3 : wr.frozen? ⟨w.heap.size + 1, 3, none⟩ = false := frz_of WZ
                    have fz4 : wr.frozen? ⟨w.heap.size + 1, 4, none⟩ = false := frz_of WZ
                    have fz5 : wr.frozen? ⟨w.heap.size + 1, 5, none⟩ = false := frz_of WZ
                    have hon : Only (w.heap.size + 1) wr (((((((wr).setCell ⟨w.heap.size + 1, 0, none⟩ (.int .i64 r.e)).setCell ⟨w.heap.size + 1, 1, none⟩ (.int .i64 r.t)).setCell ⟨w.heap.size + 1, 2, none⟩ (.slice ftp r.tr.length ftc)).setCell ⟨w.heap.size + 1, 3, none⟩ (.int .i64 r.c)).setCell ⟨w.heap.size + 1, 4, none⟩ (.slice flp r.li.length flc)).setCell ⟨w.heap.size + 1, 5, none⟩ (.slice fkp r.lk.length fkc)) := ((((((Only.refl _ _).setCell 0 _).setCell 1 _).setCell 2 _).setCell 3 _).setCell 4 _).setCell 5 _
                    have bf : Below w.heap.size w (((((((wr).setCell ⟨w.heap.size + 1, 0, none⟩ (.int .i64 r.e)).setCell ⟨w.heap.size + 1, 1, none⟩ (.int .i64 r.t)).setCell ⟨w.heap.size + 1, 2, none⟩ (.slice ftp r.tr.length ftc)).setCell ⟨w.heap.size + 1, 3, none⟩ (.int .i64 r.c)).setCell ⟨w.heap.size + 1, 4, none⟩ (.slice flp r.li.length flc)).setCell ⟨w.heap.size + 1, 5, none⟩ (.slice fkp r.lk.length fkc)) := bwr.trans (hon.below (by omega))
                    clear hon
                    go_wp2
                    refine bodyPost_ret (v := .tuple #[.agg #[.int .i64 r.e, .int .i64 r.t, .slice ftp r.tr.length ftc, .int .i64 r.c, .slice flp r.li.length flc, .slice fkp r.lk.length fkc], .int .i64 0]) ?_ rfl ?_
                    · simp only [results, Tryd.results15]
                      go_simp
                    · rw [HR.out]
                      exact ⟨ftp, ftc, flp, flc, fkp, fkc, rfl, r1.later bf, r2.later bf, r3.later bf, bf⟩
          · have hfit2 : t < q.t := by omega
            have HR : Hid (R = none) := HA0.out (fun h => hfit h.2)
            clear HA0 HA1
            have fx0 : U.cell? ⟨w.heap.size + 1, 0, none⟩ = some (.int .i64 0) := by rw [cell_of_row _ _ _ _ _ _ UZ]; rfl
            have fx1 : U.cell? ⟨w.heap.size + 1, 1, none⟩ = some (.int .i64 0) := by rw [cell_of_row _ _ _ _ _ _ UZ]; rfl
            have fx2 : U.cell? ⟨w.heap.size + 1, 2, none⟩ = some (.slice none 0 0) := by rw [cell_of_row _ _ _ _ _ _ UZ]; rfl
            have fx3 : U.cell? ⟨w.heap.size + 1, 3, none⟩ = some (.int .i64 0) := by rw [cell_of_row _ _ _ _ _ _ UZ]; rfl
            have fx4 : U.cell? ⟨w.heap.size + 1, 4, none⟩ = some (.slice none 0 0) := by rw [cell_of_row _ _ _ _ _ _ UZ]; rfl
            have fx5 : U.cell? ⟨w.heap.size + 1, 5, none⟩ = some (.slice none 0 0) := by rw [cell_of_row _ _ _ _ _ _ UZ]; rfl
            have fz0 : U.frozen? ⟨w.heap.size + 1, 0, none⟩ = false := frz_of UZ
            have fz1 : U.frozen? ⟨w.heap.size + 1, 1, none⟩ = false := frz_of UZ
            have fz2 : U.frozen? ⟨w.heap.size + 1, 2, none⟩ = false := frz_of UZ
            have fz3 : U.frozen? ⟨w.heap.size + 1, 3, none⟩ = false := frz_of UZ
            have fz4 : U.frozen? ⟨w.heap.size + 1, 4, none⟩ = false := frz_of UZ
            have fz5 : U.frozen? ⟨w.heap.size + 1, 5, none⟩ = false := frz_of UZ
            have hon : Only (w.heap.size + 1) U (((((((U).setCell ⟨w.heap.size + 1, 0, none⟩ (.int .i64 0)).setCell ⟨w.heap.size + 1, 1, none⟩ (.int .i64 0)).setCell ⟨w.heap.size + 1, 2, none⟩ (.slice none 0 0)).setCell ⟨w.heap.size + 1, 3, none⟩ (.int .i64 0)).setCell ⟨w.heap.size + 1, 4, none⟩ (.slice none 0 0)).setCell ⟨w.heap.size + 1, 5, none⟩ (.slice none 0 0)) := ((((((Only.refl _ _).setCell 0 _).setCell 1 _).setCell 2 _).setCell 3 _).setCell 4 _).setCell 5 _
            have bf : Below w.heap.size w (((((((U).setCell ⟨w.heap.size + 1, 0, none⟩ (.int .i64 0)).setCell ⟨w.heap.size + 1, 1, none⟩ (.int .i64 0)).setCell ⟨w.heap.size + 1, 2, none⟩ (.slice none 0 0)).setCell ⟨w.heap.size + 1, 3, none⟩ (.int .i64 0)).setCell ⟨w.heap.size + 1, 4, none⟩ (.slice none 0 0)).setCell ⟨w.heap.size + 1, 5, none⟩ (.slice none 0 0)) := bwU.trans (hon.below (by omega))
            clear hon
            go_wp2
            refine bodyPost_ret (v := .tuple #[.agg #[.int .i64 0, .int .i64 0, .slice none 0 0, .int .i64 0, .slice none 0 0, .slice none 0 0], .int .i64 95]) ?_ rfl ?_
            · simp only [results, Tryd.results15]
              go_simp
            · rw [HR.out]
              exact ⟨none, 0, none, 0, none, 0, rfl, HB.nil _, HB.nil _, PA.nil _, bf⟩
      · have GX := set6 _ _ _ _ _ _ _ _ _ (.int .i64 q.e) (.int .i64 q.t) (.slice ntp q.tr.length ntc) (.int .i64 q.c) (.slice nlp q.li.length nlc) (.slice nkp q.lk.length nkc) gz
        have bU := sets_below nb (.int .i64 q.e) (.int .i64 q.t) (.slice ntp q.tr.length ntc) (.int .i64 q.c) (.slice nlp q.li.length nlc) (.slice nkp q.lk.length nkc)
        generalize ((((((w5.setCell ⟨w2.heap.size, 0, none⟩ (.int .i64 q.e)).setCell ⟨w2.heap.size, 1, none⟩ (.int .i64 q.t)).setCell ⟨w2.heap.size, 2, none⟩ (.slice ntp q.tr.length ntc)).setCell ⟨w2.heap.size, 3, none⟩ (.int .i64 q.c)).setCell ⟨w2.heap.size, 4, none⟩ (.slice nlp q.li.length nlc)).setCell ⟨w2.heap.size, 5, none⟩ (.slice nkp q.lk.length nkc)) = U at *
        obtain ⟨gx, hgxe⟩ : ∃ gx, gx = w2.heap.size := ⟨_, rfl⟩
        rw [← hgxe] at GX ⊢
        have hgx : w2.heap.size ≤ gx := by omega
        clear hgxe
        have bwU := bw2.trans (bU.mono bw2.size)
        have US := (bU.block _ (by omega)).trans g20
        have UZ := (bU.block _ (by omega)).trans g21
        have ltx : gx < U.heap.size := (Array.getElem?_eq_some_iff.1 GX).1
        have gq0 : U.cell? ⟨gx, 0, none⟩ = some (.int .i64 q.e) := by rw [cell_of_row _ _ _ _ _ _ GX]; rfl
        have gq1 : U.cell? ⟨gx, 1, none⟩ = some (.int .i64 q.t) := by rw [cell_of_row _ _ _ _ _ _ GX]; rfl
        have gq2 : U.cell? ⟨gx, 2, none⟩ = some (.slice ntp q.tr.length ntc) := by rw [cell_of_row _ _ _ _ _ _ GX]; rfl
        have gq3 : U.cell? ⟨gx, 3, none⟩ = some (.int .i64 q.c) := by rw [cell_of_row _ _ _ _ _ _ GX]; rfl
        have gq4 : U.cell? ⟨gx, 4, none⟩ = some (.slice nlp q.li.length nlc) := by rw [cell_of_row _ _ _ _ _ _ GX]; rfl
        have gq5 : U.cell? ⟨gx, 5, none⟩ = some (.slice nkp q.lk.length nkc) := by rw [cell_of_row _ _ _ _ _ _ GX]; rfl
        have uh : U.cell? ⟨w.heap.size, 0, none⟩ = some (.int .i64 hd.e) := by rw [cell_of_row _ _ _ _ _ _ US]; rfl
        clear hH0 hH1 hH1b hH1c hH2 hH3 hH5 HCe HFol nb nb5 bD bDa bDb bDc
        cases hok : ok with
        | false =>
          subst hok
          have HR : Hid (R = none) := HA0.out (fun h => by cases h.1)
          clear HA0 HA1
          have fx0 : U.cell? ⟨w.heap.size + 1, 0, none⟩ = some (.int .i64 0) := by rw [cell_of_row _ _ _ _ _ _ UZ]; rfl
          have fx1 : U.cell? ⟨w.heap.size + 1, 1, none⟩ = some (.int .i64 0) := by rw [cell_of_row _ _ _ _ _ _ UZ]; rfl
          have fx2 : U.cell? ⟨w.heap.size + 1, 2, none⟩ = some (.slice none 0 0) := by rw [cell_of_row _ _ _ _ _ _ UZ]; rfl
          have fx3 : U.cell? ⟨w.heap.size + 1, 3, none⟩ = some (.int .i64 0) := by rw [cell_of_row _ _ _ _ _ _ UZ]; rfl
          have fx4 : U.cell? ⟨w.heap.size + 1, 4, none⟩ = some (.slice none 0 0) := by rw [cell_of_row _ _ _ _ _ _ UZ]; rfl
          have fx5 : U.cell? ⟨w.heap.size + 1, 5, none⟩ = some (.slice none 0 0) := by rw [cell_of_row _ _ _ _ _ _ UZ]; rfl
          have fz0 : U.frozen? ⟨w.heap.size + 1, 0, none⟩ = false := frz_of UZ
          have fz1 : U.frozen? ⟨w.heap.size + 1, 1, none⟩ = false := frz_of UZ
          have fz2 : U.frozen? ⟨w.heap.size + 1, 2, none⟩ = false := frz_of UZ
          have fz3 : U.frozen? ⟨w.heap.size + 1, 3, none⟩ = false := frz_of UZ
          have fz4 : U.frozen? ⟨w.heap.size + 1, 4, none⟩ = false := frz_of UZ
          have fz5 : U.frozen? ⟨w.heap.size + 1, 5, none⟩ = false := frz_of UZ
          have hon : Only (w.heap.size + 1) U (((((((U).setCell ⟨w.heap.size + 1, 0, none⟩ (.int .i64 0)).setCell ⟨w.heap.size + 1, 1, none⟩ (.int .i64 0)).setCell ⟨w.heap.size + 1, 2, none⟩ (.slice none 0 0)).setCell ⟨w.heap.size + 1, 3, none⟩ (.int .i64 0)).setCell ⟨w.heap.size + 1, 4, none⟩ (.slice none 0 0)).setCell ⟨w.heap.size + 1, 5, none⟩ (.slice none 0 0)) := ((((((Only.refl _ _).setCell 0 _).setCell 1 _).setCell 2 _).setCell 3 _).setCell 4 _).setCell 5 _
          have bf : Below w.heap.size w (((((((U).setCell ⟨w.heap.size + 1, 0, none⟩ (.int .i64 0)).setCell ⟨w.heap.size + 1, 1, none⟩ (.int .i64 0)).setCell ⟨w.heap.size + 1, 2, none⟩ (.slice none 0 0)).setCell ⟨w.heap.size + 1, 3, none⟩ (.int .i64 0)).setCell ⟨w.heap.size + 1, 4, none⟩ (.slice none 0 0)).setCell ⟨w.heap.size + 1, 5, none⟩ (.slice none 0 0)) := bwU.trans (hon.below (by omega))
          clear hon
          go_wp2
          refine bodyPost_ret (v := .tuple #[.agg #[.int .i64 0, .int .i64 0, .slice none 0 0, .int .i64 0, .slice none 0 0, .slice none 0 0], .int .i64 95]) ?_ rfl ?_
          · simp only [results, Tryd.results15]
            go_simp
          · rw [HR.out]
            exact ⟨none, 0, none, 0, none, 0, rfl, HB.nil _, HB.nil _, PA.nil _, bf⟩
        | true =>
          subst hok
          by_cases hfit : q.t ≤ t
          · have hfit2 : ¬ t < q.t := by omega
            have HS0 := HA1.out ⟨rfl, hfit⟩
            have HF0 := HQ0.out ⟨rfl, hfit⟩
            have gU : Below gx U U.drew := (Below.refl _ U).drew
            have gX2 : U.drew.heap[gx]? = some (.cells #[.int .i64 q.e, .int .i64 q.t, .slice ntp q.tr.length ntc, .int .i64 q.c, .slice nlp q.li.length nlc, .slice nkp q.lk.length nkc] 25 (0, 0)) := GX
            clear HA0 HA1 HQ0
            go_wp2
            go_region
            all_goals
              go_wp2
              go_loopw [12, 13, 52] (fun a b i wr => ∃ (k : Nat) (l : List Nat) (lo hi : Nat) (r : Rc) (ftp : Option Addr) (ftc : Nat) (flp : Option Addr) (flc : Nat) (fkp : Option Addr) (fkc : Nat), k ≤ n1 ∧ a = .int .i64 (lo : Int) ∧ b = .int .i64 (hi : Int) ∧ i = .int .i64 (k : Int) ∧ lo ≤ hi ∧ hi ≤ N ∧ Hid (l.length = k + 1) ∧ Hid (srchI (gC size hd ss t) l lo hi = A) ∧ Hid (fnd size hd t ss l zR = r) ∧ wr.heap[gx]? = some (.cells #[.int .i64 r.e, .int .i64 r.t, .slice ftp r.tr.length ftc, .int .i64 r.c, .slice flp r.li.length flc, .slice fkp r.lk.length fkc] 25 (0, 0)) ∧ HB w (.slice ftp r.tr.length ftc) r.tr ∧ HB w (.slice flp r.li.length flc) r.li ∧ PA w (.slice fkp r.lk.length fkc) r.lk ∧ Below gx U wr) (fun _ _ i _ => n1 - (intOf i).toNat)
              case atStart => exact ⟨0, [0], 0, N, q, ntp, ntc, nlp, nlc, nkp, nkc, Nat.zero_le _, rfl, by rw [HN.out], rfl, Nat.zero_le _, Nat.le_refl _, rfl, HS0, HF0, gX2, nq1, nq2, nq3, gU⟩
              case round =>
                clear HS0 HF0 gX2 gU gq0 gq1 gq2 gq3 gq4 gq5 GX hfit hfit2 uh
                obtain ⟨k, l, lo, hi, r, ftp, ftc, flp, flc, fkp, fkc, hk, rfl, rfl, rfl, hlo, hhi, Hll, HI, HFn, GF, r1, r2, r3, hbe⟩ := hrel
                have bwr : Below w.heap.size w wr := bwU.trans (hbe.mono (by omega))
                have WS := (hbe.block _ (by omega)).trans US
                have WZ := (hbe.block _ (by omega)).trans UZ
                have ltr : gx < wr.heap.size := (Array.getElem?_eq_some_iff.1 GF).1
                by_cases hkn : k < n1
                · obtain ⟨way, hway⟩ : ∃ way, ss[k + 1]? = some way := ⟨_, List.getElem?_eq_getElem (by have := Hn.out; omega)⟩
                  obtain ⟨vp, vc, gv1, gv2⟩ := HQs.out (k + 1) way hway
                  have cw := cell_later bwr gv1
                  obtain rfl : pc = some ⟨sb, so + 1, none⟩ := Hpc.out (by omega)
                  rw [show so + (k + 1) = so + 1 + k by omega] at cw
                  have hkn2 : (k : Int) < (n1 : Int) := by omega
                  by_cases hlt : lo < hi
                  · obtain ⟨m, hm⟩ : ∃ m, m = (lo + hi + 1) / 2 := ⟨_, rfl⟩
                    have hm1 : lo < m := by omega
                    have hm2 : m ≤ hi := by omega
                    have em : (((lo : Int) + (hi : Int) + 1) / 2) = (m : Int) := by omega
                    have et : Int.tdiv ((lo : Int) + (hi : Int) + 1) 2 = (m : Int) := by rw [Int.tdiv_eq_ediv_of_nonneg (by omega)]; exact em
                    have hg : gC size hd ss t l m = (decide (((folR size hd way (m : Int)).getD zR).t ≤ t), (folR size hd way (m : Int)).isSome) := by unfold gC; rw [Hll.out, hway]
                    have hfn := fnd_some (size := size) (hd := hd) (t := t) (m := m) (a := zR) (l := l) (ss := ss) (way := way) (by rw [Hll.out]; exact hway)
                    have hC := fun (W : World) (hB : Below w.heap.size w W) => (rfollowO_any size hd _ _ _ _ way (m : Int) w W hB h1 h2 h3 gv2).mono (fun x w' hx => folO_gen hx)
                    have Hs : Hid ((folR size hd way (m : Int)).isSome = false → (l ++ [m], none) = A) := fun e => (srchI_stop _ l lo hi m hlt hm (by rw [hg]; exact e)).symm.trans HI.out
                    have Hy : Hid ((folR size hd way (m : Int)).isSome = true → ((folR size hd way (m : Int)).getD zR).t ≤ t → srchI (gC size hd ss t) (l ++ [m]) m hi = A) := fun e e2 => (srchI_yes _ l lo hi m hlt hm (by rw [hg]; exact decide_eq_true e2) (by rw [hg]; exact e)).symm.trans HI.out
                    have Hno : Hid ((folR size hd way (m : Int)).isSome = true → ¬ ((folR size hd way (m : Int)).getD zR).t ≤ t → srchI (gC size hd ss t) (l ++ [m]) lo (m - 1) = A) := fun e e2 => (srchI_no _ l lo hi m hlt hm (by rw [hg]; exact decide_eq_false e2) (by rw [hg]; exact e)).symm.trans HI.out
                    have HFs : Hid (fnd size hd t ss (l ++ [m]) zR = if (folR size hd way (m : Int)).isSome = true ∧ ((folR size hd way (m : Int)).getD zR).t ≤ t then (folR size hd way (m : Int)).getD zR else r) := by rw [HFn.out] at hfn; exact hfn
                    have Hl2 : Hid ((l ++ [m]).length = k + 1 + 1) := by show _ = _; rw [List.length_append, Hll.out]; rfl
                    have hCw := hC wr bwr
                    clear hC hg hfn hm hway gv1 gv2
                    generalize (folR size hd way (m : Int)).getD zR = p at *
                    generalize (folR size hd way (m : Int)).isSome = pok at *
                    have hlt2 : (lo : Int) < (hi : Int) := by omega
                    have hge : ¬ ((hi : Int) ≤ (lo : Int)) := by omega
                    have wh0 : wr.cell? ⟨w.heap.size, 0, none⟩ = some (.int .i64 hd.e) := by rw [cell_of_row _ _ _ _ _ _ WS]; rfl
                    have wh1 : wr.cell? ⟨w.heap.size, 1, none⟩ = some (.int .i64 hd.t) := by rw [cell_of_row _ _ _ _ _ _ WS]; rfl
                    have wh2 : wr.cell? ⟨w.heap.size, 2, none⟩ = some (.slice htp hd.tr.length htc) := by rw [cell_of_row _ _ _ _ _ _ WS]; rfl
                    have wh3 : wr.cell? ⟨w.heap.size, 3, none⟩ = some (.int .i64 hd.c) := by rw [cell_of_row _ _ _ _ _ _ WS]; rfl
                    have wh4 : wr.cell? ⟨w.heap.size, 4, none⟩ = some (.slice hlp hd.li.length hlc) := by rw [cell_of_row _ _ _ _ _ _ WS]; rfl
                    have wh5 : wr.cell? ⟨w.heap.size, 5, none⟩ = some (.slice hkp hd.lk.length hkc) := by rw [cell_of_row _ _ _ _ _ _ WS]; rfl
                    go_wp2_with fail
                    refine hCw.mono ?_
                    rintro x w6 ⟨ptp, ptc, plp, plc, pkp, pkc, rfl, pr1, pr2, pr3, b6⟩
                    have b7 : Below wr.heap.size wr (w6.alloc (.cells #[.int .i64 p.e, .int .i64 p.t, .slice ptp p.tr.length ptc, .int .i64 p.c, .slice plp p.li.length plc, .slice pkp p.lk.length pkc] 25)) := b6.alloc b6.size _
                    have GP := heap_alloc_new w6 (.cells #[.int .i64 p.e, .int .i64 p.t, .slice ptp p.tr.length ptc, .int .i64 p.c, .slice plp p.li.length plc, .slice pkp p.lk.length pkc] 25)
                    have hs6 := b6.size
                    have G7 := (b7.block _ (by omega)).trans GF
                    have Z7 := (b7.block _ (by omega)).trans WZ
                    have bw7 := bwr.trans (b7.mono bwr.size)
                    have bU7 : Below gx U (w6.alloc (.cells #[.int .i64 p.e, .int .i64 p.t, .slice ptp p.tr.length ptc, .int .i64 p.c, .slice plp p.li.length plc, .slice pkp p.lk.length pkc] 25)) := hbe.trans (b7.mono (by omega))
                    generalize hY : w6.alloc (.cells #[.int .i64 p.e, .int .i64 p.t, .slice ptp p.tr.length ptc, .int .i64 p.c, .slice plp p.li.length plc, .slice pkp p.lk.length pkc] 25) = Y at *
                    generalize hg6 : w6.heap.size = gp at *
                    have ltp : gp < Y.heap.size := (Array.getElem?_eq_some_iff.1 GP).1
                    have hgpx : gx < gp := by omega
                    clear hCw b6 b7 wh0 wh1 wh2 wh3 wh4 wh5
                    have cp0 : Y.cell? ⟨gp, 0, none⟩ = some (.int .i64 p.e) := by rw [cell_of_row _ _ _ _ _ _ GP]; rfl
                    have cp1 : Y.cell? ⟨gp, 1, none⟩ = some (.int .i64 p.t) := by rw [cell_of_row _ _ _ _ _ _ GP]; rfl
                    have cp2 : Y.cell? ⟨gp, 2, none⟩ = some (.slice ptp p.tr.length ptc) := by rw [cell_of_row _ _ _ _ _ _ GP]; rfl
                    have cp3 : Y.cell? ⟨gp, 3, none⟩ = some (.int .i64 p.c) := by rw [cell_of_row _ _ _ _ _ _ GP]; rfl
                    have cp4 : Y.cell? ⟨gp, 4, none⟩ = some (.slice plp p.li.length plc) := by rw [cell_of_row _ _ _ _ _ _ GP]; rfl
                    have cp5 : Y.cell? ⟨gp, 5, none⟩ = some (.slice pkp p.lk.length pkc) := by rw [cell_of_row _ _ _ _ _ _ GP]; rfl
                    have cr0 : Y.cell? ⟨gx, 0, none⟩ = some (.int .i64 r.e) := by rw [cell_of_row _ _ _ _ _ _ G7]; rfl
                    have cr1 : Y.cell? ⟨gx, 1, none⟩ = some (.int .i64 r.t) := by rw [cell_of_row _ _ _ _ _ _ G7]; rfl
                    have cr2 : Y.cell? ⟨gx, 2, none⟩ = some (.slice ftp r.tr.length ftc) := by rw [cell_of_row _ _ _ _ _ _ G7]; rfl
                    have cr3 : Y.cell? ⟨gx, 3, none⟩ = some (.int .i64 r.c) := by rw [cell_of_row _ _ _ _ _ _ G7]; rfl
                    have cr4 : Y.cell? ⟨gx, 4, none⟩ = some (.slice flp r.li.length flc) := by rw [cell_of_row _ _ _ _ _ _ G7]; rfl
                    have cr5 : Y.cell? ⟨gx, 5, none⟩ = some (.slice fkp r.lk.length fkc) := by rw [cell_of_row _ _ _ _ _ _ G7]; rfl
                    have zr0 : Y.frozen? ⟨gx, 0, none⟩ = false := frz_of G7
                    have zr1 : Y.frozen? ⟨gx, 1, none⟩ = false := frz_of G7
                    have zr2 : Y.frozen? ⟨gx, 2, none⟩ = false := frz_of G7
                    have zr3 : Y.frozen? ⟨gx, 3, none⟩ = false := frz_of G7
                    have zr4 : Y.frozen? ⟨gx, 4, none⟩ = false := frz_of G7
                    have zr5 : Y.frozen? ⟨gx, 5, none⟩ = false := frz_of G7
                    cases hpok : pok with
                    | false =>
                      subst hpok
                      have HR : Hid (R = none) := by
                        show _ = _
                        rw [HRR.out, ← Hs.out rfl]
                        simp
                      clear Hs Hy Hno HFs
                      have fx0 : Y.cell? ⟨w.heap.size + 1, 0, none⟩ = some (.int .i64 0) := by rw [cell_of_row _ _ _ _ _ _ Z7]; rfl
                      have fx1 : Y.cell? ⟨w.heap.size + 1, 1, none⟩ = some (.int .i64 0) := by rw [cell_of_row _ _ _ _ _ _ Z7]; rfl
                      have fx2 : Y.cell? ⟨w.heap.size + 1, 2, none⟩ = some (.slice none 0 0) := by rw [cell_of_row _ _ _ _ _ _ Z7]; rfl
                      have fx3 : Y.cell? ⟨w.heap.size + 1, 3, none⟩ = some (.int .i64 0) := by rw [cell_of_row _ _ _ _ _ _ Z7]; rfl
                      have fx4 : Y.cell? ⟨w.heap.size + 1, 4, none⟩ = some (.slice none 0 0) := by rw [cell_of_row _ _ _ _ _ _ Z7]; rfl
                      have fx5 : Y.cell? ⟨w.heap.size + 1, 5, none⟩ = some (.slice none 0 0) := by rw [cell_of_row _ _ _ _ _ _ Z7]; rfl
                      have fz0 : Y.frozen? ⟨w.heap.size + 1, 0, none⟩ = false := frz_of Z7
                      have fz1 : Y.frozen? ⟨w.heap.size + 1, 1, none⟩ = false := frz_of Z7
                      have fz2 : Y.frozen? ⟨w.heap.size + 1, 2, none⟩ = false := frz_of Z7
                      have fz3 : Y.frozen? ⟨w.heap.size + 1, 3, none⟩ = false := frz_of Z7
                      have fz4 : Y.frozen? ⟨w.heap.size + 1, 4, none⟩ = false := frz_of Z7
                      have fz5 : Y.frozen? ⟨w.heap.size + 1, 5, none⟩ = false := frz_of Z7
                      have hon : Only (w.heap.size + 1) Y (((((((Y).setCell ⟨w.heap.size + 1, 0, none⟩ (.int .i64 0)).setCell ⟨w.heap.size + 1, 1, none⟩ (.int .i64 0)).setCell ⟨w.heap.size + 1, 2, none⟩ (.slice none 0 0)).setCell ⟨w.heap.size + 1, 3, none⟩ (.int .i64 0)).setCell ⟨w.heap.size + 1, 4, none⟩ (.slice none 0 0)).setCell ⟨w.heap.size + 1, 5, none⟩ (.slice none 0 0)) := ((((((Only.refl _ _).setCell 0 _).setCell 1 _).setCell 2 _).setCell 3 _).setCell 4 _).setCell 5 _
                      have bf : Below w.heap.size w (((((((Y).setCell ⟨w.heap.size + 1, 0, none⟩ (.int .i64 0)).setCell ⟨w.heap.size + 1, 1, none⟩ (.int .i64 0)).setCell ⟨w.heap.size + 1, 2, none⟩ (.slice none 0 0)).setCell ⟨w.heap.size + 1, 3, none⟩ (.int .i64 0)).setCell ⟨w.heap.size + 1, 4, none⟩ (.slice none 0 0)).setCell ⟨w.heap.size + 1, 5, none⟩ (.slice none 0 0)) := bw7.trans (hon.below (by omega))
                      clear hon
                      go_wp2
                      refine bodyPost_ret (v := .tuple #[.agg #[.int .i64 0, .int .i64 0, .slice none 0 0, .int .i64 0, .slice none 0 0, .slice none 0 0], .int .i64 95]) ?_ rfl ?_
                      · simp only [results, Tryd.results15]
                        go_simp
                      · rw [HR.out]
                        exact ⟨none, 0, none, 0, none, 0, rfl, HB.nil _, HB.nil _, PA.nil _, bf⟩
                    | true =>
                      subst hpok
                      by_cases hpf : p.t ≤ t
                      · have HE : Hid (srchI (gC size hd ss t) (l ++ [m]) m hi = A) := Hy.out rfl hpf
                        have HF2 : Hid (fnd size hd t ss (l ++ [m]) zR = p) := HFs.out.trans (if_pos ⟨rfl, hpf⟩)
                        clear Hs Hy Hno HFs
                        go_wp2
                        obtain ⟨WD, hWD⟩ : ∃ WD, WD = Y.drew := ⟨_, rfl⟩
                        have GPd : WD.heap[gp]? = some (.cells #[.int .i64 p.e, .int .i64 p.t, .slice ptp p.tr.length ptc, .int .i64 p.c, .slice plp p.li.length plc, .slice pkp p.lk.length pkc] 25 (0, 0)) := by rw [hWD]; exact GP
                        have G7d : WD.heap[gx]? = some (.cells #[.int .i64 r.e, .int .i64 r.t, .slice ftp r.tr.length ftc, .int .i64 r.c, .slice flp r.li.length flc, .slice fkp r.lk.length fkc] 25 (0, 0)) := by rw [hWD]; exact G7
                        have bUd : Below gx U WD := by rw [hWD]; exact bU7.drew
                        have G8 := set6 _ _ _ _ _ _ _ _ _ (.int .i64 p.e) (.int .i64 p.t) (.slice ptp p.tr.length ptc) (.int .i64 p.c) (.slice plp p.li.length plc) (.slice pkp p.lk.length pkc) G7d
                        have b8 : Below gx U (((((((WD).setCell ⟨gx, 0, none⟩ (.int .i64 p.e)).setCell ⟨gx, 1, none⟩ (.int .i64 p.t)).setCell ⟨gx, 2, none⟩ (.slice ptp p.tr.length ptc)).setCell ⟨gx, 3, none⟩ (.int .i64 p.c)).setCell ⟨gx, 4, none⟩ (.slice plp p.li.length plc)).setCell ⟨gx, 5, none⟩ (.slice pkp p.lk.length pkc)) := sets_below bUd _ _ _ _ _ _
                        clear cp0 cp1 cp2 cp3 cp4 cp5 cr0 cr1 cr2 cr3 cr4 cr5 zr0 zr1 zr2 zr3 zr4 zr5
                        have cp0 : WD.cell? ⟨gp, 0, none⟩ = some (.int .i64 p.e) := by rw [cell_of_row _ _ _ _ _ _ GPd]; rfl
                        have cp1 : WD.cell? ⟨gp, 1, none⟩ = some (.int .i64 p.t) := by rw [cell_of_row _ _ _ _ _ _ GPd]; rfl
                        have cp2 : WD.cell? ⟨gp, 2, none⟩ = some (.slice ptp p.tr.length ptc) := by rw [cell_of_row _ _ _ _ _ _ GPd]; rfl
                        have cp3 : WD.cell? ⟨gp, 3, none⟩ = some (.int .i64 p.c) := by rw [cell_of_row _ _ _ _ _ _ GPd]; rfl
                        have cp4 : WD.cell? ⟨gp, 4, none⟩ = some (.slice plp p.li.length plc) := by rw [cell_of_row _ _ _ _ _ _ GPd]; rfl
                        have cp5 : WD.cell? ⟨gp, 5, none⟩ = some (.slice pkp p.lk.length pkc) := by rw [cell_of_row _ _ _ _ _ _ GPd]; rfl
                        have cr0 : WD.cell? ⟨gx, 0, none⟩ = some (.int .i64 r.e) := by rw [cell_of_row _ _ _ _ _ _ G7d]; rfl
                        have cr1 : WD.cell? ⟨gx, 1, none⟩ = some (.int .i64 r.t) := by rw [cell_of_row _ _ _ _ _ _ G7d]; rfl
                        have cr2 : WD.cell? ⟨gx, 2, none⟩ = some (.slice ftp r.tr.length ftc) := by rw [cell_of_row _ _ _ _ _ _ G7d]; rfl
                        have cr3 : WD.cell? ⟨gx, 3, none⟩ = some (.int .i64 r.c) := by rw [cell_of_row _ _ _ _ _ _ G7d]; rfl
                        have cr4 : WD.cell? ⟨gx, 4, none⟩ = some (.slice flp r.li.length flc) := by rw [cell_of_row _ _ _ _ _ _ G7d]; rfl
                        have cr5 : WD.cell? ⟨gx, 5, none⟩ = some (.slice fkp r.lk.length fkc) := by rw [cell_of_row _ _ _ _ _ _ G7d]; rfl
                        have zr0 : WD.frozen? ⟨gx, 0, none⟩ = false := frz_of G7d
                        have zr1 : WD.frozen? ⟨gx, 1, none⟩ = false := frz_of G7d
                        have zr2 : WD.frozen? ⟨gx, 2, none⟩ = false := frz_of G7d
                        have zr3 : WD.frozen? ⟨gx, 3, none⟩ = false := frz_of G7d
                        have zr4 : WD.frozen? ⟨gx, 4, none⟩ = false := frz_of G7d
                        have zr5 : WD.frozen? ⟨gx, 5, none⟩ = false := frz_of G7d
                        have hHeld : WD.cell? ⟨gp, 0, none⟩ = some (.int .i64 p.e) ∧ WD.cell? ⟨gp, 1, none⟩ = some (.int .i64 p.t) ∧ WD.cell? ⟨gp, 2, none⟩ = some (.slice ptp p.tr.length ptc) ∧ WD.cell? ⟨gp, 3, none⟩ = some (.int .i64 p.c) ∧ WD.cell? ⟨gp, 4, none⟩ = some (.slice plp p.li.length plc) ∧ WD.cell? ⟨gp, 5, none⟩ = some (.slice pkp p.lk.length pkc) := ⟨cp0, cp1, cp2, cp3, cp4, cp5⟩
                        clear GPd G7d bUd cp0 cp1 cp2 cp3 cp4 cp5
                        refine wp_region_split (by kernel_rfl) (fun W => W.cell? ⟨gp, 0, none⟩ = some (.int .i64 p.e) ∧ W.cell? ⟨gp, 1, none⟩ = some (.int .i64 p.t) ∧ W.cell? ⟨gp, 2, none⟩ = some (.slice ptp p.tr.length ptc) ∧ W.cell? ⟨gp, 3, none⟩ = some (.int .i64 p.c) ∧ W.cell? ⟨gp, 4, none⟩ = some (.slice plp p.li.length plc) ∧ W.cell? ⟨gp, 5, none⟩ = some (.slice pkp p.lk.length pkc)) 3 1 #[⟨some 84, .move (.tmp 16), 3, "ref.go:66", #[], none⟩, ⟨some 85, .load 25 (.tmp 17), 25, "ref.go:66", #[{ on := 2, ground := .gcOnly .lateStores }], none⟩, ⟨some 12, .assign (.tmp 84), 3, "ref.go:66", #[⟨0, .data⟩, ⟨0, .phase⟩, { on := 1, ground := .textOnly .lateStores }], none⟩] (by kernel_rfl) (by kernel_rfl) ?_
                        rw [← hWD]
                        clear hWD
                        refine tkY 0 ⟨some 84, .move (.tmp 16), 3, "ref.go:66", #[], none⟩ ?v0x1 hHeld ?y0x1 ?r0x1
                        case y0x1 => (intro w hSw; (try dsimp only at hSw); go_simp) <;> with_reducible rfl
                        try simp only [Act.put, List.setIfInBounds_toArray, List.set_cons_zero, List.set_cons_succ]
                        refine tkY 1 ⟨some 85, .load 25 (.tmp 17), 25, "ref.go:66", #[{ on := 2, ground := .gcOnly .lateStores }], none⟩ ?v1x2 hHeld ?y1x2 ?r1x2
                        case y1x2 => (intro w hSw; (try dsimp only at hSw); go_simp) <;> with_reducible rfl
                        try simp only [Act.put, List.setIfInBounds_toArray, List.set_cons_zero, List.set_cons_succ]
                        refine tkY 2 ⟨some 12, .assign (.tmp 84), 3, "ref.go:66", #[⟨0, .data⟩, ⟨0, .phase⟩, { on := 1, ground := .textOnly .lateStores }], none⟩ ?v2x3 hHeld ?y2x3 ?r2x3
                        case y2x3 => (intro w hSw; (try dsimp only at hSw); go_simp) <;> with_reducible rfl
                        try simp only [Act.put, List.setIfInBounds_toArray, List.set_cons_zero, List.set_cons_succ]
                        refine wpAnyH_done (by kernel_rfl) ?_ _
                        refine headPost_rest [⟨none, .store 25 (.tmp 10) (.tmp 85), 0, "ref.go:66", #[⟨1, .data⟩, ⟨2, .chain⟩, ⟨0, .phase⟩, ⟨1, .phase⟩, ⟨2, .phase⟩], none⟩] (by kernel_rfl) rfl (by kernel_rfl) ?_
                        clear hHeld
                        go_wp2
                        go_roundw
                        case rel =>
                          first
                          | exact ⟨k + 1, l ++ [m], m, hi, p, ptp, ptc, plp, plc, pkp, pkc, by omega, rfl, rfl, by go_num, by omega, by omega, Hl2, HE, HF2, G8, pr1, pr2, pr3, b8⟩
                          | ((repeat apply Exists.intro); exact ⟨⟨k + 1, l ++ [m], m, hi, p, ptp, ptc, plp, plc, pkp, pkc, by omega, rfl, rfl, by go_num, by omega, by omega, Hl2, HE, HF2, G8, pr1, pr2, pr3, b8⟩, rfl⟩)
                        case measure => simp [intOf]; omega
                      · have hpf2 : t < p.t := by omega
                        have HE : Hid (srchI (gC size hd ss t) (l ++ [m]) lo (m - 1) = A) := Hno.out rfl (by first | exact hpf | omega)
                        have HF2 : Hid (fnd size hd t ss (l ++ [m]) zR = r) := HFs.out.trans (if_neg (fun h => hpf h.2))
                        clear Hs Hy Hno HFs
                        go_wp2
                        go_roundw
                        case rel => first | exact ⟨k + 1, l ++ [m], lo, m - 1, r, ftp, ftc, flp, flc, fkp, fkc, by omega, rfl, by go_num, by go_num, by omega, by omega, Hl2, HE, HF2, G7, r1, r2, r3, bU7⟩ | ((repeat apply Exists.intro); exact ⟨⟨k + 1, l ++ [m], lo, m - 1, r, ftp, ftc, flp, flc, fkp, fkc, by omega, rfl, by go_num, by go_num, by omega, by omega, Hl2, HE, HF2, G7, r1, r2, r3, bU7⟩, rfl⟩)
                        case measure => simp [intOf]; omega
                  · have HR : Hid (R = none) := by
                      show _ = _
                      rw [HRR.out, ← HI.out, srchI_end _ l lo hi hlt, if_neg (fun h => by have a1 := h.2; have a2 := Hll.out; have a3 := Hn.out; simp only at a1; omega)]
                    have hge : (hi : Int) ≤ (lo : Int) := by omega
                    have fx0 : wr.cell? ⟨w.heap.size + 1, 0, none⟩ = some (.int .i64 0) := by rw [cell_of_row _ _ _ _ _ _ WZ]; rfl
                    have fx1 : wr.cell? ⟨w.heap.size + 1, 1, none⟩ = some (.int .i64 0) := by rw [cell_of_row _ _ _ _ _ _ WZ]; rfl
                    have fx2 : wr.cell? ⟨w.heap.size + 1, 2, none⟩ = some (.slice none 0 0) := by rw [cell_of_row _ _ _ _ _ _ WZ]; rfl
                    have fx3 : wr.cell? ⟨w.heap.size + 1, 3, none⟩ = some (.int .i64 0) := by rw [cell_of_row _ _ _ _ _ _ WZ]; rfl
                    have fx4 : wr.cell? ⟨w.heap.size + 1, 4, none⟩ = some (.slice none 0 0) := by rw [cell_of_row _ _ _ _ _ _ WZ]; rfl
                    have fx5 : wr.cell? ⟨w.heap.size + 1, 5, none⟩ = some (.slice none 0 0) := by rw [cell_of_row _ _ _ _ _ _ WZ]; rfl
                    have fz0 : wr.frozen? ⟨w.heap.size + 1, 0, none⟩ = false := frz_of WZ
                    have fz1 : wr.frozen? ⟨w.heap.size + 1, 1, none⟩ = false := frz_of WZ
                    have fz2 : wr.frozen? ⟨w.heap.size + 1, 2, none⟩ = false := frz_of WZ
                    have fz3 : wr.frozen? ⟨w.heap.size + 1, 3, none⟩ = false := frz_of WZ
                    have fz4 : wr.frozen? ⟨w.heap.size + 1, 4, none⟩ = false := frz_of WZ
                    have fz5 : wr.frozen? ⟨w.heap.size + 1, 5, none⟩ = false := frz_of WZ
                    have hon : Only (w.heap.size + 1) wr (((((((wr).setCell ⟨w.heap.size + 1, 0, none⟩ (.int .i64 0)).setCell ⟨w.heap.size + 1, 1, none⟩ (.int .i64 0)).setCell ⟨w.heap.size + 1, 2, none⟩ (.slice none 0 0)).setCell ⟨w.heap.size + 1, 3, none⟩ (.int .i64 0)).setCell ⟨w.heap.size + 1, 4, none⟩ (.slice none 0 0)).setCell ⟨w.heap.size + 1, 5, none⟩ (.slice none 0 0)) := ((((((Only.refl _ _).setCell 0 _).setCell 1 _).setCell 2 _).setCell 3 _).setCell 4 _).setCell 5 _
                    have bf : Below w.heap.size w (((((((wr).setCell ⟨w.heap.size + 1, 0, none⟩ (.int .i64 0)).setCell ⟨w.heap.size + 1, 1, none⟩ (.int .i64 0)).setCell ⟨w.heap.size + 1, 2, none⟩ (.slice none 0 0)).setCell ⟨w.heap.size + 1, 3, none⟩ (.int .i64 0)).setCell ⟨w.heap.size + 1, 4, none⟩ (.slice none 0 0)).setCell ⟨w.heap.size + 1, 5, none⟩ (.slice none 0 0)) := bwr.trans (hon.below (by omega))
                    clear hon
                    go_wp2
                    refine bodyPost_ret (v := .tuple #[.agg #[.int .i64 0, .int .i64 0, .slice none 0 0, .int .i64 0, .slice none 0 0, .slice none 0 0], .int .i64 95]) ?_ rfl ?_
                    · simp only [results, Tryd.results15]
                      go_simp
                    · rw [HR.out]
                      exact ⟨none, 0, none, 0, none, 0, rfl, HB.nil _, HB.nil _, PA.nil _, bf⟩
                · obtain rfl : k = n1 := by omega
                  by_cases hlt : lo < hi
                  · have HR : Hid (R = none) := by
                      have hn : ss[l.length]? = none := List.getElem?_eq_none (by have := Hll.out; have := Hn.out; omega)
                      have hg : (gC size hd ss t l ((lo + hi + 1) / 2)).2 = false := by unfold gC; rw [hn]
                      show _ = _
                      rw [HRR.out, ← HI.out, srchI_stop _ l lo hi _ hlt rfl hg]
                      simp
                    have hlt2 : (lo : Int) < (hi : Int) := by omega
                    have fx0 : wr.cell? ⟨w.heap.size + 1, 0, none⟩ = some (.int .i64 0) := by rw [cell_of_row _ _ _ _ _ _ WZ]; rfl
                    have fx1 : wr.cell? ⟨w.heap.size + 1, 1, none⟩ = some (.int .i64 0) := by rw [cell_of_row _ _ _ _ _ _ WZ]; rfl
                    have fx2 : wr.cell? ⟨w.heap.size + 1, 2, none⟩ = some (.slice none 0 0) := by rw [cell_of_row _ _ _ _ _ _ WZ]; rfl
                    have fx3 : wr.cell? ⟨w.heap.size + 1, 3, none⟩ = some (.int .i64 0) := by rw [cell_of_row _ _ _ _ _ _ WZ]; rfl
                    have fx4 : wr.cell? ⟨w.heap.size + 1, 4, none⟩ = some (.slice none 0 0) := by rw [cell_of_row _ _ _ _ _ _ WZ]; rfl
                    have fx5 : wr.cell? ⟨w.heap.size + 1, 5, none⟩ = some (.slice none 0 0) := by rw [cell_of_row _ _ _ _ _ _ WZ]; rfl
                    have fz0 : wr.frozen? ⟨w.heap.size + 1, 0, none⟩ = false := frz_of WZ
                    have fz1 : wr.frozen? ⟨w.heap.size + 1, 1, none⟩ = false := frz_of WZ
                    have fz2 : wr.frozen? ⟨w.heap.size + 1, 2, none⟩ = false := frz_of WZ
                    have fz3 : wr.frozen? ⟨w.heap.size + 1, 3, none⟩ = false := frz_of WZ
                    have fz4 : wr.frozen? ⟨w.heap.size + 1, 4, none⟩ = false := frz_of WZ
                    have fz5 : wr.frozen? ⟨w.heap.size + 1, 5, none⟩ = false := frz_of WZ
                    have hon : Only (w.heap.size + 1) wr (((((((wr).setCell ⟨w.heap.size + 1, 0, none⟩ (.int .i64 0)).setCell ⟨w.heap.size + 1, 1, none⟩ (.int .i64 0)).setCell ⟨w.heap.size + 1, 2, none⟩ (.slice none 0 0)).setCell ⟨w.heap.size + 1, 3, none⟩ (.int .i64 0)).setCell ⟨w.heap.size + 1, 4, none⟩ (.slice none 0 0)).setCell ⟨w.heap.size + 1, 5, none⟩ (.slice none 0 0)) := ((((((Only.refl _ _).setCell 0 _).setCell 1 _).setCell 2 _).setCell 3 _).setCell 4 _).setCell 5 _
                    have bf : Below w.heap.size w (((((((wr).setCell ⟨w.heap.size + 1, 0, none⟩ (.int .i64 0)).setCell ⟨w.heap.size + 1, 1, none⟩ (.int .i64 0)).setCell ⟨w.heap.size + 1, 2, none⟩ (.slice none 0 0)).setCell ⟨w.heap.size + 1, 3, none⟩ (.int .i64 0)).setCell ⟨w.heap.size + 1, 4, none⟩ (.slice none 0 0)).setCell ⟨w.heap.size + 1, 5, none⟩ (.slice none 0 0)) := bwr.trans (hon.below (by omega))
                    clear hon
                    go_wp2
                    refine bodyPost_ret (v := .tuple #[.agg #[.int .i64 0, .int .i64 0, .slice none 0 0, .int .i64 0, .slice none 0 0, .slice none 0 0], .int .i64 95]) ?_ rfl ?_
                    · simp only [results, Tryd.results15]
                      go_simp
                    · rw [HR.out]
                      exact ⟨none, 0, none, 0, none, 0, rfl, HB.nil _, HB.nil _, PA.nil _, bf⟩
                  · have HR : Hid (R = some r) := by
                      show _ = _
                      rw [HRR.out, ← HI.out, srchI_end _ l lo hi hlt, if_pos ⟨rfl, by have := Hll.out; have := Hn.out; simp only; omega⟩]
                      simp only [HFn.out]
                    have hge : ¬ ((lo : Int) < (hi : Int)) := by omega
                    have fy0 : wr.cell? ⟨gx, 0, none⟩ = some (.int .i64 r.e) := by rw [cell_of_row _ _ _ _ _ _ GF]; rfl
                    have fy1 : wr.cell? ⟨gx, 1, none⟩ = some (.int .i64 r.t) := by rw [cell_of_row _ _ _ _ _ _ GF]; rfl
                    have fy2 : wr.cell? ⟨gx, 2, none⟩ = some (.slice ftp r.tr.length ftc) := by rw [cell_of_row _ _ _ _ _ _ GF]; rfl
                    have fy3 : wr.cell? ⟨gx, 3, none⟩ = some (.int .i64 r.c) := by rw [cell_of_row _ _ _ _ _ _ GF]; rfl
                    have fy4 : wr.cell? ⟨gx, 4, none⟩ = some (.slice flp r.li.length flc) := by rw [cell_of_row _ _ _ _ _ _ GF]; rfl
                    have fy5 : wr.cell? ⟨gx, 5, none⟩ = some (.slice fkp r.lk.length fkc) := by rw [cell_of_row _ _ _ _ _ _ GF]; rfl
                    have fx0 : wr.cell? ⟨w.heap.size + 1, 0, none⟩ = some (.int .i64 0) := by rw [cell_of_row _ _ _ _ _ _ WZ]; rfl
                    have fx1 : wr.cell? ⟨w.heap.size + 1, 1, none⟩ = some (.int .i64 0) := by rw [cell_of_row _ _ _ _ _ _ WZ]; rfl
                    have fx2 : wr.cell? ⟨w.heap.size + 1, 2, none⟩ = some (.slice none 0 0) := by rw [cell_of_row _ _ _ _ _ _ WZ]; rfl
                    have fx3 : wr.cell? ⟨w.heap.size + 1, 3, none⟩ = some (.int .i64 0) := by rw [cell_of_row _ _ _ _ _ _ WZ]; rfl
                    have fx4 : wr.cell? ⟨w.heap.size + 1, 4, none⟩ = some (.slice none 0 0) := by rw [cell_of_row _ _ _ _ _ _ WZ]; rfl
                    have fx5 : wr.cell? ⟨w.heap.size + 1, 5, none⟩ = some (.slice none 0 0) := by rw [cell_of_row _ _ _ _ _ _ WZ]; rfl
                    have fz0 : wr.frozen? ⟨w.heap.size + 1, 0, none⟩ = false := frz_of WZ
                    have fz1 : wr.frozen? ⟨w.heap.size + 1, 1, none⟩ = false := frz_of WZ
                    have fz2 : wr.frozen? ⟨w.heap.size + 1, 2, none⟩ = false := frz_of WZ
                    have fz3 : wr.frozen? ⟨w.heap.size + 1, 3, none⟩ = false := frz_of WZ
                    have fz4 : wr.frozen? ⟨w.heap.size + 1, 4, none⟩ = false := frz_of WZ
                    have fz5 : wr.frozen? ⟨w.heap.size + 1, 5, none⟩ = false := frz_of WZ
                    have hon : Only (w.heap.size + 1) wr (((((((wr).setCell ⟨w.heap.size + 1, 0, none⟩ (.int .i64 r.e)).setCell ⟨w.heap.size + 1, 1, none⟩ (.int .i64 r.t)).setCell ⟨w.heap.size + 1, 2, none⟩ (.slice ftp r.tr.length ftc)).setCell ⟨w.heap.size + 1, 3, none⟩ (.int .i64 r.c)).setCell ⟨w.heap.size + 1, 4, none⟩ (.slice flp r.li.length flc)).setCell ⟨w.heap.size + 1, 5, none⟩ (.slice fkp r.lk.length fkc)) := ((((((Only.refl _ _).setCell 0 _).setCell 1 _).setCell 2 _).setCell 3 _).setCell 4 _).setCell 5 _
                    have bf : Below w.heap.size w (((((((wr).setCell ⟨w.heap.size + 1, 0, none⟩ (.int .i64 r.e)).setCell ⟨w.heap.size + 1, 1, none⟩ (.int .i64 r.t)).setCell ⟨w.heap.size + 1, 2, none⟩ (.slice ftp r.tr.length ftc)).setCell ⟨w.heap.size + 1, 3, none⟩ (.int .i64 r.c)).setCell ⟨w.heap.size + 1, 4, none⟩ (.slice flp r.li.length flc)).setCell ⟨w.heap.size + 1, 5, none⟩ (.slice fkp r.lk.length fkc)) := bwr.trans (hon.below (by omega))
                    clear hon
                    go_wp2
                    refine bodyPost_ret (v := .tuple #[.agg #[.int .i64 r.e, .int .i64 r.t, .slice ftp r.tr.length ftc, .int .i64 r.c, .slice flp r.li.length flc, .slice fkp r.lk.length fkc], .int .i64 0]) ?_ rfl ?_
                    · simp only [results, Tryd.results15]
                      go_simp
                    · rw [HR.out]
                      exact ⟨ftp, ftc, flp, flc, fkp, fkc, rfl, r1.later bf, r2.later bf, r3.later bf, bf⟩
          · have hfit2 : t < q.t := by omega
            have HR : Hid (R = none) := HA0.out (fun h => hfit h.2)
            clear HA0 HA1
            have fx0 : U.cell? ⟨w.heap.size + 1, 0, none⟩ = some (.int .i64 0) := by rw [cell_of_row _ _ _ _ _ _ UZ]; rfl
            have fx1 : U.cell? ⟨w.heap.size + 1, 1, none⟩ = some (.int .i64 0) := by rw [cell_of_row _ _ _ _ _ _ UZ]; rfl
            have fx2 : U.cell? ⟨w.heap.size + 1, 2, none⟩ = some (.slice none 0 0) := by rw [cell_of_row _ _ _ _ _ _ UZ]; rfl
            have fx3 : U.cell? ⟨w.heap.size + 1, 3, none⟩ = some (.int .i64 0) := by rw [cell_of_row _ _ _ _ _ _ UZ]; rfl
            have fx4 : U.cell? ⟨w.heap.size + 1, 4, none⟩ = some (.slice none 0 0) := by rw [cell_of_row _ _ _ _ _ _ UZ]; rfl
            have fx5 : U.cell? ⟨w.heap.size + 1, 5, none⟩ = some (.slice none 0 0) := by rw [cell_of_row _ _ _ _ _ _ UZ]; rfl
            have fz0 : U.frozen? ⟨w.heap.size + 1, 0, none⟩ = false := frz_of UZ
            have fz1 : U.frozen? ⟨w.heap.size + 1, 1, none⟩ = false := frz_of UZ
            have fz2 : U.frozen? ⟨w.heap.size + 1, 2, none⟩ = false := frz_of UZ
            have fz3 : U.frozen? ⟨w.heap.size + 1, 3, none⟩ = false := frz_of UZ
            have fz4 : U.frozen? ⟨w.heap.size + 1, 4, none⟩ = false := frz_of UZ
            have fz5 : U.frozen? ⟨w.heap.size + 1, 5, none⟩ = false := frz_of UZ
            have hon : Only (w.heap.size + 1) U (((((((U).setCell ⟨w.heap.size + 1, 0, none⟩ (.int .i64 0)).setCell ⟨w.heap.size + 1, 1, none⟩ (.int .i64 0)).setCell ⟨w.heap.size + 1, 2, none⟩ (.slice none 0 0)).setCell ⟨w.heap.size + 1, 3, none⟩ (.int .i64 0)).setCell ⟨w.heap.size + 1, 4, none⟩ (.slice none 0 0)).setCell ⟨w.heap.size + 1, 5, none⟩ (.slice none 0 0)) := ((((((Only.refl _ _).setCell 0 _).setCell 1 _).setCell 2 _).setCell 3 _).setCell 4 _).setCell 5 _
            have bf : Below w.heap.size w (((((((U).setCell ⟨w.heap.size + 1, 0, none⟩ (.int .i64 0)).setCell ⟨w.heap.size + 1, 1, none⟩ (.int .i64 0)).setCell ⟨w.heap.size + 1, 2, none⟩ (.slice none 0 0)).setCell ⟨w.heap.size + 1, 3, none⟩ (.int .i64 0)).setCell ⟨w.heap.size + 1, 4, none⟩ (.slice none 0 0)).setCell ⟨w.heap.size + 1, 5, none⟩ (.slice none 0 0)) := bwU.trans (hon.below (by omega))
            clear hon
            go_wp2
            refine bodyPost_ret (v := .tuple #[.agg #[.int .i64 0, .int .i64 0, .slice none 0 0, .int .i64 0, .slice none 0 0, .slice none 0 0], .int .i64 95]) ?_ rfl ?_
            · simp only [results, Tryd.results15]
              go_simp
            · rw [HR.out]
              exact ⟨none, 0, none, 0, none, 0, rfl, HB.nil _, HB.nil _, PA.nil _, bf⟩

end Go.Proofs.YtpndpmkoegmbkaaDoor
