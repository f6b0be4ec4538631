/- What this text holds: a slice of records in memory (plain facts); what follows a head record: plainly. What this text holds: blocks of unlike types part what lies apart (plain facts, no walk). -/
import Derived.Test.YtpndpmkoegmbkaaDoorJHs
import Derived.Test.YtpndpmkoegmbkaaDoorJSk
import Derived.Test.YtpndpmkoegmbkaaDoorJB2
namespace Go.Proofs.YtpndpmkoegmbkaaDoor
open Go.RowKit

/-- A record's six cells from o on. -/
def RCells (w : World) (b o : Nat) (r : Rc) (tp : Option Addr) (tc : Nat) (lp : Option Addr) (lc : Nat) (kp : Option Addr) (kc : Nat) : Prop :=
  (w.cell? ⟨b, o, none⟩ = some (.int .i64 r.e) ∧ w.cell? ⟨b, o + 1, none⟩ = some (.int .i64 r.t) ∧ w.cell? ⟨b, o + 2, none⟩ = some (.slice tp r.tr.length tc) ∧ w.cell? ⟨b, o + 3, none⟩ = some (.int .i64 r.c) ∧ w.cell? ⟨b, o + 4, none⟩ = some (.slice lp r.li.length lc) ∧ w.cell? ⟨b, o + 5, none⟩ = some (.slice kp r.lk.length kc)) ∧
  HB w (.slice tp r.tr.length tc) r.tr ∧ HB w (.slice lp r.li.length lc) r.li ∧ PA w (.slice kp r.lk.length kc) r.lk

theorem RCells.later {w w' : World} {b o : Nat} {r : Rc} {tp lp kp : Option Addr} {tc lc kc : Nat} (h : RCells w b o r tp tc lp lc kp kc) (hb : Below w.heap.size w w') : RCells w' b o r tp tc lp lc kp kc := by
  obtain ⟨⟨h0, h1, h2, h3, h4, h5⟩, h6, h7, h8⟩ := h
  exact ⟨⟨cell_later hb h0, cell_later hb h1, cell_later hb h2, cell_later hb h3, cell_later hb h4, cell_later hb h5⟩, h6.later hb, h7.later hb, h8.later hb⟩

/-- The value v is a slice of records. -/
def RA (w : World) (v : Value) (rs : List Rc) : Prop :=
  ∃ (p : Option Addr) (cap : Nat), v = .slice p rs.length cap ∧ rs.length ≤ cap ∧ cap ≤ maxLen ∧
    (rs ≠ [] → ∃ b o, p = some ⟨b, o, none⟩ ∧ ∀ (k : Nat) r, rs[k]? = some r → ∃ tp tc lp lc kp kc, RCells w b (o + k * 6) r tp tc lp lc kp kc)

theorem RA.later {w w' : World} {v : Value} {rs : List Rc} (h : RA w v rs) (hb : Below w.heap.size w w') : RA w' v rs := by
  obtain ⟨p, cap, e, h1, h2, h3⟩ := h
  refine ⟨p, cap, e, h1, h2, fun hn => ?_⟩
  obtain ⟨b, o, e1, e2⟩ := h3 hn
  refine ⟨b, o, e1, fun k x hx => ?_⟩
  obtain ⟨tp, tc, lp, lc, kp, kc, q⟩ := e2 k x hx
  exact ⟨tp, tc, lp, lc, kp, kc, q.later hb⟩

theorem RA.shape {w : World} {v : Value} {rs : List Rc} (h : RA w v rs) : ∃ p c, v = .slice p rs.length c := by
  obtain ⟨p, cap, e, _⟩ := h
  exact ⟨p, cap, e⟩

theorem RA.len {w : World} {p : Option Addr} {n c : Nat} {rs : List Rc} (h : RA w (.slice p n c) rs) : n = rs.length ∧ n ≤ c ∧ c ≤ maxLen := by
  obtain ⟨p', cap, e, h1, h2, _⟩ := h
  simp only [Value.slice.injEq] at e
  obtain ⟨rfl, rfl, rfl⟩ := e
  exact ⟨rfl, h1, h2⟩

theorem RA.addr {w : World} {p : Option Addr} {n c : Nat} {rs : List Rc} (h : RA w (.slice p n c) rs) (hn : 0 < n) : ∃ b o, p = some ⟨b, o, none⟩ := by
  obtain ⟨p', cap, e, h1, h2, h3⟩ := h
  simp only [Value.slice.injEq] at e
  obtain ⟨rfl, rfl, rfl⟩ := e
  obtain ⟨b, o, e, _⟩ := h3 (fun h => by subst h; simp at hn)
  exact ⟨b, o, e⟩

/-- One record: its cells, and what they hold. -/
theorem RA.get {w : World} {b o n c : Nat} {rs : List Rc} (h : RA w (.slice (some ⟨b, o, none⟩) n c) rs) (i : Nat) (hi : i < n) :
    ∃ r tp tc lp lc kp kc, Hid (rs[i]? = some r) ∧ RCells w b (o + i * 6) r tp tc lp lc kp kc := by
  obtain ⟨p', cap, e, h1, h2, h3⟩ := h
  simp only [Value.slice.injEq] at e
  obtain ⟨rfl, rfl, rfl⟩ := e
  obtain ⟨b', o', e', hc⟩ := h3 (fun e => by subst e; simp at hi)
  simp only [Option.some.injEq, Addr.mk.injEq, and_true] at e'
  obtain ⟨rfl, rfl⟩ := e'
  obtain ⟨tp, tc, lp, lc, kp, kc, q⟩ := hc i rs[i] (List.getElem?_eq_getElem hi)
  exact ⟨rs[i], tp, tc, lp, lc, kp, kc, List.getElem?_eq_getElem hi, q⟩

/-- The first ones. -/
theorem RA.take {w : World} {p : Option Addr} {n c : Nat} {rs : List Rc} (h : RA w (.slice p n c) rs) (k : Nat) (hk : k ≤ n) : RA w (.slice p k c) (rs.take k) := by
  obtain ⟨p', cap, e, h1, h2, h3⟩ := h
  simp only [Value.slice.injEq] at e
  obtain ⟨rfl, rfl, rfl⟩ := e
  refine ⟨p, c, ?_, by simp; omega, h2, fun hne => ?_⟩
  · congr 1
    simp
    omega
  · obtain ⟨b, o, e, hc⟩ := h3 (fun e => by subst e; simp at hne)
    refine ⟨b, o, e, fun i x hx => hc i x ?_⟩
    rw [List.getElem?_take] at hx
    split at hx
    · exact hx
    · cases hx

/-- Where r stands among f's links. -/
def lkI (f r : Rc) : Nat := (linksL f.e.toNat).idxOf r.e.toNat
/-- Whether r may be, and its hash stands at its link in f. -/
def lkB (size : Int) (f r : Rc) : Bool := canB size r && decide (f.lk[lkI f r]? = some (hshF size r))

/-- What follows a record, record by record: the last one, if all are linked. -/
def folP (size : Int) : Rc → List Rc → List Nat → Option Rc
  | last, [], [] => some last
  | last, r :: rs, ep :: eps => if r.e = (ep : Int) ∧ lkB size last r = true then folP size r rs eps else none
  | _, [], _ :: _ => none
  | _, _ :: _, [] => none

/-- What Follow answers. -/
def folR (size : Int) (head : Rc) (way : List Rc) (to : Int) : Option Rc :=
  if canB size head = true ∧ 0 ≤ to ∧ to ≤ head.e then folP size head way (wayI head.e to) else none

theorem folP_len (size : Int) : ∀ (way : List Rc) (eps : List Nat) (last : Rc), way.length ≠ eps.length → folP size last way eps = none := by
  intro way
  induction way with
  | nil =>
    intro eps last h
    cases eps with
    | nil => exact absurd rfl h
    | cons a t => rfl
  | cons r rs ih =>
    intro eps last h
    cases eps with
    | nil => rfl
    | cons ep eps =>
      simp only [folP]
      split
      · exact ih eps r (by simpa using h)
      · rfl

theorem folP_step (size : Int) (last r : Rc) (way : List Rc) (eps : List Nat) (k ep : Nat) (h1 : way[k]? = some r) (h2 : eps[k]? = some ep) : folP size last (way.drop k) (eps.drop k) = if r.e = (ep : Int) ∧ lkB size last r = true then folP size r (way.drop (k + 1)) (eps.drop (k + 1)) else none := by
  obtain ⟨hk1, e1⟩ := List.getElem?_eq_some_iff.1 h1
  obtain ⟨hk2, e2⟩ := List.getElem?_eq_some_iff.1 h2
  rw [List.drop_eq_getElem_cons hk1, List.drop_eq_getElem_cons hk2, e1, e2]
  rfl

/-- Two that are followed along one way part in two records with one hash, or are one. -/
theorem folP_one (size : Int) : ∀ (eps : List Nat) (one other : List Rc) (last r s : Rc), folP size last one eps = some r → folP size last other eps = some s → r = s ∨ ∃ (i : Nat) (x y : Rc), one[i]? = some x ∧ other[i]? = some y ∧ x ≠ y ∧ hshF size x = hshF size y := by
  intro eps
  induction eps with
  | nil =>
    intro one other last r s h1 h2
    cases one with
    | cons _ _ => cases h1
    | nil =>
      cases other with
      | cons _ _ => cases h2
      | nil =>
        simp only [folP, Option.some.injEq] at h1 h2
        exact .inl (h1.symm.trans h2)
  | cons ep eps ih =>
    intro one other last r s h1 h2
    cases one with
    | nil => cases h1
    | cons x one =>
      cases other with
      | nil => cases h2
      | cons y other =>
        simp only [folP] at h1 h2
        split at h1
        case isFalse => cases h1
        case isTrue hx =>
          split at h2
          case isFalse => cases h2
          case isTrue hy =>
            by_cases hxy : x = y
            · subst hxy
              rcases ih one other x r s h1 h2 with h | ⟨i, a, b, q1, q2, q3, q4⟩
              · exact .inl h
              · exact .inr ⟨i + 1, a, b, by simpa using q1, by simpa using q2, q3, q4⟩
            · refine .inr ⟨0, x, y, rfl, rfl, hxy, ?_⟩
              obtain ⟨hx1, hx2⟩ := hx
              obtain ⟨hy1, hy2⟩ := hy
              unfold lkB lkI at hx2 hy2
              simp only [Bool.and_eq_true, decide_eq_true_eq] at hx2 hy2
              have e : x.e = y.e := hx1.trans hy1.symm
              rw [e] at hx2
              have := hx2.2.symm.trans hy2.2
              simpa using this

end Go.Proofs.YtpndpmkoegmbkaaDoor

namespace Go.Proofs.YtpndpmkoegmbkaaDoor
open Go.RowKit

/-- Block k is a block of bytes. -/
def TY (w : World) (k : Nat) : Prop := ∃ cur fr, w.heap[k]? = some (.cells cur 5 fr)
theorem TY.keep {w w' : World} {k : Nat} (h : TY w k) (e : w'.heap[k]? = w.heap[k]?) : TY w' k := by
  obtain ⟨cur, fr, hk⟩ := h
  exact ⟨cur, fr, e.trans hk⟩
theorem TY.lt {w : World} {k : Nat} (h : TY w k) : k < w.heap.size := by
  obtain ⟨cur, fr, hk⟩ := h
  exact (Array.getElem?_eq_some_iff.1 hk).1
theorem TY.later {w w' : World} {k : Nat} (h : TY w k) (hb : Below w.heap.size w w') : TY w' k := h.keep (hb.block k h.lt)
theorem TY.only {w w' : World} {g k : Nat} (h : TY w k) (ho : Only g w w') (hne : k ≠ g) : TY w' k := h.keep (ho.block k hne h.lt)
theorem TY.of_owns {w : World} {base n m c : Nat} {a : Addr} {v : Value} {xs : List Value} (h : w.ownsRow base 5 1 v n xs) (e : v = .slice (some a) m c) : TY w a.block := by
  rcases h.2 with ⟨e1, _⟩ | ⟨g, cap, cur, e1, _, hg, _⟩
  · rw [e1] at e; cases e
  · rw [e1] at e
    simp only [Value.slice.injEq, Option.some.injEq] at e
    rw [← e.1]
    exact ⟨cur, _, hg⟩

/-- Bytes that don't lie in block g, in a block of bytes. -/
def HBN (w : World) (g : Nat) (v : Value) (l : List UInt8) : Prop := HB w v l ∧ ∀ a n c, v = .slice (some a) n c → a.block ≠ g ∧ TY w a.block

theorem HBN.only {w w' : World} {g : Nat} {v : Value} {l : List UInt8} (h : HBN w g v l) (ho : Only g w w') : HBN w' g v l := ⟨h.1.only (fun a n c e => (h.2 a n c e).1) ho, fun a n c e => ⟨(h.2 a n c e).1, (h.2 a n c e).2.only ho (h.2 a n c e).1⟩⟩
theorem HBN.later {w w' : World} {g : Nat} {v : Value} {l : List UInt8} (h : HBN w g v l) (hb : Below w.heap.size w w') : HBN w' g v l := ⟨h.1.later hb, fun a n c e => ⟨(h.2 a n c e).1, (h.2 a n c e).2.later hb⟩⟩
/-- Blocks of another type than T stay. -/
def TK (T : TypeId) (w w' : World) : Prop := ∀ (k : Nat) cur t fr, w.heap[k]? = some (.cells cur t fr) → t ≠ T → w'.heap[k]? = some (.cells cur t fr)

theorem TK.of_only {T : TypeId} {g : Nat} {w w' : World} {cs : Array Value} {f : Nat × Nat} (ho : Only g w w') (hg : w.heap[g]? = some (.cells cs T f)) : TK T w w' := by
  intro k cur t fr hk ht
  have hne : k ≠ g := by
    rintro rfl
    rw [hg] at hk
    simp only [Option.some.injEq, Obj.cells.injEq] at hk
    exact ht hk.2.1.symm
  exact (ho.block k hne (Array.getElem?_eq_some_iff.1 hk).1).trans hk

theorem TK.of_below {T : TypeId} {w w' : World} (hb : Below w.heap.size w w') : TK T w w' := fun k _ _ _ hk _ => (hb.block k (Array.getElem?_eq_some_iff.1 hk).1).trans hk

theorem TK.of_grown {T : TypeId} {w w' : World} {base s n : Nat} {v : Value} {xs : List Value} (h : w.ownsRow base T s v n xs) (hg : w.grownBy w' v.ownBlock) : TK T w w' := by
  intro k cur t fr hk ht
  have hne : some k ≠ v.ownBlock := by
    rcases h.2 with ⟨rfl, _⟩ | ⟨g, cap, cur', rfl, _, hg', _⟩
    · simp [Value.ownBlock]
    · simp only [Value.ownBlock, ne_eq, Option.some.injEq]
      intro e
      subst e
      rw [hg'] at hk
      simp only [Option.some.injEq, Obj.cells.injEq] at hk
      exact ht hk.2.1.symm
  exact (hg.block k (Array.getElem?_eq_some_iff.1 hk).1 hne).trans hk

theorem HBN.tk {T : TypeId} {g : Nat} {w w' : World} {v : Value} {l : List UInt8} (h : HBN w g v l) (t : TK T w w') (hT : 5 ≠ T) : HBN w' g v l := by
  obtain ⟨⟨p, cap, e, h1, h2, h3, h4⟩, h5⟩ := h
  refine ⟨⟨p, cap, e, h1, h2, h3, fun hn => ?_⟩, fun a n c ev => ?_⟩
  · obtain ⟨b, o, rfl, hc⟩ := h4 hn
    refine ⟨b, o, rfl, fun i x hx => ?_⟩
    obtain ⟨cur, fr, hb⟩ := (h5 _ _ _ e).2
    have hk : w'.heap[b]? = w.heap[b]? := (t b cur _ fr hb hT).trans hb.symm
    rw [World.cell?_of_block (w := w) hk]
    exact hc i x hx
  · obtain ⟨hne, cur, fr, hb⟩ := h5 a n c ev
    exact ⟨hne, cur, fr, t _ cur _ fr hb hT⟩

theorem owns_tk {T e : TypeId} {w w' : World} {base n : Nat} {v : Value} {xs : List Value} (h : w.ownsRow base e 1 v n xs) (t : TK T w w') (hT : e ≠ T) : w'.ownsRow base e 1 v n xs := by
  refine ⟨h.1, ?_⟩
  rcases h.2 with hn | ⟨g, cap, cur, rfl, hbg, hg, rest⟩
  · exact .inl hn
  · exact .inr ⟨g, cap, cur, rfl, hbg, t g cur _ _ hg hT, rest⟩

/-- Bytes that a call owns don't lie in a block of another type. -/
theorem hbn_of_owns {T : TypeId} {w : World} {base n g : Nat} {v : Value} {l : List UInt8} {cs : Array Value} {f : Nat × Nat} (h : w.ownsRow base 5 1 v n (bcs l)) (hg : w.heap[g]? = some (.cells cs T f)) (hT : 5 ≠ T) : HBN w g v l := by
  refine ⟨HB.of_owns h, fun a m c e => ⟨?_, TY.of_owns h e⟩⟩
  obtain ⟨cur, fr, ht⟩ := TY.of_owns h e
  rintro rfl
  rw [hg] at ht
  simp only [Option.some.injEq, Obj.cells.injEq] at ht
  exact hT ht.2.1.symm

end Go.Proofs.YtpndpmkoegmbkaaDoor
