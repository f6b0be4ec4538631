/- What this text holds: a slice of records in memory (plain facts); what follows a head record: plainly. What this text proves: an argument that is a slice of records, as the claim's reading has it, holds these in memory. -/
import Derived.Test.YtgfddabccjfhiaaDoorJF3
import Derived.Test.YtgfddabccjfhiaaDoorJF7
import Derived.Test.YtgfddabccjfhiaaDoorJF1
namespace Go.Proofs.YtgfddabccjfhiaaDoor
open Go.RowKit

/-- A record's six cells from o on. -/
def RCells (w : World) (b o : Nat) (r : Rc) (tp : Option Addr) (tc : Nat) (lp : Option Addr) (lc : Nat) (kp : Option Addr) (kc : Nat) : Prop :=
  (w.cell? ⟨b, o, none⟩ = some (.int .i64 r.e) ∧ w.cell? ⟨b, o + 1, none⟩ = some (.int .i64 r.t) ∧ w.cell? ⟨b, o + 2, none⟩ = some (.slice tp r.tr.length tc) ∧ w.cell? ⟨b, o + 3, none⟩ = some (.int .i64 r.c) ∧ w.cell? ⟨b, o + 4, none⟩ = some (.slice lp r.li.length lc) ∧ w.cell? ⟨b, o + 5, none⟩ = some (.slice kp r.lk.length kc)) ∧
  HB w (.slice tp r.tr.length tc) r.tr ∧ HB w (.slice lp r.li.length lc) r.li ∧ PA w (.slice kp r.lk.length kc) r.lk

theorem RCells.later {w w' : World} {b o : Nat} {r : Rc} {tp lp kp : Option Addr} {tc lc kc : Nat} (h : RCells w b o r tp tc lp lc kp kc) (hb : Below w.heap.size w w') : RCells w' b o r tp tc lp lc kp kc := by
  obtain ⟨⟨h0, h1, h2, h3, h4, h5⟩, h6, h7, h8⟩ := h
  exact ⟨⟨cell_later hb h0, cell_later hb h1, cell_later hb h2, cell_later hb h3, cell_later hb h4, cell_later hb h5⟩, h6.later hb, h7.later hb, h8.later hb⟩

/-- The value v is a slice of records. -/
def RA (w : World) (v : Value) (rs : List Rc) : Prop :=
  ∃ (p : Option Addr) (cap : Nat), v = .slice p rs.length cap ∧ rs.length ≤ cap ∧ cap ≤ maxLen ∧
    (rs ≠ [] → ∃ b o, p = some ⟨b, o, none⟩ ∧ ∀ (k : Nat) r, rs[k]? = some r → ∃ tp tc lp lc kp kc, RCells w b (o + k * 6) r tp tc lp lc kp kc)

theorem RA.later {w w' : World} {v : Value} {rs : List Rc} (h : RA w v rs) (hb : Below w.heap.size w w') : RA w' v rs := by
  obtain ⟨p, cap, e, h1, h2, h3⟩ := h
  refine ⟨p, cap, e, h1, h2, fun hn => ?_⟩
  obtain ⟨b, o, e1, e2⟩ := h3 hn
  refine ⟨b, o, e1, fun k x hx => ?_⟩
  obtain ⟨tp, tc, lp, lc, kp, kc, q⟩ := e2 k x hx
  exact ⟨tp, tc, lp, lc, kp, kc, q.later hb⟩

theorem RA.shape {w : World} {v : Value} {rs : List Rc} (h : RA w v rs) : ∃ p c, v = .slice p rs.length c := by
  obtain ⟨p, cap, e, _⟩ := h
  exact ⟨p, cap, e⟩

theorem RA.len {w : World} {p : Option Addr} {n c : Nat} {rs : List Rc} (h : RA w (.slice p n c) rs) : n = rs.length ∧ n ≤ c ∧ c ≤ maxLen := by
  obtain ⟨p', cap, e, h1, h2, _⟩ := h
  simp only [Value.slice.injEq] at e
  obtain ⟨rfl, rfl, rfl⟩ := e
  exact ⟨rfl, h1, h2⟩

theorem RA.addr {w : World} {p : Option Addr} {n c : Nat} {rs : List Rc} (h : RA w (.slice p n c) rs) (hn : 0 < n) : ∃ b o, p = some ⟨b, o, none⟩ := by
  obtain ⟨p', cap, e, h1, h2, h3⟩ := h
  simp only [Value.slice.injEq] at e
  obtain ⟨rfl, rfl, rfl⟩ := e
  obtain ⟨b, o, e, _⟩ := h3 (fun h => by subst h; simp at hn)
  exact ⟨b, o, e⟩

/-- One record: its cells, and what they hold. -/
theorem RA.get {w : World} {b o n c : Nat} {rs : List Rc} (h : RA w (.slice (some ⟨b, o, none⟩) n c) rs) (i : Nat) (hi : i < n) :
    ∃ r tp tc lp lc kp kc, Hid (rs[i]? = some r) ∧ RCells w b (o + i * 6) r tp tc lp lc kp kc := by
  obtain ⟨p', cap, e, h1, h2, h3⟩ := h
  simp only [Value.slice.injEq] at e
  obtain ⟨rfl, rfl, rfl⟩ := e
  obtain ⟨b', o', e', hc⟩ := h3 (fun e => by subst e; simp at hi)
  simp only [Option.some.injEq, Addr.mk.injEq, and_true] at e'
  obtain ⟨rfl, rfl⟩ := e'
  obtain ⟨tp, tc, lp, lc, kp, kc, q⟩ := hc i rs[i] (List.getElem?_eq_getElem hi)
  exact ⟨rs[i], tp, tc, lp, lc, kp, kc, List.getElem?_eq_getElem hi, q⟩

/-- The first ones. -/
theorem RA.take {w : World} {p : Option Addr} {n c : Nat} {rs : List Rc} (h : RA w (.slice p n c) rs) (k : Nat) (hk : k ≤ n) : RA w (.slice p k c) (rs.take k) := by
  obtain ⟨p', cap, e, h1, h2, h3⟩ := h
  simp only [Value.slice.injEq] at e
  obtain ⟨rfl, rfl, rfl⟩ := e
  refine ⟨p, c, ?_, by simp; omega, h2, fun hne => ?_⟩
  · congr 1
    simp
    omega
  · obtain ⟨b, o, e, hc⟩ := h3 (fun e => by subst e; simp at hne)
    refine ⟨b, o, e, fun i x hx => hc i x ?_⟩
    rw [List.getElem?_take] at hx
    split at hx
    · exact hx
    · cases hx

/-- Where r stands among f's links. -/
def lkI (f r : Rc) : Nat := (linksL f.e.toNat).idxOf r.e.toNat
/-- Whether r may be, and its hash stands at its link in f. -/
def lkB (size : Int) (f r : Rc) : Bool := canB size r && decide (f.lk[lkI f r]? = some (hshF size r))

/-- What follows a record, record by record: the last one, if all are linked. -/
def folP (size : Int) : Rc → List Rc → List Nat → Option Rc
  | last, [], [] => some last
  | last, r :: rs, ep :: eps => if r.e = (ep : Int) ∧ lkB size last r = true then folP size r rs eps else none
  | _, [], _ :: _ => none
  | _, _ :: _, [] => none

/-- What Follow answers. -/
def folR (size : Int) (head : Rc) (way : List Rc) (to : Int) : Option Rc :=
  if canB size head = true ∧ 0 ≤ to ∧ to ≤ head.e then folP size head way (wayI head.e to) else none

theorem folP_len (size : Int) : ∀ (way : List Rc) (eps : List Nat) (last : Rc), way.length ≠ eps.length → folP size last way eps = none := by
  intro way
  induction way with
  | nil =>
    intro eps last h
    cases eps with
    | nil => exact absurd rfl h
    | cons a t => rfl
  | cons r rs ih =>
    intro eps last h
    cases eps with
    | nil => rfl
    | cons ep eps =>
      simp only [folP]
      split
      · exact ih eps r (by simpa using h)
      · rfl

theorem folP_step (size : Int) (last r : Rc) (way : List Rc) (eps : List Nat) (k ep : Nat) (h1 : way[k]? = some r) (h2 : eps[k]? = some ep) : folP size last (way.drop k) (eps.drop k) = if r.e = (ep : Int) ∧ lkB size last r = true then folP size r (way.drop (k + 1)) (eps.drop (k + 1)) else none := by
  obtain ⟨hk1, e1⟩ := List.getElem?_eq_some_iff.1 h1
  obtain ⟨hk2, e2⟩ := List.getElem?_eq_some_iff.1 h2
  rw [List.drop_eq_getElem_cons hk1, List.drop_eq_getElem_cons hk2, e1, e2]
  rfl

/-- Two that are followed along one way part in two records with one hash, or are one. -/
theorem folP_one (size : Int) : ∀ (eps : List Nat) (one other : List Rc) (last r s : Rc), folP size last one eps = some r → folP size last other eps = some s → r = s ∨ ∃ (i : Nat) (x y : Rc), one[i]? = some x ∧ other[i]? = some y ∧ x ≠ y ∧ hshF size x = hshF size y := by
  intro eps
  induction eps with
  | nil =>
    intro one other last r s h1 h2
    cases one with
    | cons _ _ => cases h1
    | nil =>
      cases other with
      | cons _ _ => cases h2
      | nil =>
        simp only [folP, Option.some.injEq] at h1 h2
        exact .inl (h1.symm.trans h2)
  | cons ep eps ih =>
    intro one other last r s h1 h2
    cases one with
    | nil => cases h1
    | cons x one =>
      cases other with
      | nil => cases h2
      | cons y other =>
        simp only [folP] at h1 h2
        split at h1
        case isFalse => cases h1
        case isTrue hx =>
          split at h2
          case isFalse => cases h2
          case isTrue hy =>
            by_cases hxy : x = y
            · subst hxy
              rcases ih one other x r s h1 h2 with h | ⟨i, a, b, q1, q2, q3, q4⟩
              · exact .inl h
              · exact .inr ⟨i + 1, a, b, by simpa using q1, by simpa using q2, q3, q4⟩
            · refine .inr ⟨0, x, y, rfl, rfl, hxy, ?_⟩
              obtain ⟨hx1, hx2⟩ := hx
              obtain ⟨hy1, hy2⟩ := hy
              unfold lkB lkI at hx2 hy2
              simp only [Bool.and_eq_true, decide_eq_true_eq] at hx2 hy2
              have e : x.e = y.e := hx1.trans hy1.symm
              rw [e] at hx2
              have := hx2.2.symm.trans hy2.2
              simpa using this

end Go.Proofs.YtgfddabccjfhiaaDoor

namespace Go.Proofs.YtgfddabccjfhiaaDoor
open Go.ChangeShapes Go.WideShapes Go.ChangeAt Go.RowKit

instance : Inhabited Rc := ⟨⟨0, 0, 0, [], [], []⟩⟩

section
variable {H : Type} {enc : TypeId × Value → H} {P : Program} {w : World} {base : Nat} {spare : Nat → Bool} {held : Bool}

/-- Six cells of a struct of six fields of one cell each, opened. -/
theorem open_list6 {t : TypeId} {f0 f1 f2 f3 f4 f5 : Field} {cs : List Value} {y : DataW H × List MemPlace} {fuel : Nat} (hs : P.underlying t = some (.struct #[f0, f1, f2, f3, f4, f5])) (hone : Go.Deep.oneCellFields P #[f0, f1, f2, f3, f4, f5] = true) (hl : cs.length = 6)
    (hf : DataW.trod enc P w base spare held fuel t cs = some y) :
    ∃ (c0 c1 c2 c3 c4 c5 : Value) (y0 y1 y2 y3 y4 y5 : DataW H × List MemPlace) (n : Nat), cs = [c0, c1, c2, c3, c4, c5] ∧ DataW.trod enc P w base spare held n f0.type [c0] = some y0 ∧ DataW.trod enc P w base spare held n f1.type [c1] = some y1 ∧ DataW.trod enc P w base spare held n f2.type [c2] = some y2 ∧ DataW.trod enc P w base spare held n f3.type [c3] = some y3 ∧ DataW.trod enc P w base spare held n f4.type [c4] = some y4 ∧ DataW.trod enc P w base spare held n f5.type [c5] = some y5 := by
  match cs, hl with
  | [c0, c1, c2, c3, c4, c5], _ =>
    obtain ⟨xs, n, _, _, _, hlen, hg⟩ := DataW.trod_struct hs hf
    obtain ⟨o0, k0⟩ := Go.Deep.hone_of hone 0 f0 rfl
    obtain ⟨o1, k1⟩ := Go.Deep.hone_of hone 1 f1 rfl
    obtain ⟨o2, k2⟩ := Go.Deep.hone_of hone 2 f2 rfl
    obtain ⟨o3, k3⟩ := Go.Deep.hone_of hone 3 f3 rfl
    obtain ⟨o4, k4⟩ := Go.Deep.hone_of hone 4 f4 rfl
    obtain ⟨o5, k5⟩ := Go.Deep.hone_of hone 5 f5 rfl
    match xs, hlen with
    | [y0, y1, y2, y3, y4, y5], _ =>
      have g0 := hg 0 f0 rfl
      have g1 := hg 1 f1 rfl
      have g2 := hg 2 f2 rfl
      have g3 := hg 3 f3 rfl
      have g4 := hg 4 f4 rfl
      have g5 := hg 5 f5 rfl
      exact ⟨c0, c1, c2, c3, c4, c5, y0, y1, y2, y3, y4, y5, n, rfl, by simpa [Value.cells, o0, k0] using g0, by simpa [Value.cells, o1, k1] using g1, by simpa [Value.cells, o2, k2] using g2, by simpa [Value.cells, o3, k3] using g3, by simpa [Value.cells, o4, k4] using g4, by simpa [Value.cells, o5, k5] using g5⟩
end

set_option maxRecDepth 100000 in
theorem open_cells6 {H : Type} {enc : TypeId × Value → H} {W : World} {cs : List Value} {y : DataW H × List MemPlace} {fuel : Nat} (hlen : cs.length = 6)
    (hf : DataW.trod enc Tryd.prog W 0 (fun _ => true) true fuel 25 cs = some y) : ∃ (r : Rc) (tv lv kv : Value), cs = [.int .i64 r.e, .int .i64 r.t, tv, .int .i64 r.c, lv, kv] ∧ HB W tv r.tr ∧ HB W lv r.li ∧ PA W kv r.lk := by
  obtain ⟨c0, c1, c2, c3, c4, c5, y0, y1, y2, y3, y4, y5, n, rfl, t0, t1, t2, t3, t4, t5⟩ := open_list6 Tryd.underlying25 (by kernel_rfl) hlen hf
  obtain ⟨a0, e0, _, w0⟩ := DataW.trod_int Tryd.underlying3 t0
  obtain ⟨a1, e1, _, w1⟩ := DataW.trod_int Tryd.underlying3 t1
  obtain ⟨a3, e3, _, w3⟩ := DataW.trod_int Tryd.underlying3 t3
  obtain ⟨tr, h2⟩ := open_bytesR t2
  obtain ⟨li, h4⟩ := open_bytesR t4
  obtain ⟨lk, h5⟩ := open_rowsR t5
  obtain rfl : c0 = .int .i64 a0 := by simpa using e0
  obtain rfl : c1 = .int .i64 a1 := by simpa using e1
  obtain rfl : c3 = .int .i64 a3 := by simpa using e3
  exact ⟨⟨a0, a1, a3, tr, li, lk⟩, c2, c4, c5, rfl, h2, h4, h5⟩

set_option maxRecDepth 100000 in
theorem open_recs {H : Type} {enc : TypeId × Value → H} {W : World} {base : Nat} {v0 : Value} {d0 : DataW H} {p0 : List MemPlace}
    (hval : Value.okWide Tryd.prog W .any base 54 v0) (h0 : DataW.Trod enc Tryd.prog W 0 (fun _ => true) true 54 v0 d0 p0) :
    ∃ rs : List Rc, RA W v0 rs := by
  obtain ⟨a0, len0, cap0, rfl⟩ := okWide_slice Tryd.underlying54 hval
  obtain ⟨fuel, hf⟩ := h0
  rcases Go.Deep.open_slice Tryd.underlying54 hf with ⟨hcs, _⟩ | ⟨a, len, cap, m, n, D, Pl, hcs, _, hl, hm, hmm, hy, hx⟩
  · simp [Value.cells] at hcs
    obtain ⟨rfl, rfl, rfl⟩ := hcs
    exact ⟨[], ⟨none, 0, rfl, Nat.le_refl _, Nat.zero_le _, fun h => absurd rfl h⟩⟩
  · simp [Value.cells] at hcs
    obtain ⟨rfl, rfl, rfl⟩ := hcs
    simp only [if_true] at hmm
    subst hmm
    have ce : Tryd.prog.cellsOf 25 = 6 := by kernel_rfl
    rw [ce] at hx
    have each : ∀ i, i < m → ∃ q : Rc, ∃ tv lv kv, (W.cell? (a.add (i * 6)) = some (.int .i64 q.e) ∧ W.cell? (a.add (i * 6 + 1)) = some (.int .i64 q.t) ∧ W.cell? (a.add (i * 6 + 2)) = some tv ∧ W.cell? (a.add (i * 6 + 3)) = some (.int .i64 q.c) ∧ W.cell? (a.add (i * 6 + 4)) = some lv ∧ W.cell? (a.add (i * 6 + 5)) = some kv) ∧ HB W tv q.tr ∧ HB W lv q.li ∧ PA W kv q.lk := by
      intro i hi
      obtain ⟨cs', h1, h2⟩ := hx i hi
      obtain ⟨_, hlen, hcell⟩ := World.cells?_some h1
      obtain ⟨r, tv, lv, kv, rfl, q1, q2, q3⟩ := open_cells6 hlen h2
      have e0 := hcell 0 (by omega)
      have e1 := hcell 1 (by omega)
      have e2 := hcell 2 (by omega)
      have e3 := hcell 3 (by omega)
      have e4 := hcell 4 (by omega)
      have e5 := hcell 5 (by omega)
      rw [Go.Deep.add_add] at e0 e1 e2 e3 e4 e5
      exact ⟨r, tv, lv, kv, ⟨by simpa using e0, by simpa using e1, by simpa using e2, by simpa using e3, by simpa using e4, by simpa using e5⟩, q1, q2, q3⟩
    obtain ⟨q, hq⟩ := Go.Deep.choose_lt each
    refine ⟨(List.range len0).map q, ⟨some a, m, by simp, by simpa using hl, hm, fun hne => ?_⟩⟩
    have hlen : 0 < len0 := by
      rcases Nat.eq_zero_or_pos len0 with h | h
      · subst h
        exact absurd rfl hne
      · exact h
    obtain ⟨_, _, _, ⟨hc0, _⟩, _⟩ := hq 0 (by omega)
    obtain ⟨b, o, spot⟩ := a
    have hs : spot = none := by simpa [Addr.add] using World.cell?_spot hc0
    subst hs
    refine ⟨b, o, rfl, fun i x hxi => ?_⟩
    have hi : i < len0 := by
      have := (List.getElem?_eq_some_iff.1 hxi).1
      simpa using this
    rw [List.getElem?_map, List.getElem?_range hi] at hxi
    simp only [Option.map_some, Option.some.injEq] at hxi
    subst hxi
    obtain ⟨tv, lv, kv, ⟨c0, c1, c2, c3, c4, c5⟩, h1, h2, h3⟩ := hq i (by omega)
    rw [add_lit] at c0 c1 c2 c3 c4 c5
    obtain ⟨p1, k1, rfl⟩ := h1.shape
    obtain ⟨p2, k2, rfl⟩ := h2.shape
    obtain ⟨p3, k3, rfl⟩ := h3.shape
    exact ⟨p1, k1, p2, k2, p3, k3, ⟨c0, by rw [Nat.add_assoc]; exact c1, by rw [Nat.add_assoc]; exact c2, by rw [Nat.add_assoc]; exact c3, by rw [Nat.add_assoc]; exact c4, by rw [Nat.add_assoc]; exact c5⟩, h1, h2, h3⟩

end Go.Proofs.YtgfddabccjfhiaaDoor
