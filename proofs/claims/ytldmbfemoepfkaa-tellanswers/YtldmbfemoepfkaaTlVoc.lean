/- What this text holds: slices of items and of events in memory; an answer, plainly, and what it is written as (no walk). -/
import Derived.Test.YtldmbfemoepfkaaFlCells
import Derived.Test.YtldmbfemoepfkaaFlWrite
namespace Go.Proofs.Ytldmbfemoepfkaa
open Go.RowKit

/-- An event, an item. -/
structure Ev where
  e : Int
  i : Int
  id : List UInt8
  key : List UInt8
structure It where
  id : List UInt8
  key : List UInt8
  si : Int

/-- An event's four cells from o on, an item's three. -/
def ECells (w : World) (b o : Nat) (x : Ev) (q : Option Addr) (c : Nat) (r : Option Addr) (d : Nat) : Prop :=
  (w.cell? ⟨b, o, none⟩ = some (.int .i64 x.e) ∧ w.cell? ⟨b, o + 1, none⟩ = some (.int .i64 x.i) ∧ w.cell? ⟨b, o + 2, none⟩ = some (.slice q x.id.length c) ∧ w.cell? ⟨b, o + 3, none⟩ = some (.slice r x.key.length d)) ∧ HB w (.slice q x.id.length c) x.id ∧ HB w (.slice r x.key.length d) x.key
def ICells (w : World) (b o : Nat) (x : It) (q : Option Addr) (c : Nat) (r : Option Addr) (d : Nat) : Prop :=
  (w.cell? ⟨b, o, none⟩ = some (.slice q x.id.length c) ∧ w.cell? ⟨b, o + 1, none⟩ = some (.slice r x.key.length d) ∧ w.cell? ⟨b, o + 2, none⟩ = some (.int .i64 x.si)) ∧ HB w (.slice q x.id.length c) x.id ∧ HB w (.slice r x.key.length d) x.key

theorem ECells.later {w w' : World} {b o : Nat} {x : Ev} {q r : Option Addr} {c d : Nat} (h : ECells w b o x q c r d) (hb : Below w.heap.size w w') : ECells w' b o x q c r d := by
  obtain ⟨⟨h0, h1, h2, h3⟩, h4, h5⟩ := h
  exact ⟨⟨cell_later hb h0, cell_later hb h1, cell_later hb h2, cell_later hb h3⟩, h4.later hb, h5.later hb⟩
theorem ICells.later {w w' : World} {b o : Nat} {x : It} {q r : Option Addr} {c d : Nat} (h : ICells w b o x q c r d) (hb : Below w.heap.size w w') : ICells w' b o x q c r d := by
  obtain ⟨⟨h0, h1, h2⟩, h4, h5⟩ := h
  exact ⟨⟨cell_later hb h0, cell_later hb h1, cell_later hb h2⟩, h4.later hb, h5.later hb⟩

/-- The value v is a slice of events, of items. -/
def EA (w : World) (v : Value) (l : List Ev) : Prop :=
  ∃ (p : Option Addr) (cap : Nat), v = .slice p l.length cap ∧ l.length ≤ cap ∧ cap ≤ maxLen ∧
    (l ≠ [] → ∃ b o, p = some ⟨b, o, none⟩ ∧ ∀ (k : Nat) x, l[k]? = some x → ∃ q c r d, ECells w b (o + k * 4) x q c r d)
def IA (w : World) (v : Value) (l : List It) : Prop :=
  ∃ (p : Option Addr) (cap : Nat), v = .slice p l.length cap ∧ l.length ≤ cap ∧ cap ≤ maxLen ∧
    (l ≠ [] → ∃ b o, p = some ⟨b, o, none⟩ ∧ ∀ (k : Nat) x, l[k]? = some x → ∃ q c r d, ICells w b (o + k * 3) x q c r d)

theorem EA.later {w w' : World} {v : Value} {l : List Ev} (h : EA w v l) (hb : Below w.heap.size w w') : EA w' v l := by
  obtain ⟨p, cap, e, h1, h2, h3⟩ := h
  refine ⟨p, cap, e, h1, h2, fun hn => ?_⟩
  obtain ⟨b, o, e1, e2⟩ := h3 hn
  refine ⟨b, o, e1, fun k x hx => ?_⟩
  obtain ⟨q, c, r, d, g⟩ := e2 k x hx
  exact ⟨q, c, r, d, g.later hb⟩
theorem IA.later {w w' : World} {v : Value} {l : List It} (h : IA w v l) (hb : Below w.heap.size w w') : IA w' v l := by
  obtain ⟨p, cap, e, h1, h2, h3⟩ := h
  refine ⟨p, cap, e, h1, h2, fun hn => ?_⟩
  obtain ⟨b, o, e1, e2⟩ := h3 hn
  refine ⟨b, o, e1, fun k x hx => ?_⟩
  obtain ⟨q, c, r, d, g⟩ := e2 k x hx
  exact ⟨q, c, r, d, g.later hb⟩
theorem EA.shape {w : World} {v : Value} {l : List Ev} (h : EA w v l) : ∃ p c, v = .slice p l.length c := by
  obtain ⟨p, cap, e, _⟩ := h
  exact ⟨p, cap, e⟩
theorem IA.shape {w : World} {v : Value} {l : List It} (h : IA w v l) : ∃ p c, v = .slice p l.length c := by
  obtain ⟨p, cap, e, _⟩ := h
  exact ⟨p, cap, e⟩
theorem EA.nil (w : World) : EA w (.slice none 0 0) [] := ⟨none, 0, rfl, Nat.le_refl _, Nat.zero_le _, fun h => absurd rfl h⟩
theorem IA.nil (w : World) : IA w (.slice none 0 0) [] := ⟨none, 0, rfl, Nat.le_refl _, Nat.zero_le _, fun h => absurd rfl h⟩
theorem EA.addr {w : World} {p : Option Addr} {n c : Nat} {l : List Ev} (h : EA w (.slice p n c) l) (hn : l ≠ []) : ∃ b o, p = some ⟨b, o, none⟩ ∧ ∀ (k : Nat) x, l[k]? = some x → ∃ q c r d, ECells w b (o + k * 4) x q c r d := by
  obtain ⟨p', cap, e, h1, h2, h3⟩ := h
  simp only [Value.slice.injEq] at e
  obtain ⟨rfl, rfl, rfl⟩ := e
  exact h3 hn
theorem IA.addr {w : World} {p : Option Addr} {n c : Nat} {l : List It} (h : IA w (.slice p n c) l) (hn : l ≠ []) : ∃ b o, p = some ⟨b, o, none⟩ ∧ ∀ (k : Nat) x, l[k]? = some x → ∃ q c r d, ICells w b (o + k * 3) x q c r d := by
  obtain ⟨p', cap, e, h1, h2, h3⟩ := h
  simp only [Value.slice.injEq] at e
  obtain ⟨rfl, rfl, rfl⟩ := e
  exact h3 hn

/-- An answer. -/
structure AA where
  code : Int
  ep : Int
  pr : Bool
  sa : Bool
  key : List UInt8
  si : Int
  its : List It
  evs : List Ev
  mo : Bool
def AA0 : AA := ⟨0, 0, false, false, [], 0, [], [], false⟩

/-- Its nine cells. -/
def ansC (a : AA) (k i e : Value) : Array Value := #[.int .i64 a.code, .int .i64 a.ep, .bool a.pr, .bool a.sa, k, .int .i64 a.si, i, e, .bool a.mo]
/-- What its cells point at. -/
def AnsV (w : World) (a : AA) (k i e : Value) : Prop := HB w k a.key ∧ IA w i a.its ∧ EA w e a.evs

/-- What it is written as. -/
def wrI (x : It) : List UInt8 := bytesL x.id ++ (bytesL x.key ++ numL (clampN x.si))
def wrV (x : Ev) : List UInt8 := numL (clampN x.e) ++ (numL (clampN x.i) ++ (bytesL x.id ++ bytesL x.key))
def wrIs : List It → List UInt8
  | [] => []
  | x :: r => wrI x ++ wrIs r
def wrVs : List Ev → List UInt8
  | [] => []
  | x :: r => wrV x ++ wrVs r
def wrS (a : AA) : List UInt8 := flagL a.pr ++ (if a.pr = true then bytesL a.key ++ numL (clampN a.si) else [])
def wrK (k : Int) (a : AA) : List UInt8 :=
  if k = 1 then numL (clampN a.ep)
  else if k = 3 then wrS a
  else if k = 4 then numL (clampN a.ep) ++ wrS a
  else if k = 5 then flagL a.sa ++ wrS a
  else if k = 6 ∨ k = 10 then numL (clampN (a.its.length : Int)) ++ (wrIs a.its ++ flagL a.mo)
  else if k = 7 then numL (clampN (a.evs.length : Int)) ++ (wrVs a.evs ++ (flagL a.mo ++ (if a.mo = true then numL (clampN a.ep) ++ numL (clampN a.si) else [])))
  else []
def wrA (k : Int) (a : AA) : List UInt8 := numL (clampN a.code) ++ (if a.code = 0 then wrK k a else [])

theorem numL9 (n : Int) : (numL (clampN n)).length ≤ 9 := by have := clampN_le n; have := cnt_le8 (clampN n) (by omega); rw [numL_length]; omega
theorem flagL1 (b : Bool) : (flagL b).length = 1 := by unfold flagL; simp

end Go.Proofs.Ytldmbfemoepfkaa
