/- What this text proves: the walk of tell.throughAnswer with a reader over this program: the steps, and what an identity has. What this text proves: the walk of tell.throughAnswer with a reader over this program: lists. What this text proves: the walk of tell.throughAnswer with a reader over this program: events, lists, what an identity has. What this text proves: the walk of tell.throughAnswer with a reader over this program: what an identity has, and the kinds. -/
import Derived.Test.YtldmbfemoepfkaaTlRdP
import Derived.Test.YtldmbfemoepfkaaTlList
import Derived.Test.YtldmbfemoepfkaaFlOpenG
import Derived.Test.YtldmbfemoepfkaaTlRdTold
namespace Go.Proofs.Ytldmbfemoepfkaa
open Go.RowKit

/-- A reader shows fields. -/
def showsR (g : Nat) : Shows where
  T := 42
  v := .pointer (some ⟨g, 0, none⟩)
  fN := 61
  uN := .pointer (some ⟨g, 0, none⟩)
  fT := 62
  uT := .pointer (some ⟨g, 0, none⟩)
  fF := 60
  uF := .pointer (some ⟨g, 0, none⟩)
  mN := ⟨fun _ => by kernel_rfl, fun _ => by kernel_rfl, fun _ _ => by kernel_rfl⟩
  mT := ⟨fun _ => by kernel_rfl, fun _ => by kernel_rfl, fun _ _ => by kernel_rfl⟩
  mF := ⟨fun _ => by kernel_rfl, fun _ => by kernel_rfl, fun _ _ => by kernel_rfl⟩

/-- Where things lie: the reader, the codec's reader, the answer, the error, what is left, who shows; the bytes. -/
structure Pl where
  g : Nat
  gc : Nat
  gA : Nat
  gE : Nat
  gL : Nat
  bv : Value

/-- A type whose blocks are none of these. -/
def NeU (U : TypeId) : Prop := (88 ≠ U ∧ U ≠ 88 ∧ 5 ≠ U ∧ 5 ≠ 88) ∧ 39 ≠ U ∧ 27 ≠ U ∧ 23 ≠ U ∧ 22 ≠ U ∧ 65 ≠ U

/-- The world while an answer is read. -/
def RC (w0 : World) (P : Pl) (gb : Nat) (cs : Array Value) (l : List UInt8) (w : World) : Prop :=
  RF 39 w P.g P.gc P.bv l 0 ∧ Below w0.heap.size w0 w ∧ CB 27 w P.gA cs ∧ CB 23 w P.gE #[.int .i64 0] ∧ CB 22 w P.gL #[.slice none 0 0] ∧ CB 65 w gb #[.iface (showsR P.g).T (showsR P.g).v] ∧ w0.heap.size ≤ P.gc ∧ w0.heap.size ≤ P.gA ∧ cs.size = 9
/-- The world where an error has been thrown. -/
def EI (w0 : World) (P : Pl) (w : World) : Prop :=
  Below w0.heap.size w0 w ∧ (∃ cs, cs.size = 9 ∧ CB 27 w P.gA cs) ∧ CB 23 w P.gE #[.int .i64 0] ∧ CB 22 w P.gL #[.slice none 0 0]

section
variable {w0 : World} {P : Pl} {gb : Nat} {cs : Array Value} {l : List UInt8} {w w' : World}

theorem RC.later (h : RC w0 P gb cs l w) (hb : Below w.heap.size w w') : RC w0 P gb cs l w' :=
  ⟨h.1.later hb, h.2.1.trans (hb.mono h.2.1.size), h.2.2.1.later hb, h.2.2.2.1.later hb, h.2.2.2.2.1.later hb, h.2.2.2.2.2.1.later hb, h.2.2.2.2.2.2⟩
theorem RC.drew (h : RC w0 P gb cs l w) : RC w0 P gb cs l w.drew := h.later (Below.drew (Below.refl _ w))
theorem RC.bx (h : RC w0 P gb cs l w) : BX (showsR P.g) gb w := h.2.2.2.2.2.1.cell rfl
theorem RC.cell (h : RC w0 P gb cs l w) {i : Nat} {v : Value} (hv : cs[i]? = some v) : w.cell? ⟨P.gA, i, none⟩ = some v := h.2.2.1.cell hv
theorem RC.ei (h : RC w0 P gb cs l w) : EI w0 P w := ⟨h.2.1, ⟨cs, h.2.2.2.2.2.2.2.2, h.2.2.1⟩, h.2.2.2.1, h.2.2.2.2.1⟩

/-- A call at a cell of a block of another type. -/
theorem RC.got {U : TypeId} (hU : NeU U) (h : RC w0 P gb cs l w) {gX : Nat} {xs : Array Value} {e : Int} {l' : List UInt8} {r : Value} {x : Ending}
    (k : Got U 39 w0.heap.size P.g P.gc gX P.bv xs e l' r w x w') : TKR U w w' ∧ CB U w' gX xs ∧ ((e = 0 ∧ x = .returned r ∧ RC w0 P gb cs l' w') ∨ (e ≠ 0 ∧ x = .panicked (thrown e) ∧ EI w0 P w')) := by
  obtain ⟨kb, kt, kx, kk⟩ := k
  have a1 : CB 27 w' P.gA cs := kt _ _ _ _ h.2.2.1 (by decide) hU.2.2.1
  have a2 : CB 23 w' P.gE #[.int .i64 0] := kt _ _ _ _ h.2.2.2.1 (by decide) hU.2.2.2.1
  have a3 : CB 22 w' P.gL #[.slice none 0 0] := kt _ _ _ _ h.2.2.2.2.1 (by decide) hU.2.2.2.2.1
  have a4 : CB 65 w' gb #[.iface (showsR P.g).T (showsR P.g).v] := kt _ _ _ _ h.2.2.2.2.2.1 (by decide) hU.2.2.2.2.2
  refine ⟨kt, kx, ?_⟩
  rcases kk with ⟨e0, rfl, rf⟩ | ⟨e0, rfl⟩
  · exact .inl ⟨e0, rfl, rf, h.2.1.trans kb, a1, a2, a3, a4, h.2.2.2.2.2.2⟩
  · exact .inr ⟨e0, rfl, h.2.1.trans kb, ⟨cs, h.2.2.2.2.2.2.2.2, a1⟩, a2, a3⟩

/-- A call at a cell of the answer. -/
theorem RC.gotA (h : RC w0 P gb cs l w) {cs' : Array Value} (hs : cs'.size = 9) {e : Int} {l' : List UInt8} {r : Value} {x : Ending}
    (k : Got 27 39 w0.heap.size P.g P.gc P.gA P.bv cs' e l' r w x w') : TKR 27 w w' ∧ ((e = 0 ∧ x = .returned r ∧ RC w0 P gb cs' l' w') ∨ (e ≠ 0 ∧ x = .panicked (thrown e) ∧ EI w0 P w')) := by
  obtain ⟨kb, kt, kx, kk⟩ := k
  have a2 : CB 23 w' P.gE #[.int .i64 0] := kt _ _ _ _ h.2.2.2.1 (by decide) (by decide)
  have a3 : CB 22 w' P.gL #[.slice none 0 0] := kt _ _ _ _ h.2.2.2.2.1 (by decide) (by decide)
  have a4 : CB 65 w' gb #[.iface (showsR P.g).T (showsR P.g).v] := kt _ _ _ _ h.2.2.2.2.2.1 (by decide) (by decide)
  refine ⟨kt, ?_⟩
  rcases kk with ⟨e0, rfl, rf⟩ | ⟨e0, rfl⟩
  · exact .inl ⟨e0, rfl, rf, h.2.1.trans kb, kx, a2, a3, a4, h.2.2.2.2.2.2.1, h.2.2.2.2.2.2.2.1, hs⟩
  · exact .inr ⟨e0, rfl, h.2.1.trans kb, ⟨cs', hs, kx⟩, a2, a3⟩

theorem size_set {xs : Array Value} {i : Nat} {v : Value} : (xs.setIfInBounds i v).size = xs.size := by simp

theorem RC.num {U : TypeId} (hU : NeU U) (h : RC w0 P gb cs l w) {gX i : Nat} {xs : Array Value} {v0 : Value} (hX : CB U w gX xs) (hi : xs[i]? = some v0) (hb : w0.heap.size ≤ gX) {most : Int} {K : World → Prop} {E : List PanicEntry → World → Prop}
    (hK : (uintF l most).1 = 0 → ∀ w', RC w0 P gb cs (uintF l most).2.2 w' → CB U w' gX (xs.setIfInBounds i (.int .i64 ((uintF l most).2.1 : Int))) → TKR U w w' → K w') (hE : (uintF l most).1 ≠ 0 → ∀ w', EI w0 P w' → E (thrown (uintF l most).1) w') :
    Then Try.prog 61 #[.pointer (some ⟨P.g, 0, none⟩), .pointer (some ⟨gX, i, none⟩), .int .i64 most] w (fun _ => K) E := by
  refine Calls.mono (rnumberF_any U 39 (by decide) hU.1 hU.2.1 w0.heap.size P.g P.gc gX i P.bv v0 xs l most w h.1 hX hi h.2.2.2.2.2.2.1 hb) ?_
  intro x w' k
  obtain ⟨kt, kx, ⟨e0, rfl, k2⟩ | ⟨e0, rfl, k2⟩⟩ := h.got hU k
  · exact .inl ⟨_, rfl, hK e0 w' k2 kx kt⟩
  · exact .inr ⟨_, rfl, hE e0 w' k2⟩
theorem RC.text {U : TypeId} (hU : NeU U) (h : RC w0 P gb cs l w) {gX i : Nat} {xs : Array Value} {v0 : Value} (hX : CB U w gX xs) (hi : xs[i]? = some v0) (hb : w0.heap.size ≤ gX) (hsz : l.length ≤ 140737488355328) {most : Int} {K : World → Prop} {E : List PanicEntry → World → Prop}
    (hK : (bytesF l most).1 = 0 → ∀ w' p c, RC w0 P gb cs (bytesF l most).2.2 w' → CB U w' gX (xs.setIfInBounds i (.slice p (bytesF l most).2.1.length c)) → HBN w' P.gc (.slice p (bytesF l most).2.1.length c) (bytesF l most).2.1 → TKR U w w' → K w') (hE : (bytesF l most).1 ≠ 0 → ∀ w', EI w0 P w' → E (thrown (bytesF l most).1) w') :
    Then Try.prog 62 #[.pointer (some ⟨P.g, 0, none⟩), .pointer (some ⟨gX, i, none⟩), .int .i64 most] w (fun _ => K) E := by
  refine Calls.mono (rtextF_any U 39 (by decide) hU.1 hU.2.1 w0.heap.size P.g P.gc gX i P.bv v0 xs l most w h.1 hX hi h.2.2.2.2.2.2.1 hb hsz) ?_
  rintro x w' ⟨p, c, k, kn⟩
  obtain ⟨kt, kx, ⟨e0, rfl, k2⟩ | ⟨e0, rfl, k2⟩⟩ := h.got hU k
  · exact .inl ⟨_, rfl, hK e0 w' p c k2 kx kn kt⟩
  · exact .inr ⟨_, rfl, hE e0 w' k2⟩
theorem neA : 88 ≠ 27 ∧ 27 ≠ 88 ∧ 5 ≠ 27 ∧ 5 ≠ 88 := by decide
theorem RC.numA (h : RC w0 P gb cs l w) {i : Nat} {v0 : Value} (hi : cs[i]? = some v0) {most : Int} {K : World → Prop} {E : List PanicEntry → World → Prop}
    (hK : (uintF l most).1 = 0 → ∀ w', RC w0 P gb (cs.setIfInBounds i (.int .i64 ((uintF l most).2.1 : Int))) (uintF l most).2.2 w' → TKR 27 w w' → K w') (hE : (uintF l most).1 ≠ 0 → ∀ w', EI w0 P w' → E (thrown (uintF l most).1) w') :
    Then Try.prog 61 #[.pointer (some ⟨P.g, 0, none⟩), .pointer (some ⟨P.gA, i, none⟩), .int .i64 most] w (fun _ => K) E := by
  refine Calls.mono (rnumberF_any 27 39 (by decide) neA (by decide) w0.heap.size P.g P.gc P.gA i P.bv v0 cs l most w h.1 h.2.2.1 hi h.2.2.2.2.2.2.1 h.2.2.2.2.2.2.2.1) ?_
  intro x w' k
  obtain ⟨kt, ⟨e0, rfl, k2⟩ | ⟨e0, rfl, k2⟩⟩ := h.gotA (size_set.trans h.2.2.2.2.2.2.2.2) k
  · exact .inl ⟨_, rfl, hK e0 w' k2 kt⟩
  · exact .inr ⟨_, rfl, hE e0 w' k2⟩
theorem RC.textA (h : RC w0 P gb cs l w) {i : Nat} {v0 : Value} (hi : cs[i]? = some v0) (hsz : l.length ≤ 140737488355328) {most : Int} {K : World → Prop} {E : List PanicEntry → World → Prop}
    (hK : (bytesF l most).1 = 0 → ∀ w' p c, RC w0 P gb (cs.setIfInBounds i (.slice p (bytesF l most).2.1.length c)) (bytesF l most).2.2 w' → HBN w' P.gc (.slice p (bytesF l most).2.1.length c) (bytesF l most).2.1 → TKR 27 w w' → K w') (hE : (bytesF l most).1 ≠ 0 → ∀ w', EI w0 P w' → E (thrown (bytesF l most).1) w') :
    Then Try.prog 62 #[.pointer (some ⟨P.g, 0, none⟩), .pointer (some ⟨P.gA, i, none⟩), .int .i64 most] w (fun _ => K) E := by
  refine Calls.mono (rtextF_any 27 39 (by decide) neA (by decide) w0.heap.size P.g P.gc P.gA i P.bv v0 cs l most w h.1 h.2.2.1 hi h.2.2.2.2.2.2.1 h.2.2.2.2.2.2.2.1 hsz) ?_
  rintro x w' ⟨p, c, k, kn⟩
  obtain ⟨kt, ⟨e0, rfl, k2⟩ | ⟨e0, rfl, k2⟩⟩ := h.gotA (size_set.trans h.2.2.2.2.2.2.2.2) k
  · exact .inl ⟨_, rfl, hK e0 w' p c k2 kn kt⟩
  · exact .inr ⟨_, rfl, hE e0 w' k2⟩
theorem RC.flagA (h : RC w0 P gb cs l w) {i : Nat} {v0 : Value} (hi : cs[i]? = some v0) {K : Value → World → Prop} {E : List PanicEntry → World → Prop}
    (hK : (flagF l).1 = 0 → ∀ w', RC w0 P gb (cs.setIfInBounds i (.bool (flagF l).2.1)) (flagF l).2.2 w' → TKR 27 w w' → K (.bool (flagF l).2.1) w') (hE : (flagF l).1 ≠ 0 → ∀ w', EI w0 P w' → E (thrown (flagF l).1) w') :
    Then Try.prog 60 #[.pointer (some ⟨P.g, 0, none⟩), .pointer (some ⟨P.gA, i, none⟩)] w K E := by
  refine Calls.mono (rflagF_any 27 39 (by decide) neA (by decide) w0.heap.size P.g P.gc P.gA i P.bv v0 cs l w h.1 h.2.2.1 hi h.2.2.2.2.2.2.1 h.2.2.2.2.2.2.2.1) ?_
  intro x w' k
  obtain ⟨kt, ⟨e0, rfl, k2⟩ | ⟨e0, rfl, k2⟩⟩ := h.gotA (size_set.trans h.2.2.2.2.2.2.2.2) k
  · exact .inl ⟨_, rfl, hK e0 w' k2 kt⟩
  · exact .inr ⟨_, rfl, hE e0 w' k2⟩
end

/-- Bytes stay where blocks of bytes stay. -/
theorem HBN.tkr {U : TypeId} {g : Nat} {w w' : World} {v : Value} {l : List UInt8} (h : HBN w g v l) (t : TKR U w w') (hR : 5 ≠ 88) (hT : 5 ≠ U) : HBN w' g v l := by
  obtain ⟨⟨p, cap, e, h1, h2, h3, h4⟩, h5⟩ := h
  refine ⟨⟨p, cap, e, h1, h2, h3, fun hn => ?_⟩, fun a n c ev => ?_⟩
  · obtain ⟨b, o, rfl, hc⟩ := h4 hn
    refine ⟨b, o, rfl, fun i x hx => ?_⟩
    obtain ⟨cur, fr, hb⟩ := (h5 _ _ _ e).2
    have hk : w'.heap[b]? = w.heap[b]? := (t b cur _ fr hb hR hT).trans hb.symm
    rw [World.cell?_of_block (w := w) hk]
    exact hc i x hx
  · obtain ⟨hne, cur, fr, hb⟩ := h5 a n c ev
    exact ⟨hne, cur, fr, t _ cur _ fr hb hR hT⟩

/-- Items, events of one's own in a block of theirs. -/
def IX (w : World) (gc : Nat) (xs : Array Value) (its : List It) : Prop := ∀ (j : Nat) x, its[j]? = some x → ∃ q c r d, (xs[j * 3]? = some (.slice q x.id.length c) ∧ xs[j * 3 + 1]? = some (.slice r x.key.length d) ∧ xs[j * 3 + 2]? = some (.int .i64 x.si)) ∧ HBN w gc (.slice q x.id.length c) x.id ∧ HBN w gc (.slice r x.key.length d) x.key
def EX (w : World) (gc : Nat) (xs : Array Value) (evs : List Ev) : Prop := ∀ (j : Nat) x, evs[j]? = some x → ∃ q c r d, (xs[j * 4]? = some (.int .i64 x.e) ∧ xs[j * 4 + 1]? = some (.int .i64 x.i) ∧ xs[j * 4 + 2]? = some (.slice q x.id.length c) ∧ xs[j * 4 + 3]? = some (.slice r x.key.length d)) ∧ HBN w gc (.slice q x.id.length c) x.id ∧ HBN w gc (.slice r x.key.length d) x.key

end Go.Proofs.Ytldmbfemoepfkaa

namespace Go.Proofs.Ytldmbfemoepfkaa
open Go.RowKit

theorem IX.tkr {U : TypeId} {w w' : World} {gc : Nat} {xs : Array Value} {its : List It} (h : IX w gc xs its) (t : TKR U w w') (hT : 5 ≠ U) : IX w' gc xs its := by
  intro j x hx
  obtain ⟨q, c, r, d, h1, h2, h3⟩ := h j x hx
  exact ⟨q, c, r, d, h1, h2.tkr t (by decide) hT, h3.tkr t (by decide) hT⟩
theorem EX.tkr {U : TypeId} {w w' : World} {gc : Nat} {xs : Array Value} {evs : List Ev} (h : EX w gc xs evs) (t : TKR U w w') (hT : 5 ≠ U) : EX w' gc xs evs := by
  intro j x hx
  obtain ⟨q, c, r, d, h1, h2, h3⟩ := h j x hx
  exact ⟨q, c, r, d, h1, h2.tkr t (by decide) hT, h3.tkr t (by decide) hT⟩
theorem set_at {xs : Array Value} {i : Nat} {v : Value} (h : i < xs.size) : (xs.setIfInBounds i v)[i]? = some v := Array.getElem?_setIfInBounds_self_of_lt h
theorem set_ne {xs : Array Value} {i j : Nat} {v : Value} (h : i ≠ j) : (xs.setIfInBounds i v)[j]? = xs[j]? := Array.getElem?_setIfInBounds_ne h

theorem IX.snoc {w : World} {gc k : Nat} {xs : Array Value} {its : List It} {x : It} {q r : Option Addr} {c d : Nat} (h : IX w gc xs its) (hk : its.length = k) (hs : k * 3 + 2 < xs.size) (h1 : HBN w gc (.slice q x.id.length c) x.id) (h2 : HBN w gc (.slice r x.key.length d) x.key) :
    IX w gc (((xs.setIfInBounds (k * 3) (.slice q x.id.length c)).setIfInBounds (k * 3 + 1) (.slice r x.key.length d)).setIfInBounds (k * 3 + 2) (.int .i64 x.si)) (its ++ [x]) := by
  intro j y hy
  by_cases hj : j < its.length
  · rw [List.getElem?_append_left hj] at hy
    obtain ⟨q', c', r', d', ⟨g1, g2, g3⟩, g4⟩ := h j y hy
    refine ⟨q', c', r', d', ⟨?_, ?_, ?_⟩, g4⟩
    · rw [set_ne (by omega), set_ne (by omega), set_ne (by omega)]; exact g1
    · rw [set_ne (by omega), set_ne (by omega), set_ne (by omega)]; exact g2
    · rw [set_ne (by omega), set_ne (by omega), set_ne (by omega)]; exact g3
  · have hj2 : j = its.length := by
      have := (List.getElem?_eq_some_iff.1 hy).1
      simp at this
      omega
    subst hj2
    rw [List.getElem?_append_right (Nat.le_refl _), Nat.sub_self] at hy
    obtain rfl : x = y := by simpa using hy
    rw [hk]
    refine ⟨q, c, r, d, ⟨?_, ?_, ?_⟩, h1, h2⟩
    · rw [set_ne (by omega), set_ne (by omega)]; exact set_at (by omega)
    · rw [set_ne (by omega)]; exact set_at (by simp; omega)
    · exact set_at (by simp; omega)
theorem EX.snoc {w : World} {gc k : Nat} {xs : Array Value} {evs : List Ev} {x : Ev} {q r : Option Addr} {c d : Nat} (h : EX w gc xs evs) (hk : evs.length = k) (hs : k * 4 + 3 < xs.size) (h1 : HBN w gc (.slice q x.id.length c) x.id) (h2 : HBN w gc (.slice r x.key.length d) x.key) :
    EX w gc ((((xs.setIfInBounds (k * 4) (.int .i64 x.e)).setIfInBounds (k * 4 + 1) (.int .i64 x.i)).setIfInBounds (k * 4 + 2) (.slice q x.id.length c)).setIfInBounds (k * 4 + 3) (.slice r x.key.length d)) (evs ++ [x]) := by
  intro j y hy
  by_cases hj : j < evs.length
  · rw [List.getElem?_append_left hj] at hy
    obtain ⟨q', c', r', d', ⟨g1, g2, g3, g5⟩, g4⟩ := h j y hy
    refine ⟨q', c', r', d', ⟨?_, ?_, ?_, ?_⟩, g4⟩
    · rw [set_ne (by omega), set_ne (by omega), set_ne (by omega), set_ne (by omega)]; exact g1
    · rw [set_ne (by omega), set_ne (by omega), set_ne (by omega), set_ne (by omega)]; exact g2
    · rw [set_ne (by omega), set_ne (by omega), set_ne (by omega), set_ne (by omega)]; exact g3
    · rw [set_ne (by omega), set_ne (by omega), set_ne (by omega), set_ne (by omega)]; exact g5
  · have hj2 : j = evs.length := by
      have := (List.getElem?_eq_some_iff.1 hy).1
      simp at this
      omega
    subst hj2
    rw [List.getElem?_append_right (Nat.le_refl _), Nat.sub_self] at hy
    obtain rfl : x = y := by simpa using hy
    rw [hk]
    refine ⟨q, c, r, d, ⟨?_, ?_, ?_, ?_⟩, h1, h2⟩
    · rw [set_ne (by omega), set_ne (by omega), set_ne (by omega)]; exact set_at (by omega)
    · rw [set_ne (by omega), set_ne (by omega)]; exact set_at (by simp; omega)
    · rw [set_ne (by omega)]; exact set_at (by simp; omega)
    · exact set_at (by simp; omega)

theorem rdI_e1 {l : List UInt8} (h : (rdI1 l 0).1 ≠ 0) : (rdI l 0).1 = (rdI1 l 0).1 := by
  have h2 : rdI2 l 0 = ((rdI1 l 0).1, [], (rdI1 l 0).2.2) := rdB_st h
  show (rdI3 l 0).1 = _
  unfold rdI3
  rw [h2]
  exact congrArg Prod.fst (rdU_st h)
theorem rdI_e2 {l : List UInt8} (h : (rdI2 l 0).1 ≠ 0) : (rdI l 0).1 = (rdI2 l 0).1 := congrArg Prod.fst (rdU_st h)
theorem rdV_e1 {l : List UInt8} (h : (rdV1 l 0).1 ≠ 0) : (rdV l 0).1 = (rdV1 l 0).1 := by
  have h2 : rdV2 l 0 = ((rdV1 l 0).1, 0, (rdV1 l 0).2.2) := rdU_st h
  have h3 : rdV3 l 0 = ((rdV1 l 0).1, [], (rdV1 l 0).2.2) := by unfold rdV3; rw [h2]; exact rdB_st h
  show (rdV4 l 0).1 = _
  unfold rdV4
  rw [h3]
  exact congrArg Prod.fst (rdB_st h)
theorem rdV_e2 {l : List UInt8} (h : (rdV2 l 0).1 ≠ 0) : (rdV l 0).1 = (rdV2 l 0).1 := by
  have h3 : rdV3 l 0 = ((rdV2 l 0).1, [], (rdV2 l 0).2.2) := rdB_st h
  show (rdV4 l 0).1 = _
  unfold rdV4
  rw [h3]
  exact congrArg Prod.fst (rdB_st h)
theorem rdV_e3 {l : List UInt8} (h : (rdV3 l 0).1 ≠ 0) : (rdV l 0).1 = (rdV3 l 0).1 := congrArg Prod.fst (rdB_st h)

theorem neI : NeU 58 ∧ NeU 61 ∧ NeU 3 := by unfold NeU; decide

section
variable {w0 : World} {P : Pl} {gb : Nat} {cs : Array Value}

theorem RC.items {sv : Value} (h6 : cs[6]? = some sv) (gI n : Nat) (hgI : w0.heap.size ≤ gI) (l0 : List UInt8) (hsz : l0.length ≤ 140737488355328) (K : World → Prop) (E : List PanicEntry → World → Prop)
    (hK : (itS l0 0 n).1 = 0 → ∀ w' xs', RC w0 P gb cs (itS l0 0 n).2.1 w' → CB 58 w' gI xs' → IX w' P.gc xs' (itS l0 0 n).2.2 → K w') (hE : (itS l0 0 n).1 ≠ 0 → ∀ w', EI w0 P w' → E (thrown (itS l0 0 n).1) w') :
    ∀ (m k : Nat) (w : World) (xs : Array Value), m + k = n → (itS l0 0 k).1 = 0 → RC w0 P gb cs (itS l0 0 k).2.1 w → CB 58 w gI xs → xs.size = n * 3 → IX w P.gc xs (itS l0 0 k).2.2 → LpI (showsR P.g) gb P.gA 6 gI 0 sv K E m k w
  | 0, k, w, xs, hm, h0, h, hX, _, hI => by
    obtain rfl : k = n := by omega
    exact hK h0 w xs h hX hI
  | m + 1, k, w, xs, hm, h0, h, hX, hs, hI => by
    have hSk : itS l0 0 (k + 1) = ((rdI (itS l0 0 k).2.1 0).1, (rdI (itS l0 0 k).2.1 0).2.1, (itS l0 0 k).2.2 ++ [(rdI (itS l0 0 k).2.1 0).2.2]) := by
      show (_, _, _) = _
      rw [h0]
    have hlen := itS_len l0 0 k
    have hl : (itS l0 0 k).2.1.length ≤ l0.length := (itS_suf l0 0 k).length_le
    have hst : (itS l0 0 (k + 1)).1 ≠ 0 → (itS l0 0 n).1 = (itS l0 0 (k + 1)).1 := fun hh => by
      have := itS_st hh m
      rwa [show k + 1 + m = n by omega] at this
    rw [hSk] at hst
    have ih := RC.items h6 gI n hgI l0 hsz K E hK hE m (k + 1)
    rw [hSk] at ih
    generalize (itS l0 0 k).2.1 = l at *
    generalize (itS l0 0 k).2.2 = its at *
    have q1 : bytesF l 300 = rdI1 l 0 := (rdB_0 l 300).symm
    have l1 : (rdI1 l 0).2.2.length ≤ l.length := (rdB_suf l 0 300).length_le
    refine ⟨h.cell h6, ?_⟩
    rw [Nat.zero_add]
    refine ⟨h.bx, ?_⟩
    have d0 := h.drew
    refine d0.text neI.1 (hX : CB 58 w.drew gI xs) (Array.getElem?_eq_getElem (by omega)) hgI (by omega) ?_ ?_
    rotate_left
    · intro e1 w' k1
      rw [q1] at e1 ⊢
      have z := hst (by rw [rdI_e1 e1]; exact e1)
      rw [rdI_e1 e1] at z
      rw [← z] at e1 ⊢
      exact hE e1 w' k1
    intro e1 w1 p1 c1 k1 x1 n1 t1
    rw [q1] at e1 k1 x1 n1
    refine ⟨k1.bx, ?_⟩
    have q2 : bytesF (rdI1 l 0).2.2 300 = rdI2 l 0 := by unfold rdI2; rw [e1, rdB_0]
    have l2 : (rdI2 l 0).2.2.length ≤ (rdI1 l 0).2.2.length := (rdB_suf _ _ 300).length_le
    have d1 := k1.drew
    refine d1.text neI.1 (x1 : CB 58 w1.drew gI _) (Array.getElem?_eq_getElem (by rw [size_set]; omega)) hgI (by omega) ?_ ?_
    rotate_left
    · intro e2 w' k2
      rw [q2] at e2 ⊢
      have z := hst (by rw [rdI_e2 e2]; exact e2)
      rw [rdI_e2 e2] at z
      rw [← z] at e2 ⊢
      exact hE e2 w' k2
    intro e2 w2 p2 c2 k2 x2 n2 t2
    rw [q2] at e2 k2 x2 n2
    refine ⟨k2.bx, ?_⟩
    have q3 : uintF (rdI2 l 0).2.2 2147483648 = rdI3 l 0 := by unfold rdI3; rw [e2, rdU_0]
    have d2 := k2.drew
    refine d2.num neI.1 (x2 : CB 58 w2.drew gI _) (Array.getElem?_eq_getElem (by rw [size_set, size_set]; omega)) hgI ?_ ?_
    rotate_left
    · intro e3 w' k3
      rw [q3] at e3 ⊢
      have z := hst e3
      change (itS l0 0 n).1 = (rdI3 l 0).1 at z
      rw [← z] at e3 ⊢
      exact hE e3 w' k3
    intro e3 w3 k3 x3 t3
    rw [q3] at e3 k3 x3
    have t23 : TKR 58 w1 w3 := (show TKR 58 w1 w2 from t2).trans t3
    have t13 : TKR 58 w w3 := (show TKR 58 w w1 from t1).trans t23
    refine ih w3 _ (by omega) e3 k3 x3 (by rw [size_set, size_set, size_set]; exact hs) ?_
    exact IX.snoc (x := (rdI l 0).2.2) (hI.tkr t13 (by decide)) hlen (by omega) (n1.tkr t23 (by decide) (by decide)) (n2.tkr (show TKR 58 w2 w3 from t3) (by decide) (by decide))

end

end Go.Proofs.Ytldmbfemoepfkaa

namespace Go.Proofs.Ytldmbfemoepfkaa
open Go.RowKit

section
variable {w0 : World} {P : Pl} {gb : Nat} {cs : Array Value} {l : List UInt8} {w : World}

theorem RC.nums2 {U : TypeId} (hU : NeU U) (hp : 67 ≠ U) (h : RC w0 P gb cs l w) {gX i j : Nat} {xs : Array Value} (hX : CB U w gX xs) (hi : i < xs.size) (hj : j < xs.size) (hb : w0.heap.size ≤ gX) {K : World → Prop} {E : List PanicEntry → World → Prop}
    (hK : (rdV2 l 0).1 = 0 → ∀ w', RC w0 P gb cs (rdV2 l 0).2.2 w' → CB U w' gX ((xs.setIfInBounds i (.int .i64 ((rdV1 l 0).2.1 : Int))).setIfInBounds j (.int .i64 ((rdV2 l 0).2.1 : Int))) → TKR U w w' → K w') (hE1 : (rdV1 l 0).1 ≠ 0 → ∀ w', EI w0 P w' → E (thrown (rdV1 l 0).1) w') (hE2 : (rdV2 l 0).1 ≠ 0 → ∀ w', EI w0 P w' → E (thrown (rdV2 l 0).1) w') :
    ShNs (showsR P.g) [⟨gX, i, none⟩, ⟨gX, j, none⟩] 2147483648 w K E := by
  have b0 := (Below.refl w.heap.size w).alloc (Nat.le_refl _) (.cells (ptrs [⟨gX, i, none⟩, ⟨gX, j, none⟩]).toArray 67 (0, 0))
  have c0 : CB 67 (w.alloc (.cells (ptrs [⟨gX, i, none⟩, ⟨gX, j, none⟩]).toArray 67 (0, 0))) w.heap.size (ptrs [⟨gX, i, none⟩, ⟨gX, j, none⟩]).toArray := CB.made _ w _
  have q1 : uintF l 2147483648 = rdV1 l 0 := (rdU_0 l _).symm
  refine (h.later b0).num hU (hX.later b0) (Array.getElem?_eq_getElem hi) hb ?_ ?_
  rotate_left
  · intro e1 w' k1
    rw [q1] at e1 ⊢
    exact hE1 e1 w' k1
  intro e1 w1 k1 x1 t1
  rw [q1] at e1 k1 x1
  have q2 : uintF (rdV1 l 0).2.2 2147483648 = rdV2 l 0 := by unfold rdV2; rw [e1, rdU_0]
  have c1 : CB 67 w1 w.heap.size _ := t1 _ _ _ _ c0 (by decide) hp
  refine ⟨c1, ?_⟩
  refine k1.num hU x1 (Array.getElem?_eq_getElem (by rw [size_set]; exact hj)) hb ?_ ?_
  rotate_left
  · intro e2 w' k2
    rw [q2] at e2 ⊢
    exact hE2 e2 w' k2
  intro e2 w2 k2 x2 t2
  rw [q2] at e2 k2 x2
  have c2 : CB 67 w2 w.heap.size _ := t2 _ _ _ _ c1 (by decide) hp
  exact ⟨c2, hK e2 w2 k2 x2 ((TKR.of_below b0).trans (t1.trans t2))⟩

theorem RC.nums2A (h : RC w0 P gb cs l w) {i j : Nat} (hi : i < cs.size) (hj : j < cs.size) {K : World → Prop} {E : List PanicEntry → World → Prop}
    (hK : (rdV2 l 0).1 = 0 → ∀ w', RC w0 P gb ((cs.setIfInBounds i (.int .i64 ((rdV1 l 0).2.1 : Int))).setIfInBounds j (.int .i64 ((rdV2 l 0).2.1 : Int))) (rdV2 l 0).2.2 w' → TKR 27 w w' → K w') (hE1 : (rdV1 l 0).1 ≠ 0 → ∀ w', EI w0 P w' → E (thrown (rdV1 l 0).1) w') (hE2 : (rdV2 l 0).1 ≠ 0 → ∀ w', EI w0 P w' → E (thrown (rdV2 l 0).1) w') :
    ShNs (showsR P.g) [⟨P.gA, i, none⟩, ⟨P.gA, j, none⟩] 2147483648 w K E := by
  have b0 := (Below.refl w.heap.size w).alloc (Nat.le_refl _) (.cells (ptrs [⟨P.gA, i, none⟩, ⟨P.gA, j, none⟩]).toArray 67 (0, 0))
  have c0 : CB 67 (w.alloc (.cells (ptrs [⟨P.gA, i, none⟩, ⟨P.gA, j, none⟩]).toArray 67 (0, 0))) w.heap.size (ptrs [⟨P.gA, i, none⟩, ⟨P.gA, j, none⟩]).toArray := CB.made _ w _
  have q1 : uintF l 2147483648 = rdV1 l 0 := (rdU_0 l _).symm
  refine (h.later b0).numA (Array.getElem?_eq_getElem hi) ?_ ?_
  rotate_left
  · intro e1 w' k1
    rw [q1] at e1 ⊢
    exact hE1 e1 w' k1
  intro e1 w1 k1 t1
  rw [q1] at e1 k1
  have q2 : uintF (rdV1 l 0).2.2 2147483648 = rdV2 l 0 := by unfold rdV2; rw [e1, rdU_0]
  have c1 : CB 67 w1 w.heap.size _ := t1 _ _ _ _ c0 (by decide) (by decide)
  refine ⟨c1, ?_⟩
  refine k1.numA (Array.getElem?_eq_getElem (by rw [size_set]; exact hj)) ?_ ?_
  rotate_left
  · intro e2 w' k2
    rw [q2] at e2 ⊢
    exact hE2 e2 w' k2
  intro e2 w2 k2 t2
  rw [q2] at e2 k2
  have c2 : CB 67 w2 w.heap.size _ := t2 _ _ _ _ c1 (by decide) (by decide)
  exact ⟨c2, hK e2 w2 k2 ((TKR.of_below b0).trans (t1.trans t2))⟩

theorem RC.events {sv : Value} (h7 : cs[7]? = some sv) (gI n : Nat) (hgI : w0.heap.size ≤ gI) (l0 : List UInt8) (hsz : l0.length ≤ 140737488355328) (K : World → Prop) (E : List PanicEntry → World → Prop)
    (hK : (evS l0 0 n).1 = 0 → ∀ w' xs', RC w0 P gb cs (evS l0 0 n).2.1 w' → CB 61 w' gI xs' → EX w' P.gc xs' (evS l0 0 n).2.2 → K w') (hE : (evS l0 0 n).1 ≠ 0 → ∀ w', EI w0 P w' → E (thrown (evS l0 0 n).1) w') :
    ∀ (m k : Nat) (w : World) (xs : Array Value), m + k = n → (evS l0 0 k).1 = 0 → RC w0 P gb cs (evS l0 0 k).2.1 w → CB 61 w gI xs → xs.size = n * 4 → EX w P.gc xs (evS l0 0 k).2.2 → LpE (showsR P.g) gb P.gA 7 gI 0 sv K E m k w
  | 0, k, w, xs, hm, h0, h, hX, _, hI => by
    obtain rfl : k = n := by omega
    exact hK h0 w xs h hX hI
  | m + 1, k, w, xs, hm, h0, h, hX, hs, hI => by
    have hSk : evS l0 0 (k + 1) = ((rdV (evS l0 0 k).2.1 0).1, (rdV (evS l0 0 k).2.1 0).2.1, (evS l0 0 k).2.2 ++ [(rdV (evS l0 0 k).2.1 0).2.2]) := by
      show (_, _, _) = _
      rw [h0]
    have hlen := evS_len l0 0 k
    have hl : (evS l0 0 k).2.1.length ≤ l0.length := (evS_suf l0 0 k).length_le
    have hst : (evS l0 0 (k + 1)).1 ≠ 0 → (evS l0 0 n).1 = (evS l0 0 (k + 1)).1 := fun hh => by
      have := evS_st hh m
      rwa [show k + 1 + m = n by omega] at this
    rw [hSk] at hst
    have ih := RC.events h7 gI n hgI l0 hsz K E hK hE m (k + 1)
    rw [hSk] at ih
    generalize (evS l0 0 k).2.1 = l at *
    generalize (evS l0 0 k).2.2 = evs at *
    have l2 : (rdV2 l 0).2.2.length ≤ l.length := ((rdU_suf _ _ _).trans (rdU_suf l 0 _)).length_le
    refine ⟨h.cell h7, ?_⟩
    rw [Nat.zero_add]
    refine ⟨h.bx, ?_⟩
    refine h.drew.nums2 neI.2.1 (by decide) (hX : CB 61 w.drew gI xs) (by omega) (by omega) hgI ?_ ?_ ?_
    rotate_left
    · intro e1 w' k1
      have z := hst (by rw [rdV_e1 e1]; exact e1)
      rw [rdV_e1 e1] at z
      rw [← z] at e1 ⊢
      exact hE e1 w' k1
    · intro e1 w' k1
      have z := hst (by rw [rdV_e2 e1]; exact e1)
      rw [rdV_e2 e1] at z
      rw [← z] at e1 ⊢
      exact hE e1 w' k1
    intro e0 w1 k1 x1 t1
    refine ⟨k1.bx, ?_⟩
    have q3 : bytesF (rdV2 l 0).2.2 300 = rdV3 l 0 := by unfold rdV3; rw [e0, rdB_0]
    have l3 : (rdV3 l 0).2.2.length ≤ (rdV2 l 0).2.2.length := (rdB_suf _ _ 300).length_le
    refine k1.drew.text neI.2.1 (x1 : CB 61 w1.drew gI _) (Array.getElem?_eq_getElem (by rw [size_set, size_set]; omega)) hgI (by omega) ?_ ?_
    rotate_left
    · intro e2 w' k2
      rw [q3] at e2 ⊢
      have z := hst (by rw [rdV_e3 e2]; exact e2)
      rw [rdV_e3 e2] at z
      rw [← z] at e2 ⊢
      exact hE e2 w' k2
    intro e2 w2 p2 c2 k2 x2 n2 t2
    rw [q3] at e2 k2 x2 n2
    refine ⟨k2.bx, ?_⟩
    have q4 : bytesF (rdV3 l 0).2.2 300 = rdV4 l 0 := by unfold rdV4; rw [e2, rdB_0]
    refine k2.drew.text neI.2.1 (x2 : CB 61 w2.drew gI _) (Array.getElem?_eq_getElem (by rw [size_set, size_set, size_set]; omega)) hgI (by omega) ?_ ?_
    rotate_left
    · intro e3 w' k3
      rw [q4] at e3 ⊢
      have z := hst e3
      change (evS l0 0 n).1 = (rdV4 l 0).1 at z
      rw [← z] at e3 ⊢
      exact hE e3 w' k3
    intro e3 w3 p3 c3 k3 x3 n3 t3
    rw [q4] at e3 k3 x3 n3
    have t23 : TKR 61 w1 w3 := (show TKR 61 w1 w2 from t2).trans t3
    have t13 : TKR 61 w w3 := (show TKR 61 w w1 from t1).trans t23
    refine ih w3 _ (by omega) e3 k3 x3 (by rw [size_set, size_set, size_set, size_set]; exact hs) ?_
    exact EX.snoc (x := (rdV l 0).2.2) (hI.tkr t13 (by decide)) hlen (by omega) (n2.tkr (show TKR 61 w2 w3 from t3) (by decide) (by decide)) n3

/-- A list of items, of events, of one's own. -/
def IAx (w : World) (gc : Nat) (v : Value) (its : List It) : Prop := (its = [] ∧ v = .slice none 0 0) ∨ ∃ gI xs, v = .slice (some ⟨gI, 0, none⟩) its.length its.length ∧ its.length ≤ 1000 ∧ CB 58 w gI xs ∧ IX w gc xs its
def EAx (w : World) (gc : Nat) (v : Value) (evs : List Ev) : Prop := (evs = [] ∧ v = .slice none 0 0) ∨ ∃ gI xs, v = .slice (some ⟨gI, 0, none⟩) evs.length evs.length ∧ evs.length ≤ 1000 ∧ CB 61 w gI xs ∧ EX w gc xs evs

theorem set_same {xs : Array Value} {i : Nat} {v : Value} (hv : xs[i]? = some v) : xs.setIfInBounds i v = xs := by
  apply Array.ext_getElem?
  intro j
  rw [Array.getElem?_setIfInBounds]
  split
  · rename_i h
    subst h
    split
    · exact hv.symm
    · rename_i h; rw [Array.getElem?_eq_none (by omega)] at hv; cases hv
  · rfl

theorem RC.putA (h : RC w0 P gb cs l w) (i : Nat) (v : Value) : RC w0 P gb (cs.setIfInBounds i v) l (w.setCell ⟨P.gA, i, none⟩ v) := by
  have t : TK 27 w (w.setCell ⟨P.gA, i, none⟩ v) := TK.of_only ((Only.refl P.gA w).setCell i v) h.2.2.1
  exact ⟨h.1.put neA (by decide) h.2.2.1 v, h.2.1.setCell (p := ⟨P.gA, i, none⟩) h.2.2.2.2.2.2.2.1 v, h.2.2.1.put i v, t _ _ _ _ h.2.2.2.1 (by decide), t _ _ _ _ h.2.2.2.2.1 (by decide), t _ _ _ _ h.2.2.2.2.2.1 (by decide), h.2.2.2.2.2.2.1, h.2.2.2.2.2.2.2.1, size_set.trans h.2.2.2.2.2.2.2.2⟩

theorem RC.listI (h : RC w0 P gb cs l w) (h6 : cs[6]? = some (.slice none 0 0)) (hsz : l.length ≤ 140737488355328) (K : World → Prop) (E : List PanicEntry → World → Prop)
    (hK : (rdDi l 0).1 = 0 → ∀ w' iv, RC w0 P gb (cs.setIfInBounds 6 iv) (rdDi l 0).2.1 w' → IAx w' P.gc iv (rdDi l 0).2.2 → K w') (hE : (rdDi l 0).1 ≠ 0 → ∀ w', EI w0 P w' → E (thrown (rdDi l 0).1) w') :
    Then Try.prog 31 #[.iface (showsR P.g).T (showsR P.g).v, .pointer (some ⟨P.gA, 6, none⟩), .int .i64 32, .func (.func 32) #[] #[.pointer (some ⟨gb, 0, none⟩)]] w (fun _ => K) E := by
  refine listI_make (showsR P.g) gb P.gA 6 w K E (h.cell h6) ?_
  have b0 := (Below.refl w.heap.size w).alloc (Nat.le_refl _) (.cells #[.int .i64 0] 3)
  have q1 : uintF l 32 = rdU l 0 32 := (rdU_0 l 32).symm
  refine (h.later b0).num neI.2.2 (CB.made 3 w #[.int .i64 0]) rfl h.2.1.size ?_ ?_
  rotate_left
  · intro e1 w' k1
    rw [q1] at e1 ⊢
    have z := rdDi_st e1
    rw [← z] at e1 ⊢
    exact hE e1 w' k1
  intro e1 w1 k1 x1 t1
  rw [q1] at e1 k1 x1
  have hn : ((rdU l 0 32).2.1 : Int) ≤ 32 := rdU_most l 0 32 (by decide)
  have hl1 : (rdU l 0 32).2.2.length ≤ l.length := (rdU_suf l 0 32).length_le
  have eD : rdDi l 0 = itS (rdU l 0 32).2.2 0 (rdU l 0 32).2.1 := by unfold rdDi; rw [e1]
  have hDl : (rdDi l 0).2.2.length = (rdU l 0 32).2.1 := itS_len _ _ _
  refine ⟨(rdU l 0 32).2.1, by omega, x1.cell rfl, k1.cell h6, k1.2.2.1.free 6, k1.2.2.1.lt, fun h0 => ?_, fun hp => ?_⟩
  · have eN : rdDi l 0 = (0, (rdU l 0 32).2.2, []) := by rw [eD, h0]; rfl
    refine hK (by rw [eN]) w1.drew (.slice none 0 0) ?_ (.inl ⟨by rw [eN], rfl⟩)
    rw [set_same h6, eN]
    exact k1.drew
  · have k2 := k1.putA 6 (.slice (some ⟨w1.heap.size, 0, none⟩) (rdU l 0 32).2.1 (rdU l 0 32).2.1)
    have hs2 : (w1.setCell ⟨P.gA, 6, none⟩ (.slice (some ⟨w1.heap.size, 0, none⟩) (rdU l 0 32).2.1 (rdU l 0 32).2.1)).heap.size = w1.heap.size := by simp
    have x2 := CB.made 58 (w1.setCell ⟨P.gA, 6, none⟩ (.slice (some ⟨w1.heap.size, 0, none⟩) (rdU l 0 32).2.1 (rdU l 0 32).2.1)) (madeCells #[.slice none 0 0, .slice none 0 0, .int .i64 0] ((rdU l 0 32).2.1 * 3))
    rw [hs2] at x2
    have k3 := (k2.later ((Below.refl _ _).alloc (Nat.le_refl _) (.cells (madeCells #[.slice none 0 0, .slice none 0 0, .int .i64 0] ((rdU l 0 32).2.1 * 3)) 58))).drew
    refine RC.items (set_at (by have := h.2.2.2.2.2.2.2.2; omega)) w1.heap.size (rdU l 0 32).2.1 k1.2.1.size (rdU l 0 32).2.2 (by omega) K E ?_ ?_ (rdU l 0 32).2.1 0 _ _ rfl rfl k3 x2 (size_madeCells _ _) (fun j x hx => by simp [itS] at hx)
    · intro e2 w' xs' k4 x4 i4
      rw [← eD] at e2 k4 i4
      refine hK e2 w' _ k4 (.inr ⟨w1.heap.size, xs', ?_, by omega, x4, i4⟩)
      rw [hDl]
    · intro e2 w' k4
      rw [← eD] at e2 ⊢
      exact hE e2 w' k4

theorem RC.listE (h : RC w0 P gb cs l w) (h7 : cs[7]? = some (.slice none 0 0)) (hsz : l.length ≤ 140737488355328) (K : World → Prop) (E : List PanicEntry → World → Prop)
    (hK : (rdFi l 0).1 = 0 → ∀ w' iv, RC w0 P gb (cs.setIfInBounds 7 iv) (rdFi l 0).2.1 w' → EAx w' P.gc iv (rdFi l 0).2.2 → K w') (hE : (rdFi l 0).1 ≠ 0 → ∀ w', EI w0 P w' → E (thrown (rdFi l 0).1) w') :
    Then Try.prog 33 #[.iface (showsR P.g).T (showsR P.g).v, .pointer (some ⟨P.gA, 7, none⟩), .int .i64 32, .func (.func 34) #[] #[.pointer (some ⟨gb, 0, none⟩)]] w (fun _ => K) E := by
  refine listE_make (showsR P.g) gb P.gA 7 w K E (h.cell h7) ?_
  have b0 := (Below.refl w.heap.size w).alloc (Nat.le_refl _) (.cells #[.int .i64 0] 3)
  have q1 : uintF l 32 = rdU l 0 32 := (rdU_0 l 32).symm
  refine (h.later b0).num neI.2.2 (CB.made 3 w #[.int .i64 0]) rfl h.2.1.size ?_ ?_
  rotate_left
  · intro e1 w' k1
    rw [q1] at e1 ⊢
    have z := rdFi_st e1
    rw [← z] at e1 ⊢
    exact hE e1 w' k1
  intro e1 w1 k1 x1 t1
  rw [q1] at e1 k1 x1
  have hn : ((rdU l 0 32).2.1 : Int) ≤ 32 := rdU_most l 0 32 (by decide)
  have hl1 : (rdU l 0 32).2.2.length ≤ l.length := (rdU_suf l 0 32).length_le
  have eD : rdFi l 0 = evS (rdU l 0 32).2.2 0 (rdU l 0 32).2.1 := by unfold rdFi; rw [e1]
  have hDl : (rdFi l 0).2.2.length = (rdU l 0 32).2.1 := evS_len _ _ _
  refine ⟨(rdU l 0 32).2.1, by omega, x1.cell rfl, k1.cell h7, k1.2.2.1.free 7, k1.2.2.1.lt, fun h0 => ?_, fun hp => ?_⟩
  · have eN : rdFi l 0 = (0, (rdU l 0 32).2.2, []) := by rw [eD, h0]; rfl
    refine hK (by rw [eN]) w1.drew (.slice none 0 0) ?_ (.inl ⟨by rw [eN], rfl⟩)
    rw [set_same h7, eN]
    exact k1.drew
  · have k2 := k1.putA 7 (.slice (some ⟨w1.heap.size, 0, none⟩) (rdU l 0 32).2.1 (rdU l 0 32).2.1)
    have hs2 : (w1.setCell ⟨P.gA, 7, none⟩ (.slice (some ⟨w1.heap.size, 0, none⟩) (rdU l 0 32).2.1 (rdU l 0 32).2.1)).heap.size = w1.heap.size := by simp
    have x2 := CB.made 61 (w1.setCell ⟨P.gA, 7, none⟩ (.slice (some ⟨w1.heap.size, 0, none⟩) (rdU l 0 32).2.1 (rdU l 0 32).2.1)) (madeCells #[.int .i64 0, .int .i64 0, .slice none 0 0, .slice none 0 0] ((rdU l 0 32).2.1 * 4))
    rw [hs2] at x2
    have k3 := (k2.later ((Below.refl _ _).alloc (Nat.le_refl _) (.cells (madeCells #[.int .i64 0, .int .i64 0, .slice none 0 0, .slice none 0 0] ((rdU l 0 32).2.1 * 4)) 61))).drew
    refine RC.events (set_at (by have := h.2.2.2.2.2.2.2.2; omega)) w1.heap.size (rdU l 0 32).2.1 k1.2.1.size (rdU l 0 32).2.2 (by omega) K E ?_ ?_ (rdU l 0 32).2.1 0 _ _ rfl rfl k3 x2 (size_madeCells _ _) (fun j x hx => by simp [evS] at hx)
    · intro e2 w' xs' k4 x4 i4
      rw [← eD] at e2 k4 i4
      refine hK e2 w' _ k4 (.inr ⟨w1.heap.size, xs', ?_, by omega, x4, i4⟩)
      rw [hDl]
    · intro e2 w' k4
      rw [← eD] at e2 ⊢
      exact hE e2 w' k4
end

end Go.Proofs.Ytldmbfemoepfkaa

namespace Go.Proofs.Ytldmbfemoepfkaa
open Go.RowKit

/-- What an answer's cells point at. -/
def AnsX (w : World) (gc : Nat) (a : AA) (k i e : Value) : Prop := HBN w gc k a.key ∧ IAx w gc i a.its ∧ EAx w gc e a.evs

theorem IAx.tkr {U : TypeId} {w w' : World} {gc : Nat} {v : Value} {its : List It} (h : IAx w gc v its) (t : TKR U w w') (hT : 5 ≠ U) (hI : 58 ≠ U) : IAx w' gc v its := by
  rcases h with h | ⟨gI, xs, e, hn, hc, hx⟩
  · exact .inl h
  · exact .inr ⟨gI, xs, e, hn, t _ _ _ _ hc (by decide) hI, hx.tkr t hT⟩
theorem EAx.tkr {U : TypeId} {w w' : World} {gc : Nat} {v : Value} {evs : List Ev} (h : EAx w gc v evs) (t : TKR U w w') (hT : 5 ≠ U) (hI : 61 ≠ U) : EAx w' gc v evs := by
  rcases h with h | ⟨gI, xs, e, hn, hc, hx⟩
  · exact .inl h
  · exact .inr ⟨gI, xs, e, hn, t _ _ _ _ hc (by decide) hI, hx.tkr t hT⟩
theorem AnsX.tkr {w w' : World} {gc : Nat} {a : AA} {k i e : Value} (h : AnsX w gc a k i e) (t : TKR 27 w w') : AnsX w' gc a k i e :=
  ⟨h.1.tkr t (by decide) (by decide), h.2.1.tkr t (by decide) (by decide), h.2.2.tkr t (by decide) (by decide)⟩
theorem AnsX.nil (w : World) (gc : Nat) : AnsX w gc AA0 (.slice none 0 0) (.slice none 0 0) (.slice none 0 0) := ⟨HBN.nil w gc, .inl ⟨rfl, rfl⟩, .inl ⟨rfl, rfl⟩⟩

theorem flagF_no {l : List UInt8} (h : (flagF l).1 ≠ 0) : (flagF l).2.1 = false := by
  revert h
  unfold flagF
  split
  · intro _; rfl
  · split
    · intro _; rfl
    · intro h; exact absurd rfl h

section
variable {w0 : World} {P : Pl} {gb : Nat} {l : List UInt8} {w : World} {a : AA} {kv iv ev : Value}

theorem RC.state (h : RC w0 P gb (ansC a kv iv ev) l w) (hx : AnsX w P.gc a kv iv ev) (hsz : l.length ≤ 140737488355328) (K : World → Prop) (E : List PanicEntry → World → Prop)
    (hK : (rdS l 0 a).1 = 0 → ∀ w' kv', RC w0 P gb (ansC (rdS l 0 a).2.2 kv' iv ev) (rdS l 0 a).2.1 w' → AnsX w' P.gc (rdS l 0 a).2.2 kv' iv ev → K w') (hE : (rdS l 0 a).1 ≠ 0 → ∀ w', EI w0 P w' → E (thrown (rdS l 0 a).1) w') :
    StT (showsR P.g) P.gA w K E := by
  unfold StT
  have qf : flagF l = rdG l 0 := (rdG_0 l).symm
  have hl1 : (rdG l 0).2.2.length ≤ l.length := (rdG_suf l 0).length_le
  refine h.drew.flagA rfl ?_ ?_
  rotate_left
  · intro e1 w' k1
    have hn := flagF_no e1
    rw [qf] at e1 hn ⊢
    have z : (rdS l 0 a).1 = (rdG l 0).1 := by unfold rdS; rw [if_neg (by rw [hn]; decide)]
    rw [← z] at e1 ⊢
    exact hE e1 w' k1
  intro e1 w1 k1 t1
  rw [qf] at e1 k1 ⊢
  have x1 : AnsX w1 P.gc a kv iv ev := AnsX.tkr hx (show TKR 27 w w1 from t1)
  refine ⟨_, rfl, fun hy => ?_, fun hy => ?_⟩
  · rw [hy] at k1
    have q2 : bytesF (rdG l 0).2.2 300 = rdB (rdG l 0).2.2 (rdG l 0).1 300 := by rw [e1, rdB_0]
    have hS : rdS l 0 a = ((rdU (rdB (rdG l 0).2.2 (rdG l 0).1 300).2.2 (rdB (rdG l 0).2.2 (rdG l 0).1 300).1 2147483648).1, (rdU (rdB (rdG l 0).2.2 (rdG l 0).1 300).2.2 (rdB (rdG l 0).2.2 (rdG l 0).1 300).1 2147483648).2.2, { a with pr := true, key := (rdB (rdG l 0).2.2 (rdG l 0).1 300).2.1, si := (rdU (rdB (rdG l 0).2.2 (rdG l 0).1 300).2.2 (rdB (rdG l 0).2.2 (rdG l 0).1 300).1 2147483648).2.1 }) := if_pos hy
    rw [hS] at hK hE
    refine k1.drew.textA rfl (by omega) ?_ ?_
    rotate_left
    · intro e2 w' k2
      rw [q2] at e2 ⊢
      have z : (rdU (rdB (rdG l 0).2.2 (rdG l 0).1 300).2.2 (rdB (rdG l 0).2.2 (rdG l 0).1 300).1 2147483648).1 = (rdB (rdG l 0).2.2 (rdG l 0).1 300).1 := congrArg Prod.fst (rdU_st e2)
      rw [← z] at e2 ⊢
      exact hE e2 w' k2
    intro e2 w2 p2 c2 k2 n2 t2
    rw [q2] at e2 k2 n2
    have q3 : uintF (rdB (rdG l 0).2.2 (rdG l 0).1 300).2.2 2147483648 = rdU (rdB (rdG l 0).2.2 (rdG l 0).1 300).2.2 (rdB (rdG l 0).2.2 (rdG l 0).1 300).1 2147483648 := by rw [e2, rdU_0]
    refine k2.drew.numA rfl ?_ ?_
    rotate_left
    · intro e3 w' k3
      rw [q3] at e3 ⊢
      exact hE e3 w' k3
    intro e3 w3 k3 t3
    rw [q3] at e3 k3
    have t2' : TKR 27 w1 w2 := t2
    have t3' : TKR 27 w2 w3 := t3
    have x3 := x1.tkr (t2'.trans t3')
    exact hK e3 w3 _ k3 ⟨n2.tkr t3' (by decide) (by decide), x3.2.1, x3.2.2⟩
  · have hS : rdS l 0 a = ((rdG l 0).1, (rdG l 0).2.2, { a with pr := false }) := if_neg (by rw [hy]; decide)
    rw [hS] at hK
    rw [hy] at k1
    exact hK e1 w1 kv k1 x1
end

/-- What throughAnswer does with a reader. -/
def ThR (w0 : World) (P : Pl) (d : Int × List UInt8 × AA) (x : Ending) (w' : World) : Prop :=
  (d.1 = 0 ∧ x = .returned (.tuple #[]) ∧ ∃ gb kv iv ev, RC w0 P gb (ansC d.2.2 kv iv ev) d.2.1 w' ∧ AnsX w' P.gc d.2.2 kv iv ev) ∨ (d.1 ≠ 0 ∧ x = .panicked (thrown d.1) ∧ EI w0 P w')

theorem thrR_any (w0 : World) (P : Pl) (k : Int) (b : List UInt8) (w : World) (hR : RF 39 w P.g P.gc P.bv b 0) (hb : Below w0.heap.size w0 w) (hA : CB 27 w P.gA (ansC AA0 (.slice none 0 0) (.slice none 0 0) (.slice none 0 0))) (hE : CB 23 w P.gE #[.int .i64 0]) (hL : CB 22 w P.gL #[.slice none 0 0]) (hgc : w0.heap.size ≤ P.gc) (hgA : w0.heap.size ≤ P.gA) (hsz : b.length ≤ 140737488355328) :
    Calls Try.prog 15 #[.iface 42 (.pointer (some ⟨P.g, 0, none⟩)), .int .i64 k, .pointer (some ⟨P.gA, 0, none⟩)] w (ThR w0 P (rdA k b)) := by
  have hlt := hA.lt
  have b1 := (Below.refl w.heap.size w).alloc (Nat.le_refl _) (.cells #[.iface (showsR P.g).T (showsR P.g).v] 65)
  have h0 : RC w0 P w.heap.size (ansC AA0 (.slice none 0 0) (.slice none 0 0) (.slice none 0 0)) b (w.alloc (.cells #[.iface (showsR P.g).T (showsR P.g).v] 65)) := ⟨hR.later b1, hb.trans (b1.mono hb.size), hA.later b1, hE.later b1, hL.later b1, CB.made _ w _, hgc, hgA, rfl⟩
  have h1 : RC w0 P w.heap.size (ansC AA0 (.slice none 0 0) (.slice none 0 0) (.slice none 0 0)) b (codeW (showsR P.g) 0 w) := h0.later ((Below.refl _ _).alloc (Nat.le_refl _) _)
  have hs : (w.alloc (.cells #[.iface (showsR P.g).T (showsR P.g).v] 65)).heap.size = w.heap.size + 1 := World.size_alloc _ _
  have cC : CB 3 (codeW (showsR P.g) 0 w) (w.heap.size + 1) #[.int .i64 0] := by
    have := CB.made 3 (w.alloc (.cells #[.iface (showsR P.g).T (showsR P.g).v] 65)) #[.int .i64 0]
    rw [hs] at this
    exact this
  have q0 : uintF b 2147483648 = rdU b 0 2147483648 := (rdU_0 b _).symm
  have hl1 : (rdU b 0 2147483648).2.2.length ≤ b.length := (rdU_suf b 0 _).length_le
  have hEE : ∀ (ch : List PanicEntry) (w' : World), (fun (ch : List PanicEntry) (w' : World) => (rdA k b).1 ≠ 0 ∧ ch = thrown (rdA k b).1 ∧ EI w0 P w') ch w' → ThR w0 P (rdA k b) (.panicked ch) w' := by
    rintro ch w' ⟨h1, rfl, h3⟩
    exact .inr ⟨h1, rfl, h3⟩
  -- the code, and what follows it
  have hcode : ∀ (Z : World → Prop), ((rdA k b) = rdK k (rdU b 0 2147483648).2.2 0 AA0 → ∀ w1, RC w0 P w.heap.size (ansC AA0 (.slice none 0 0) (.slice none 0 0) (.slice none 0 0)) (rdU b 0 2147483648).2.2 w1 → Z w1) →
      ShN (showsR P.g) (w.heap.size + 1) 0 2147483648 (codeW (showsR P.g) 0 w) (Coded (showsR P.g) P.gA w.heap.size Z (fun w2 => ThR w0 P (rdA k b) (.returned (.tuple #[])) w2)) (fun ch w' => (rdA k b).1 ≠ 0 ∧ ch = thrown (rdA k b).1 ∧ EI w0 P w') := by
    intro Z hZ
    refine h1.num neI.2.2 cC rfl (by have := hb.size; omega) ?_ ?_
    rotate_left
    · intro e1 w' k1
      rw [q0] at e1 ⊢
      have z : rdA k b = _ := if_neg fun hh => e1 hh.1
      rw [z]
      exact ⟨e1, rfl, k1⟩
    intro e1 w1 k1 x1 t1
    rw [q0] at e1 k1 x1
    refine ⟨k1.bx, ((rdU b 0 2147483648).2.1 : Int), x1.cell rfl, ⟨_, k1.cell rfl⟩, k1.2.2.1.free 0, fun hn => ?_, fun hz => ?_⟩
    · have z : rdA k b = _ := if_neg fun hh => hn (by rw [hh.2]; rfl)
      rw [z]
      exact .inl ⟨e1, rfl, w.heap.size, _, _, _, k1.putA 0 (.int .i64 ((rdU b 0 2147483648).2.1 : Int)), AnsX.nil _ _⟩
    · have z : rdA k b = _ := if_pos ⟨e1, by omega⟩
      refine hZ z _ ?_
      rw [setCell_selfR k1.2.2.1 rfl]
      exact k1
  by_cases k1 : k = 1
  · subst k1
    refine thr1 (showsR P.g) P.gA 0 w _ _ hEE w.heap.size rfl hlt (hA.cell rfl) (hcode _ fun hz w2 h2 => ?_)
    rw [hz]
    have q1 : uintF (rdU b 0 2147483648).2.2 2147483648 = rdU (rdU b 0 2147483648).2.2 0 2147483648 := (rdU_0 _ _).symm
    have e : rdK 1 (rdU b 0 2147483648).2.2 0 AA0 = ((rdU (rdU b 0 2147483648).2.2 0 2147483648).1, (rdU (rdU b 0 2147483648).2.2 0 2147483648).2.2, { AA0 with ep := (rdU (rdU b 0 2147483648).2.2 0 2147483648).2.1 }) := rfl
    rw [e]
    refine h2.drew.numA rfl ?_ ?_
    rotate_left
    · intro e1 w' k1
      rw [q1] at e1 ⊢
      exact ⟨e1, rfl, k1⟩
    intro e1 w3 k3 t3
    rw [q1] at e1 k3
    exact .inl ⟨e1, rfl, _, _, _, _, k3, (AnsX.nil w2.drew P.gc).tkr t3⟩
  by_cases k3 : k = 3
  · subst k3
    refine thr3 (showsR P.g) P.gA 0 w _ _ hEE w.heap.size rfl hlt (hA.cell rfl) (hcode _ fun hz w2 h2 => ?_)
    rw [hz]
    have e : rdK 3 (rdU b 0 2147483648).2.2 0 AA0 = rdS (rdU b 0 2147483648).2.2 0 AA0 := rfl
    rw [e]
    refine h2.state (AnsX.nil _ _) (by omega) _ _ ?_ ?_
    · intro e1 w' kv' k4 x4
      exact .inl ⟨e1, rfl, _, _, _, _, k4, x4⟩
    · intro e1 w' k4
      exact ⟨e1, rfl, k4⟩
  by_cases k4 : k = 4
  · subst k4
    refine thr4 (showsR P.g) P.gA 0 w _ _ hEE w.heap.size rfl hlt (hA.cell rfl) (hcode _ fun hz w2 h2 => ?_)
    rw [hz]
    have q1 : uintF (rdU b 0 2147483648).2.2 2147483648 = rdU (rdU b 0 2147483648).2.2 0 2147483648 := (rdU_0 _ _).symm
    have e : rdK 4 (rdU b 0 2147483648).2.2 0 AA0 = rdS (rdU (rdU b 0 2147483648).2.2 0 2147483648).2.2 (rdU (rdU b 0 2147483648).2.2 0 2147483648).1 { AA0 with ep := (rdU (rdU b 0 2147483648).2.2 0 2147483648).2.1 } := rfl
    rw [e]
    have hl2 : (rdU (rdU b 0 2147483648).2.2 0 2147483648).2.2.length ≤ (rdU b 0 2147483648).2.2.length := (rdU_suf _ _ _).length_le
    refine h2.drew.numA rfl ?_ ?_
    rotate_left
    · intro e1 w' k1
      rw [q1] at e1 ⊢
      have z := rdS_st (l := (rdU (rdU b 0 2147483648).2.2 0 2147483648).2.2) { AA0 with ep := (rdU (rdU b 0 2147483648).2.2 0 2147483648).2.1 } e1
      rw [z]
      exact ⟨e1, rfl, k1⟩
    intro e1 w3 k3 t3
    rw [q1] at e1 k3
    rw [e1]
    refine ⟨k3.bx, ?_⟩
    refine RC.state (a := { AA0 with ep := (rdU (rdU b 0 2147483648).2.2 0 2147483648).2.1 }) k3 ((AnsX.nil w2.drew P.gc).tkr t3) (by omega) _ _ ?_ ?_
    · intro e1 w' kv' k4 x4
      exact .inl ⟨e1, rfl, _, _, _, _, k4, x4⟩
    · intro e1 w' k4
      exact ⟨e1, rfl, k4⟩
  by_cases k5 : k = 5
  · subst k5
    refine thr5 (showsR P.g) P.gA 0 w _ _ hEE w.heap.size rfl hlt (hA.cell rfl) (hcode _ fun hz w2 h2 => ?_)
    rw [hz]
    have q1 : flagF (rdU b 0 2147483648).2.2 = rdG (rdU b 0 2147483648).2.2 0 := (rdG_0 _).symm
    have e : rdK 5 (rdU b 0 2147483648).2.2 0 AA0 = rdS (rdG (rdU b 0 2147483648).2.2 0).2.2 (rdG (rdU b 0 2147483648).2.2 0).1 { AA0 with sa := (rdG (rdU b 0 2147483648).2.2 0).2.1 } := rfl
    rw [e]
    have hl2 : (rdG (rdU b 0 2147483648).2.2 0).2.2.length ≤ (rdU b 0 2147483648).2.2.length := (rdG_suf _ _).length_le
    refine h2.drew.flagA rfl ?_ ?_
    rotate_left
    · intro e1 w' k1
      rw [q1] at e1 ⊢
      have z := rdS_st (l := (rdG (rdU b 0 2147483648).2.2 0).2.2) { AA0 with sa := (rdG (rdU b 0 2147483648).2.2 0).2.1 } e1
      rw [z]
      exact ⟨e1, rfl, k1⟩
    intro e1 w3 k3 t3
    rw [q1] at e1 k3
    rw [e1]
    refine ⟨k3.bx, ?_⟩
    refine RC.state (a := { AA0 with sa := (rdG (rdU b 0 2147483648).2.2 0).2.1 }) k3 ((AnsX.nil w2.drew P.gc).tkr t3) (by omega) _ _ ?_ ?_
    · intro e1 w' kv' k4 x4
      exact .inl ⟨e1, rfl, _, _, _, _, k4, x4⟩
    · intro e1 w' k4
      exact ⟨e1, rfl, k4⟩
  -- a page of items
  have page : ∀ w2, RC w0 P w.heap.size (ansC AA0 (.slice none 0 0) (.slice none 0 0) (.slice none 0 0)) (rdU b 0 2147483648).2.2 w2 → rdA k b = rdD (rdU b 0 2147483648).2.2 0 AA0 →
      Then Try.prog 31 #[.iface (showsR P.g).T (showsR P.g).v, .pointer (some ⟨P.gA, 6, none⟩), .int .i64 32, .func (.func 32) #[] #[.pointer (some ⟨w.heap.size, 0, none⟩)]] w2.drew (fun _ w3 => BX (showsR P.g) w.heap.size w3 ∧ ShF (showsR P.g) P.gA 8 w3.drew (fun _ w4 => ThR w0 P (rdA k b) (.returned (.tuple #[])) w4) (fun ch w' => (rdA k b).1 ≠ 0 ∧ ch = thrown (rdA k b).1 ∧ EI w0 P w')) (fun ch w' => (rdA k b).1 ≠ 0 ∧ ch = thrown (rdA k b).1 ∧ EI w0 P w') := by
    intro w2 h2 hz
    rw [hz]
    refine h2.drew.listI rfl (by omega) _ _ ?_ ?_
    rotate_left
    · intro e1 w' k1
      rw [rdD_st AA0 e1]
      exact ⟨e1, rfl, k1⟩
    intro e1 w3 iv k3 i3
    refine ⟨k3.bx, ?_⟩
    have qf : flagF (rdDi (rdU b 0 2147483648).2.2 0).2.1 = rdG (rdDi (rdU b 0 2147483648).2.2 0).2.1 (rdDi (rdU b 0 2147483648).2.2 0).1 := by rw [e1, rdG_0]
    refine k3.drew.flagA rfl ?_ ?_
    rotate_left
    · intro e2 w' k4
      rw [qf] at e2 ⊢
      exact ⟨e2, rfl, k4⟩
    intro e2 w4 k4 t4
    rw [qf] at e2 k4
    have t4' : TKR 27 w3 w4 := t4
    exact .inl ⟨e2, rfl, _, _, _, _, k4, HBN.nil _ _, i3.tkr t4' (by decide) (by decide), .inl ⟨rfl, rfl⟩⟩
  by_cases k6 : k = 6
  · subst k6
    exact thr6 (showsR P.g) P.gA 0 w _ _ hEE w.heap.size rfl hlt (hA.cell rfl) (hcode _ fun hz w2 h2 => page w2 h2 (hz.trans rfl))
  by_cases k10 : k = 10
  · subst k10
    exact thr10 (showsR P.g) P.gA 0 w _ _ hEE w.heap.size rfl hlt (hA.cell rfl) (hcode _ fun hz w2 h2 => page w2 h2 (hz.trans rfl))
  by_cases k7 : k = 7
  · subst k7
    refine thr7 (showsR P.g) P.gA 0 w _ _ hEE w.heap.size rfl hlt (hA.cell rfl) (hcode _ fun hz w2 h2 => ?_)
    have e : rdK 7 (rdU b 0 2147483648).2.2 0 AA0 = rdFd (rdU b 0 2147483648).2.2 0 AA0 := rfl
    rw [hz, e]
    refine h2.drew.listE rfl (by omega) _ _ ?_ ?_
    rotate_left
    · intro e1 w' k1
      rw [rdFd_st AA0 e1]
      exact ⟨e1, rfl, k1⟩
    intro e1 w3 iv k3 i3
    refine ⟨k3.bx, ?_⟩
    have qf : flagF (rdFi (rdU b 0 2147483648).2.2 0).2.1 = rdFg (rdU b 0 2147483648).2.2 0 := by unfold rdFg; rw [e1, rdG_0]
    refine k3.drew.flagA rfl ?_ ?_
    rotate_left
    · intro e2 w' k4
      have hn := flagF_no e2
      rw [qf] at e2 hn ⊢
      have z : rdFd (rdU b 0 2147483648).2.2 0 AA0 = _ := if_neg (by rw [hn]; decide)
      rw [z]
      exact ⟨e2, rfl, k4⟩
    intro e2 w4 k4 t4
    rw [qf] at e2 k4 ⊢
    have t4' : TKR 27 w3 w4 := t4
    refine ⟨_, rfl, fun hy => ⟨k4.bx, ?_⟩, fun hy => ?_⟩
    · have z : rdFd (rdU b 0 2147483648).2.2 0 AA0 = _ := if_pos hy
      rw [z]
      have v1 : rdV1 (rdFg (rdU b 0 2147483648).2.2 0).2.2 0 = rdF1 (rdU b 0 2147483648).2.2 0 := by unfold rdF1; rw [e2]; rfl
      have v2 : rdV2 (rdFg (rdU b 0 2147483648).2.2 0).2.2 0 = rdF2 (rdU b 0 2147483648).2.2 0 := by unfold rdV2 rdF2; rw [v1]
      refine k4.drew.nums2A (by rw [k4.2.2.2.2.2.2.2.2]; decide) (by rw [k4.2.2.2.2.2.2.2.2]; decide) ?_ ?_ ?_
      rotate_left
      · intro e3 w' k5
        rw [v1] at e3 ⊢
        have z2 : (rdF2 (rdU b 0 2147483648).2.2 0).1 = (rdF1 (rdU b 0 2147483648).2.2 0).1 := by unfold rdF2; rw [rdU_st e3]
        rw [z2]
        exact ⟨e3, rfl, k5⟩
      · intro e3 w' k5
        rw [v2] at e3 ⊢
        exact ⟨e3, rfl, k5⟩
      intro e3 w5 k5 t5
      rw [v2] at e3
      rw [v1, v2, hy] at k5
      have t5' : TKR 27 w4 w5 := t5
      exact .inl ⟨e3, rfl, _, _, _, _, k5, HBN.nil _ _, .inl ⟨rfl, rfl⟩, i3.tkr (t4'.trans t5') (by decide) (by decide)⟩
    · have z : rdFd (rdU b 0 2147483648).2.2 0 AA0 = _ := if_neg (by rw [hy]; decide)
      rw [z]
      rw [hy] at k4
      exact .inl ⟨e2, rfl, _, _, _, _, k4, HBN.nil _ _, .inl ⟨rfl, rfl⟩, i3.tkr t4' (by decide) (by decide)⟩
  · refine thr0 (showsR P.g) P.gA 0 k (by omega) w _ _ hEE w.heap.size rfl hlt (hA.cell rfl) (hcode _ fun hz w2 h2 => ?_)
    have e : rdK k (rdU b 0 2147483648).2.2 0 AA0 = (0, (rdU b 0 2147483648).2.2, AA0) := by
      unfold rdK
      rw [if_neg k1, if_neg k3, if_neg k4, if_neg k5, if_neg (by omega), if_neg k7]
    rw [hz, e]
    exact .inl ⟨rfl, rfl, _, _, _, _, h2, AnsX.nil _ _⟩

end Go.Proofs.Ytldmbfemoepfkaa
