/- What this text holds: a made list of rows of bytes that is filled from its end (plain facts); bytes that stay while a block of another type is written. -/
import Derived.Test.YtahfjemllkbpgaaGreatDoorJS1
import Derived.Test.YtahfjemllkbpgaaGreatDoorJB2
import Derived.Test.YtahfjemllkbpgaaGreatDoorJP1
namespace Go.Proofs.YtahfjemllkbpgaaGreatDoor
open Go.RowKit

/-- A made list of N rows of bytes that the call owns, those from k on told. -/
def RT (w : World) (base g N k : Nat) (sig : Nat → List UInt8) : Prop :=
  ∃ vs : List Value, w.ownsRow base 22 1 (.slice (some ⟨g, 0, none⟩) N N) N vs ∧ ∀ (j : Nat) u, k ≤ j → vs[j]? = some u → HB w u (sig j) ∧ TB w u

theorem RT.later {w w' : World} {base g N k : Nat} {sig : Nat → List UInt8} (h : RT w base g N k sig) (hb : Below w.heap.size w w') : RT w' base g N k sig := by
  obtain ⟨vs, h1, h3⟩ := h
  exact ⟨vs, owns_later h1 hb, fun j u hj hu => ⟨(h3 j u hj hu).1.later hb, (h3 j u hj hu).2.later hb⟩⟩

theorem RT.rq {w : World} {base g N : Nat} {sig : Nat → List UInt8} (h : RT w base g N 0 sig) : RQ w base g N N sig := by
  obtain ⟨vs, h1, h3⟩ := h
  exact ⟨vs, h1, fun j u _ hu => h3 j u (Nat.zero_le _) hu⟩

theorem RT.cell {w : World} {base g N k : Nat} {sig : Nat → List UInt8} (h : RT w base g N k sig) (i : Nat) (hi : i < N) : ∃ y, w.cell? ⟨g, i, none⟩ = some y ∧ w.frozen? ⟨g, i, none⟩ = false := by
  obtain ⟨vs, q1, _⟩ := h
  have hl := q1.1
  rw [Nat.mul_one] at hl
  have hc := q1.cellAt i (by omega)
  rw [List.getElem?_eq_getElem (by omega)] at hc
  exact ⟨_, hc, q1.frozenAt i⟩

theorem RT.get {w : World} {base g N k : Nat} {sig : Nat → List UInt8} (h : RT w base g N k sig) (i : Nat) (hi : i < N) (hk : k ≤ i) : ∃ p c, w.cell? ⟨g, i, none⟩ = some (.slice p (sig i).length c) ∧ HB w (.slice p (sig i).length c) (sig i) := by
  obtain ⟨vs, q1, q2⟩ := h
  have hl := q1.1
  rw [Nat.mul_one] at hl
  have hc := q1.cellAt i (by omega)
  have hv : vs[i]? = some vs[i] := List.getElem?_eq_getElem (by omega)
  rw [hv] at hc
  have hb := (q2 i _ hk hv).1
  obtain ⟨p, c, e⟩ := hb.shape
  exact ⟨p, c, by rw [hc, e], by rw [← e]; exact hb⟩

theorem RT.put {w : World} {base g N k : Nat} {sig : Nat → List UInt8} (h : RT w base g N (k + 1) sig) (x : Value) (hx : HB w x (sig k)) (tx : TB w x) : RT (w.setCell ⟨g, k, none⟩ x) base g N k sig := by
  obtain ⟨vs, h1, h3⟩ := h
  obtain ⟨q1, q2⟩ := h1.stored k x
  refine ⟨vs.set k x, q1, fun j u hj hu => ?_⟩
  by_cases hjk : k = j
  · subst hjk
    rw [List.getElem?_set_self'] at hu
    cases hv : vs[k]? with
    | none => rw [hv] at hu; simp at hu
    | some y =>
      rw [hv] at hu
      simp at hu
      subst hu
      exact hb_grown h1 q2 hx tx
  · rw [List.getElem?_set_ne hjk] at hu
    obtain ⟨a, b⟩ := h3 j u (by omega) hu
    exact hb_grown h1 q2 a b

theorem HB.aside {w w' : World} {g : Nat} {v : Value} {l : List UInt8} {cs : Array Value} {t : TypeId} {fr : Nat × Nat} (h : HB w v l) (ht : TB w v) (hg : w.heap[g]? = some (.cells cs t fr)) (hne : t ≠ 5) (ho : Only g w w') : HB w' v l := by
  obtain ⟨p, cap, e, h1, h2, h3, h4⟩ := h
  refine ⟨p, cap, e, h1, h2, h3, fun hn => ?_⟩
  obtain ⟨b, o, e1, e2⟩ := h4 hn
  refine ⟨b, o, e1, fun i x hx => ?_⟩
  have hc := e2 i x hx
  have hb : b ≠ g := by
    rintro rfl
    obtain ⟨cur, fr', hcur⟩ := ht b o l.length cap (by rw [e, e1])
    rw [hg] at hcur
    simp only [Option.some.injEq, Obj.cells.injEq] at hcur
    exact hne hcur.2.1
  rw [World.cell?_of_block (w := w) (ho.block b hb (cell_lt hc))]
  exact hc

theorem upW_last (size : Int) (row : List UInt8) (x : Pt) (hs : List Hp) : (upW size row x hs).getD hs.length [] = endT x := by
  induction hs with
  | nil => rfl
  | cons h t ih => simpa [upW] using ih

theorem upW_drop (size : Int) (row : List UInt8) (x : Pt) : ∀ (hs : List Hp) (k : Nat), (upW size row x hs).getD k [] = if k ≤ hs.length then (upW size row x (hs.drop k)).headD [] else [] := by
  intro hs
  induction hs with
  | nil =>
    intro k
    cases k with
    | zero => rfl
    | succ k => simp [upW]
  | cons h t ih =>
    intro k
    cases k with
    | zero => simp [upW]
    | succ k =>
      have := ih k
      simp only [upW, List.getD_cons_succ, List.drop_succ_cons, List.length_cons]
      rw [this]
      simp

theorem upW_at (size : Int) (row : List UInt8) (x : Pt) (hs : List Hp) (k : Nat) (h : Hp) (hx : hs[k]? = some h) : (upW size row x hs).getD k [] = hopT row h (cutT size ((upW size row x hs).getD (k + 1) [])) := by
  have hk : k < hs.length := (List.getElem?_eq_some_iff.1 hx).1
  rw [upW_drop, upW_drop, if_pos (by omega), if_pos (by omega), List.drop_eq_getElem_cons hk]
  have := (List.getElem?_eq_some_iff.1 hx).2
  rw [this]
  rfl

/-- Each hop of a way that may be. -/
theorem downF_hops {size : Int} {row : List UInt8} : ∀ (hs : List Hp) (s s' : Int), 0 ≤ s → downF size row hs s = some s' → ∀ h ∈ hs, 0 ≤ h.d ∧ h.d < 8 * (row.length : Int) ∧ (h.s.length : Int) = size := by
  intro hs
  induction hs with
  | nil => intro s s' _ _ h hh; cases hh
  | cons g t ih =>
    intro s s' h0 hd h hh
    obtain ⟨a, b, c, d, e⟩ := downF_cons hd
    rcases List.mem_cons.1 hh with rfl | hm
    · exact ⟨by omega, b, d⟩
    · exact ih _ _ (by omega) e h hm

theorem chkW_facts {size : Int} {id : List UInt8} {hs : List Hp} {x : Pt} (h : chkW size id hs x = true) :
    1 ≤ size ∧ size ≤ 32 ∧ (∀ g ∈ hs, 0 ≤ g.d ∧ g.d ≤ 2048 ∧ (g.s.length : Int) = size) ∧ (x.k = 0 ∨ (x.k = 1 ∧ x.id.length ≤ 255 ∧ x.key.length ≤ 48 ∧ 0 ≤ x.si ∧ x.si ≤ 255) ∨ (x.k = 2 ∧ 0 ≤ x.d ∧ x.d ≤ 2048 ∧ x.pre.length ≤ 256 ∧ (x.l.length : Int) = size ∧ (x.r.length : Int) = size)) := by
  unfold chkW wayB at h
  simp only [Bool.and_eq_true, decide_eq_true_eq] at h
  obtain ⟨h1, h2, h3, h4⟩ := h
  have hl := keyF_le id
  split at h4
  · cases h4
  · rename_i s' hd
    refine ⟨h1, h2, fun g hg => ?_, ?_⟩
    · obtain ⟨a, b, c⟩ := downF_hops hs 0 s' (by omega) hd g hg
      exact ⟨a, by omega, c⟩
    · rcases end_cases h4 with ⟨e, _⟩ | ⟨e, _, a⟩ | ⟨e, _, a, b, c, _, d, f, _⟩
      · exact Or.inl e
      · exact Or.inr (Or.inl ⟨e, a⟩)
      · exact Or.inr (Or.inr ⟨e, a, b, by omega, d, f⟩)

/-- What is within a part that has just what its kind has. -/
theorem shaped_le {size : Int} {x : Pt} (h : shapedB size x = true) (hz : size ≤ 32) : x.id.length ≤ 255 ∧ x.key.length ≤ 48 ∧ x.pre.length ≤ 257 ∧ x.l.length ≤ 32 ∧ x.r.length ≤ 32 ∧ 0 ≤ x.d ∧ x.d ≤ 2048 := by
  unfold shapedB noLeafB noForkB isLeafB isForkB at h
  split at h
  · simp only [Bool.and_eq_true, decide_eq_true_eq] at h
    obtain ⟨⟨a1, a2, a3⟩, ⟨b1, b2, b3⟩, c1, c2⟩ := h
    omega
  · split at h
    · simp only [Bool.and_eq_true, decide_eq_true_eq] at h
      obtain ⟨⟨a1, a2, a3⟩, ⟨b1, b2, b3⟩, c1, c2⟩ := h
      omega
    · split at h
      · simp only [Bool.and_eq_true, decide_eq_true_eq] at h
        obtain ⟨⟨a1, a2, a3⟩, ⟨b1, b2, b3, b4, b5⟩, c1, c2, c3⟩ := h
        omega
      · split at h
        · simp only [Bool.and_eq_true, decide_eq_true_eq] at h
          obtain ⟨⟨a1, a2, a3⟩, ⟨b1, b2, b3, b4, b5⟩, c1, c2⟩ := h
          omega
        · cases h

theorem chkW_shaped {size : Int} {id : List UInt8} {hs : List Hp} {x : Pt} (h : chkW size id hs x = true) : shapedB size x = true := by
  unfold chkW wayB at h
  simp only [Bool.and_eq_true, decide_eq_true_eq] at h
  obtain ⟨h1, h2, h3, h4⟩ := h
  split at h4
  · cases h4
  · unfold endsB at h4
    rw [Bool.and_eq_true] at h4
    exact h4.1

end Go.Proofs.YtahfjemllkbpgaaGreatDoor
