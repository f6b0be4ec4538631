/- What this text holds: plain facts (no program) on the cuts of a page. -/
import Derived.Test.YtggficgmjbgmpaaDoorJIn
namespace Go.Proofs.YtggficgmjbgmpaaDoor

/-- The cuts, each with its epoch's place: from the fr-th change of the first of the counts on, lf of them. -/
def cutsG : Nat → List Int → Int → Int → List (Nat × Int × Int)
  | _, [], _, _ => []
  | k, c :: cs, fr, lf => if lf < 1 ∨ fr < 0 ∨ c ≤ fr then [] else (k, fr, fr + min lf (c - fr)) :: cutsG (k + 1) cs 0 (lf - min lf (c - fr))

theorem cutsG_stop (k : Nat) (c : Int) (cs : List Int) (fr lf : Int) (h : lf < 1 ∨ fr < 0 ∨ c ≤ fr) : cutsG k (c :: cs) fr lf = [] := by rw [cutsG, if_pos h]
theorem cutsG_go (k : Nat) (c : Int) (cs : List Int) (fr lf : Int) (h : ¬ (lf < 1 ∨ fr < 0 ∨ c ≤ fr)) : cutsG k (c :: cs) fr lf = (k, fr, fr + min lf (c - fr)) :: cutsG (k + 1) cs 0 (lf - min lf (c - fr)) := by rw [cutsG, if_neg h]

theorem cutsG_len : ∀ (T : List Int) (k : Nat) (fr lf : Int), (cutsG k T fr lf).length ≤ T.length := by
  intro T
  induction T with
  | nil => intro k fr lf; simp [cutsG]
  | cons c cs ih =>
    intro k fr lf
    rw [cutsG]
    split
    · simp
    · have := ih (k + 1) 0 (lf - min lf (c - fr))
      simp
      omega

theorem drop_cons {α : Type} {T : List α} {k : Nat} {c : α} (h : T[k]? = some c) : T.drop k = c :: T.drop (k + 1) := by
  obtain ⟨hk, e⟩ := List.getElem?_eq_some_iff.1 h
  rw [List.drop_eq_getElem_cons hk, e]

/-- The next cut of a page. -/
theorem cutsG_next {X : List (Nat × Int × Int)} {T : List Int} {k : Nat} {fr lf : Int} {x : Nat × Int × Int} (h : X.drop k = cutsG k (T.drop k) fr lf) (hx : X[k]? = some x) :
    0 ≤ fr ∧ x.2.1 = fr ∧ fr < x.2.2 ∧ x.2.2 - fr ≤ lf ∧ X.drop (k + 1) = cutsG (k + 1) (T.drop (k + 1)) 0 (lf - (x.2.2 - fr)) := by
  rw [drop_cons hx] at h
  cases hT : T.drop k with
  | nil => rw [hT] at h; simp [cutsG] at h
  | cons c cs =>
    rw [hT] at h
    by_cases hs : lf < 1 ∨ fr < 0 ∨ c ≤ fr
    · rw [cutsG_stop _ _ _ _ _ hs] at h
      cases h
    · rw [cutsG_go _ _ _ _ _ hs] at h
      simp only [List.cons.injEq] at h
      obtain ⟨rfl, h2⟩ := h
      have e : T.drop (k + 1) = cs := by
        rw [← List.tail_drop, hT]
        rfl
      rw [e, h2]
      refine ⟨by omega, rfl, ?_, ?_, ?_⟩
      · simp only
        omega
      · simp only
        omega
      · simp only
        congr 1
        omega

/-- A page's end. -/
theorem cutsG_last {X : List (Nat × Int × Int)} {T : List Int} {fr lf : Int} (h : X.drop X.length = cutsG X.length (T.drop X.length) fr lf) (hl : X.length ≤ T.length) :
    X.length = T.length ∨ ∃ c, T[X.length]? = some c ∧ (lf < 1 ∨ fr < 0 ∨ c ≤ fr) := by
  rcases Nat.lt_or_ge X.length T.length with h1 | h1
  · right
    obtain ⟨c, hc⟩ : ∃ c, T[X.length]? = some c := ⟨_, List.getElem?_eq_getElem h1⟩
    refine ⟨c, hc, ?_⟩
    rw [drop_cons hc, List.drop_length] at h
    apply Classical.byContradiction
    intro hs
    rw [cutsG_go _ _ _ _ _ hs] at h
    cases h
  · left
    omega

end Go.Proofs.YtggficgmjbgmpaaDoor
