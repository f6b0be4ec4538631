/- What this text holds: plain facts: two lists of looks that both are taken of one head are one, or part first in two unlike records with one hash. -/
import Derived.Test.YtpndpmkoegmbkaaDoorJEd
namespace Go.Proofs.YtpndpmkoegmbkaaDoor
open Go.RowKit

/-- Two ways that are followed are one, or part first in two records with one hash. -/
theorem folP_first (size : Int) : ∀ (eps : List Nat) (one other : List Rc) (last r s : Rc), folP size last one eps = some r → folP size last other eps = some s → one = other ∨ ∃ (i : Nat) (x y : Rc), one[i]? = some x ∧ other[i]? = some y ∧ x ≠ y ∧ hshF size x = hshF size y ∧ ∀ j, j < i → one[j]? = other[j]? := by
  intro eps
  induction eps with
  | nil =>
    intro one other last r s h1 h2
    cases one with
    | cons _ _ => cases h1
    | nil =>
      cases other with
      | cons _ _ => cases h2
      | nil => exact .inl rfl
  | cons ep eps ih =>
    intro one other last r s h1 h2
    cases one with
    | nil => cases h1
    | cons x one =>
      cases other with
      | nil => cases h2
      | cons y other =>
        simp only [folP] at h1 h2
        split at h1
        case isFalse => cases h1
        case isTrue hx =>
          split at h2
          case isFalse => cases h2
          case isTrue hy =>
            by_cases hxy : x = y
            · subst hxy
              rcases ih one other x r s h1 h2 with h | ⟨i, a, b, q1, q2, q3, q4, q5⟩
              · exact .inl (by rw [h])
              · refine .inr ⟨i + 1, a, b, by simpa using q1, by simpa using q2, q3, q4, fun j hj => ?_⟩
                cases j with
                | zero => rfl
                | succ j => simpa using q5 j (by omega)
            · refine .inr ⟨0, x, y, rfl, rfl, hxy, ?_, fun j hj => absurd hj (by omega)⟩
              obtain ⟨hx1, hx2⟩ := hx
              obtain ⟨hy1, hy2⟩ := hy
              unfold lkB lkI at hx2 hy2
              simp only [Bool.and_eq_true, decide_eq_true_eq] at hx2 hy2
              have e : x.e = y.e := hx1.trans hy1.symm
              rw [e] at hx2
              have := hx2.2.symm.trans hy2.2
              simpa using this

theorem folR_first {size : Int} {hd r s : Rc} {O P : List Rc} {to : Int} (h1 : folR size hd O to = some r) (h2 : folR size hd P to = some s) : O = P ∨ ∃ (i : Nat) (x y : Rc), O[i]? = some x ∧ P[i]? = some y ∧ x ≠ y ∧ hshF size x = hshF size y ∧ ∀ j, j < i → O[j]? = P[j]? := by
  unfold folR at h1 h2
  split at h1
  · rename_i hc
    rw [if_pos hc] at h2
    exact folP_first size _ O P hd r s h1 h2
  · cases h1

/-- The first two records in which two lists of ways part have one hash. -/
def FDif (size : Int) (A B : List (List Rc)) : Prop :=
  ∃ (i k : Nat) (x y : Rc) (a b : List Rc), A[i]? = some a ∧ B[i]? = some b ∧ a[k]? = some x ∧ b[k]? = some y ∧ x ≠ y ∧ hshF size x = hshF size y ∧ (∀ j, j < i → A[j]? = B[j]?) ∧ (∀ j, j < k → a[j]? = b[j]?)

/-- One look at both. -/
theorem look_two {size t : Int} {hd : Rc} {A B : List (List Rc)} {l : List Nat} {m : Nat} (hp : ∀ j, j < l.length → A[j]? = B[j]?) (hA : (gC size hd A t l m).2 = true) (hB : (gC size hd B t l m).2 = true) : FDif size A B ∨ (gC size hd A t l m = gC size hd B t l m ∧ ∀ j, j < l.length + 1 → A[j]? = B[j]?) := by
  cases hx : A[l.length]? with
  | none => simp only [gC, hx] at hA; cases hA
  | some a =>
    cases hy : B[l.length]? with
    | none => simp only [gC, hy] at hB; cases hB
    | some b =>
      simp only [gC, hx] at hA
      simp only [gC, hy] at hB
      obtain ⟨r, hr⟩ := Option.isSome_iff_exists.1 hA
      obtain ⟨s, hs⟩ := Option.isSome_iff_exists.1 hB
      rcases folR_first hr hs with rfl | ⟨k, x, y, q1, q2, q3, q4, q5⟩
      · refine .inr ⟨?_, fun j hj => ?_⟩
        · simp only [gC, hx, hy]
        · rcases Nat.lt_or_ge j l.length with h | h
          · exact hp j h
          · obtain rfl : j = l.length := by omega
            rw [hx, hy]
      · exact .inl ⟨l.length, k, x, y, a, b, hx, hy, q1, q2, q3, q4, hp, q5⟩

theorem get_none_of_le {A : List (List Rc)} {j n : Nat} (h : A.length ≤ n) (hj : n ≤ j) : A[j]? = none := List.getElem?_eq_none (by omega)

theorem srch_two (size t : Int) (hd : Rc) (A B : List (List Rc)) : ∀ (n : Nat) (l : List Nat) (lo hi : Nat), hi - lo ≤ n → (∀ j, j < l.length → A[j]? = B[j]?) →
    (srchI (gC size hd A t) l lo hi).2.isSome = true → (srchI (gC size hd B t) l lo hi).2.isSome = true → A.length ≤ (srchI (gC size hd A t) l lo hi).1.length → B.length ≤ (srchI (gC size hd B t) l lo hi).1.length → FDif size A B ∨ A = B := by
  intro n
  induction n with
  | zero =>
    intro l lo hi hn hp h1 h2 h3 h4
    rw [srchI_end _ _ _ _ (by omega)] at h3 h4
    refine .inr (List.ext_getElem? fun j => ?_)
    rcases Nat.lt_or_ge j l.length with h | h
    · exact hp j h
    · rw [get_none_of_le h3 h, get_none_of_le h4 h]
  | succ n ih =>
    intro l lo hi hn hp h1 h2 h3 h4
    by_cases hlt : lo < hi
    · obtain ⟨m, hm⟩ : ∃ m, m = (lo + hi + 1) / 2 := ⟨_, rfl⟩
      cases hA : (gC size hd A t l m).2 with
      | false => rw [srchI_stop _ _ _ _ m hlt hm hA] at h1; cases h1
      | true =>
        cases hB : (gC size hd B t l m).2 with
        | false => rw [srchI_stop _ _ _ _ m hlt hm hB] at h2; cases h2
        | true =>
          rcases look_two hp hA hB with h | ⟨he, hp2⟩
          · exact .inl h
          · have hl : (l ++ [m]).length = l.length + 1 := by simp
            cases hf : (gC size hd A t l m).1 with
            | true =>
              have hf2 : (gC size hd B t l m).1 = true := by rw [← he]; exact hf
              rw [srchI_yes _ _ _ _ m hlt hm hf hA] at h1 h3
              rw [srchI_yes _ _ _ _ m hlt hm hf2 hB] at h2 h4
              exact ih _ _ _ (by omega) (by rw [hl]; exact hp2) h1 h2 h3 h4
            | false =>
              have hf2 : (gC size hd B t l m).1 = false := by rw [← he]; exact hf
              rw [srchI_no _ _ _ _ m hlt hm hf hA] at h1 h3
              rw [srchI_no _ _ _ _ m hlt hm hf2 hB] at h2 h4
              exact ih _ _ _ (by omega) (by rw [hl]; exact hp2) h1 h2 h3 h4
    · rw [srchI_end _ _ _ _ hlt] at h3 h4
      refine .inr (List.ext_getElem? fun j => ?_)
      rcases Nat.lt_or_ge j l.length with h | h
      · exact hp j h
      · rw [get_none_of_le h3 h, get_none_of_le h4 h]

theorem chk_two {size t : Int} {hd r s : Rc} {A B : List (List Rc)} (h1 : chkR size hd A t = some r) (h2 : chkR size hd B t = some s) : FDif size A B ∨ r = s := by
  unfold chkR at h1 h2
  split at h1
  case isFalse => cases h1
  case isTrue q1 =>
    split at h2
    case isFalse => cases h2
    case isTrue q2 =>
      have fin : FDif size A B ∨ A = B := by
        obtain ⟨_, a1, a2⟩ := q1
        obtain ⟨_, b1, b2⟩ := q2
        unfold srchA at a1 a2 b1 b2
        by_cases c1 : (gC size hd A t [] 0).2 = true ∧ (gC size hd A t [] 0).1 = true
        · by_cases c2 : (gC size hd B t [] 0).2 = true ∧ (gC size hd B t [] 0).1 = true
          · rw [if_pos c1] at a1 a2
            rw [if_pos c2] at b1 b2
            rcases look_two (l := []) (fun j hj => absurd hj (by simp)) c1.1 c2.1 with h | ⟨_, hp⟩
            · exact .inl h
            · exact srch_two size t hd A B _ [0] 0 _ (Nat.le_refl _) hp a1 b1 a2 b2
          · rw [if_neg c2] at b1
            cases b1
        · rw [if_neg c1] at a1
          cases a1
      rcases fin with h | rfl
      · exact .inl h
      · simp only [Option.some.injEq] at h1 h2
        exact .inr (h1.symm.trans h2)

/-- The first two records in which two lists of ways part stand at i0, k0. -/
def FDat (size : Int) (A B : List (List Rc)) (i0 k0 : Nat) : Prop :=
  ∃ (x y : Rc) (a b : List Rc), A[i0]? = some a ∧ B[i0]? = some b ∧ a[k0]? = some x ∧ b[k0]? = some y ∧ x ≠ y ∧ hshF size x = hshF size y ∧ (∀ j, j < i0 → A[j]? = B[j]?) ∧ (∀ j, j < k0 → a[j]? = b[j]?)

theorem fd_at {size : Int} {A B : List (List Rc)} (h : FDif size A B) : ∃ i0 k0, FDat size A B i0 k0 := by
  obtain ⟨i, k, x, y, a, b, q⟩ := h
  exact ⟨i, k, x, y, a, b, q⟩

theorem fd_lt {size : Int} {A B : List (List Rc)} {i0 k0 : Nat} (h : FDat size A B i0 k0) : i0 < A.length ∧ i0 < B.length := by
  obtain ⟨x, y, a, b, q1, q2, _⟩ := h
  exact ⟨(List.getElem?_eq_some_iff.1 q1).1, (List.getElem?_eq_some_iff.1 q2).1⟩

theorem fd_pair {size : Int} {A B : List (List Rc)} {i0 k0 i k : Nat} {a b : List Rc} {x y : Rc} (h : FDat size A B i0 k0) (hi : i ≤ i0) (hk : i = i0 → k ≤ k0) (ha : A[i]? = some a) (hb : B[i]? = some b) (hx : a[k]? = some x) (hy : b[k]? = some y) : (x = y → i = i0 → k + 1 ≤ k0) ∧ (x ≠ y → hshF size x = hshF size y) := by
  obtain ⟨x0, y0, a0, b0, q1, q2, q3, q4, q5, q6, q7, q8⟩ := h
  rcases Nat.lt_or_ge i i0 with hlt | hge
  · have e := q7 i hlt
    rw [ha, hb] at e
    cases e
    rw [hx] at hy
    cases hy
    exact ⟨fun _ h => absurd h (by omega), fun h => absurd rfl h⟩
  · obtain rfl : i = i0 := by omega
    rw [ha] at q1
    rw [hb] at q2
    cases q1
    cases q2
    rcases Nat.lt_or_ge k k0 with h2 | h2
    · have e := q8 k h2
      rw [hx, hy] at e
      cases e
      exact ⟨fun _ _ => by omega, fun h => absurd rfl h⟩
    · obtain rfl : k = k0 := by have := hk rfl; omega
      rw [hx] at q3
      rw [hy] at q4
      cases q3
      cases q4
      exact ⟨fun h => absurd h q5, fun _ => q6⟩

theorem fd_end {size : Int} {A B : List (List Rc)} {i0 k0 i k : Nat} {a b : List Rc} (h : FDat size A B i0 k0) (hi : i ≤ i0) (hk : i = i0 → k ≤ k0) (ha : A[i]? = some a) (hb : B[i]? = some b) (hx : ¬ (k < a.length ∧ k < b.length)) : i + 1 ≤ i0 := by
  obtain ⟨x0, y0, a0, b0, q1, q2, q3, q4, q5, q6, q7, q8⟩ := h
  rcases Nat.lt_or_ge i i0 with hlt | hge
  · omega
  · obtain rfl : i = i0 := by omega
    rw [ha] at q1
    rw [hb] at q2
    cases q1
    cases q2
    have e1 := (List.getElem?_eq_some_iff.1 q3).1
    have e2 := (List.getElem?_eq_some_iff.1 q4).1
    have := hk rfl
    exact absurd ⟨by omega, by omega⟩ hx

end Go.Proofs.YtpndpmkoegmbkaaDoor
