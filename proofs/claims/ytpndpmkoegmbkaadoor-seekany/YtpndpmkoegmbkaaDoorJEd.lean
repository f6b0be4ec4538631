/- What this text holds: plain facts (no program) on the looks for a time. What this text holds: a slice of ways in memory; what looks of ways from a head find, plainly. -/
import Derived.Test.YtpndpmkoegmbkaaDoorFacts
import Derived.Test.YtpndpmkoegmbkaaDoorJFf
namespace Go.Proofs.YtpndpmkoegmbkaaDoor

/-- The looks from lo to hi: g tells, of the looks so far and of an epoch, whether it fits and whether that can be told. -/
def srch (g : List Nat → Nat → Bool × Bool) : Nat → List Nat → Nat → Nat → List Nat × Option Nat
  | 0, l, lo, _ => (l, some lo)
  | n + 1, l, lo, hi =>
    if lo < hi then
      if (g l ((lo + hi + 1) / 2)).2 then
        if (g l ((lo + hi + 1) / 2)).1 then srch g n (l ++ [(lo + hi + 1) / 2]) ((lo + hi + 1) / 2) hi else srch g n (l ++ [(lo + hi + 1) / 2]) lo ((lo + hi + 1) / 2 - 1)
      else (l ++ [(lo + hi + 1) / 2], none)
    else (l, some lo)

theorem srch_end (g : List Nat → Nat → Bool × Bool) (n : Nat) (l : List Nat) (lo hi : Nat) (h : ¬ lo < hi) : srch g n l lo hi = (l, some lo) := by
  cases n with
  | zero => rfl
  | succ n => rw [srch, if_neg h]

theorem srch_fuel (g : List Nat → Nat → Bool × Bool) : ∀ (n m : Nat) (l : List Nat) (lo hi : Nat), hi - lo ≤ n → hi - lo ≤ m → srch g n l lo hi = srch g m l lo hi := by
  intro n
  induction n with
  | zero =>
    intro m l lo hi h1 h2
    rw [srch_end g m l lo hi (by omega)]
    rfl
  | succ n ih =>
    intro m l lo hi h1 h2
    by_cases hlt : lo < hi
    · obtain ⟨m, rfl⟩ : ∃ k, m = k + 1 := ⟨m - 1, by omega⟩
      rw [srch, srch, if_pos hlt, if_pos hlt, ih m _ ((lo + hi + 1) / 2) hi (by omega) (by omega), ih m _ lo ((lo + hi + 1) / 2 - 1) (by omega) (by omega)]
    · rw [srch_end g _ l lo hi hlt, srch_end g _ l lo hi hlt]

/-- The looks from lo to hi. -/
def srchI (g : List Nat → Nat → Bool × Bool) (l : List Nat) (lo hi : Nat) : List Nat × Option Nat := srch g (hi - lo) l lo hi

theorem srchI_end (g : List Nat → Nat → Bool × Bool) (l : List Nat) (lo hi : Nat) (h : ¬ lo < hi) : srchI g l lo hi = (l, some lo) := srch_end g _ l lo hi h

theorem srchI_yes (g : List Nat → Nat → Bool × Bool) (l : List Nat) (lo hi m : Nat) (h : lo < hi) (hm : m = (lo + hi + 1) / 2) (h1 : (g l m).1 = true) (h2 : (g l m).2 = true) : srchI g l lo hi = srchI g (l ++ [m]) m hi := by
  unfold srchI
  obtain ⟨n, hn⟩ : ∃ n, hi - lo = n + 1 := ⟨hi - lo - 1, by omega⟩
  rw [hn, srch, if_pos h, ← hm, if_pos h2, if_pos h1]
  exact srch_fuel g _ _ _ _ _ (by omega) (by omega)

theorem srchI_no (g : List Nat → Nat → Bool × Bool) (l : List Nat) (lo hi m : Nat) (h : lo < hi) (hm : m = (lo + hi + 1) / 2) (h1 : (g l m).1 = false) (h2 : (g l m).2 = true) : srchI g l lo hi = srchI g (l ++ [m]) lo (m - 1) := by
  unfold srchI
  obtain ⟨n, hn⟩ : ∃ n, hi - lo = n + 1 := ⟨hi - lo - 1, by omega⟩
  rw [hn, srch, if_pos h, ← hm, if_pos h2, if_neg (by simp [h1])]
  exact srch_fuel g _ _ _ _ _ (by omega) (by omega)

theorem srchI_stop (g : List Nat → Nat → Bool × Bool) (l : List Nat) (lo hi m : Nat) (h : lo < hi) (hm : m = (lo + hi + 1) / 2) (h2 : (g l m).2 = false) : srchI g l lo hi = (l ++ [m], none) := by
  unfold srchI
  obtain ⟨n, hn⟩ : ∃ n, hi - lo = n + 1 := ⟨hi - lo - 1, by omega⟩
  rw [hn, srch, if_pos h, ← hm, if_neg (by simp [h2])]

/-- All looks, the one at epoch 0 ahead. -/
def srchA (g : List Nat → Nat → Bool × Bool) (last : Nat) : List Nat × Option Nat := if (g [] 0).2 = true ∧ (g [] 0).1 = true then srchI g [0] 0 last else ([0], none)

/-- Whether an epoch's time is not above t. -/
def fitT (T : List Int) (t : Int) (_ : List Nat) (m : Nat) : Bool × Bool := (decide (T.getD m 0 ≤ t), true)

/-- The epochs that are looked at for t among the times T, and the one that is found. -/
def lookF (T : List Int) (t : Int) : List Nat × Option Nat := if T = [] then ([], none) else srchA (fitT T t) (T.length - 1)
def foundZ (T : List Int) (t : Int) : Int := match (lookF T t).2 with | some n => (n : Int) | none => -1

/-- The last one of the looks that fits, or 0. -/
def lastFit (T : List Int) (t : Int) (l : List Nat) : Nat := l.foldl (fun low m => if T.getD m 0 ≤ t then m else low) 0

theorem lastFit_snoc (T : List Int) (t : Int) (l : List Nat) (m : Nat) : lastFit T t (l ++ [m]) = if T.getD m 0 ≤ t then m else lastFit T t l := by
  simp [lastFit]

theorem fit_found (T : List Int) (t : Int) : ∀ (k : Nat) (l : List Nat) (lo hi : Nat), hi - lo ≤ k → lastFit T t l = lo → ∃ n, (srchI (fitT T t) l lo hi).2 = some n ∧ lastFit T t (srchI (fitT T t) l lo hi).1 = n := by
  intro k
  induction k with
  | zero =>
    intro l lo hi h h1
    rw [srchI_end _ _ _ _ (by omega)]
    exact ⟨lo, rfl, h1⟩
  | succ k ih =>
    intro l lo hi h h1
    by_cases hlt : lo < hi
    · obtain ⟨m, hm⟩ : ∃ m, m = (lo + hi + 1) / 2 := ⟨_, rfl⟩
      by_cases hf : T.getD m 0 ≤ t
      · rw [srchI_yes _ _ _ _ m hlt hm (decide_eq_true hf) rfl]
        exact ih _ _ _ (by omega) (by rw [lastFit_snoc, if_pos hf])
      · rw [srchI_no _ _ _ _ m hlt hm (decide_eq_false hf) rfl]
        exact ih _ _ _ (by omega) (by rw [lastFit_snoc, if_neg hf, h1])
    · rw [srchI_end _ _ _ _ hlt]
      exact ⟨lo, rfl, h1⟩

/-- All looks lie among the epochs. -/
theorem srchI_lt (g : List Nat → Nat → Bool × Bool) (N : Nat) : ∀ (k : Nat) (l : List Nat) (lo hi : Nat), hi - lo ≤ k → hi < N → (∀ m ∈ l, m < N) → ∀ m ∈ (srchI g l lo hi).1, m < N := by
  intro k
  induction k with
  | zero =>
    intro l lo hi h h1 h2
    rw [srchI_end _ _ _ _ (by omega)]
    exact h2
  | succ k ih =>
    intro l lo hi h h1 h2
    by_cases hlt : lo < hi
    · obtain ⟨m, hm⟩ : ∃ m, m = (lo + hi + 1) / 2 := ⟨_, rfl⟩
      have h3 : ∀ x ∈ l ++ [m], x < N := by
        intro x hx
        rcases List.mem_append.1 hx with h | h
        · exact h2 x h
        · obtain rfl : x = m := by simpa using h
          omega
      cases hb : (g l m).2 with
      | false => rw [srchI_stop _ _ _ _ m hlt hm hb]; exact h3
      | true =>
        cases ha : (g l m).1 with
        | true => rw [srchI_yes _ _ _ _ m hlt hm ha hb]; exact ih _ _ _ (by omega) h1 h3
        | false => rw [srchI_no _ _ _ _ m hlt hm ha hb]; exact ih _ _ _ (by omega) (by omega) h3
    · rw [srchI_end _ _ _ _ hlt]
      exact h2

theorem looks_lt (T : List Int) (t : Int) : ∀ m ∈ (lookF T t).1, m < T.length := by
  unfold lookF
  split
  · intro m hm
    cases hm
  · rename_i h
    have hp : 0 < T.length := List.length_pos_iff.2 h
    have h0 : ∀ m ∈ [0], m < T.length := by intro m hm; obtain rfl : m = 0 := by simpa using hm
                                            exact hp
    unfold srchA
    split
    · exact srchI_lt _ _ _ _ _ _ (Nat.le_refl _) (by omega) h0
    · exact h0

theorem found_last (T : List Int) (t : Int) (h : T ≠ []) (h0 : T.getD 0 0 ≤ t) : foundZ T t = (lastFit T t (lookF T t).1 : Int) := by
  have hl : lookF T t = srchI (fitT T t) [0] 0 (T.length - 1) := by
    unfold lookF srchA
    rw [if_neg h, if_pos ⟨rfl, by simp only [fitT]; exact decide_eq_true h0⟩]
  obtain ⟨n, h1, h2⟩ := fit_found T t _ [0] 0 (T.length - 1) (Nat.le_refl _) (by simp [lastFit])
  unfold foundZ
  rw [hl, h1, h2]

theorem found_none (T : List Int) (t : Int) (h : T = [] ∨ ¬ T.getD 0 0 ≤ t) : foundZ T t = -1 := by
  have hn : (lookF T t).2 = none := by
    unfold lookF
    by_cases h0 : T = []
    · rw [if_pos h0]
    · rw [if_neg h0]
      unfold srchA
      rw [if_neg]
      rintro ⟨_, h2⟩
      exact h.elim h0 (fun h3 => h3 (of_decide_eq_true h2))
  unfold foundZ
  rw [hn]

/-- The last one of the first n times that is not above t, or -1. -/
def wantN (T : List Int) (t : Int) : Nat → Int
  | 0 => -1
  | n + 1 => if T.getD n 0 ≤ t then (n : Int) else wantN T t n

theorem wantN_some (T : List Int) (t : Int) (z : Nat) (hz : T.getD z 0 ≤ t) : ∀ n, z < n → (∀ i, z < i → i < n → ¬ T.getD i 0 ≤ t) → wantN T t n = (z : Int) := by
  intro n
  induction n with
  | zero => intro h; omega
  | succ n ih =>
    intro h h1
    rw [wantN]
    by_cases e : n = z
    · rw [e, if_pos hz]
    · rw [if_neg (h1 n (by omega) (by omega))]
      exact ih (by omega) fun i h2 h3 => h1 i h2 (by omega)

theorem wantN_none (T : List Int) (t : Int) : ∀ n, (∀ i, i < n → ¬ T.getD i 0 ≤ t) → wantN T t n = -1 := by
  intro n
  induction n with
  | zero => intro _; rfl
  | succ n ih =>
    intro h1
    rw [wantN, if_neg (h1 n (by omega))]
    exact ih fun i h3 => h1 i (by omega)

theorem srchI_right (T : List Int) (t : Int) (N : Nat) (hmono : ∀ i j, i ≤ j → j < N → T.getD j 0 ≤ t → T.getD i 0 ≤ t) : ∀ (k : Nat) (l : List Nat) (lo hi : Nat), hi - lo ≤ k → lo ≤ hi → hi < N → T.getD lo 0 ≤ t → (∀ i, hi < i → i < N → ¬ T.getD i 0 ≤ t) →
    ∃ n, (srchI (fitT T t) l lo hi).2 = some n ∧ n < N ∧ T.getD n 0 ≤ t ∧ ∀ i, n < i → i < N → ¬ T.getD i 0 ≤ t := by
  intro k
  induction k with
  | zero =>
    intro l lo hi h h1 h2 h3 h4
    rw [srchI_end _ _ _ _ (by omega)]
    exact ⟨lo, rfl, by omega, h3, fun i hi hn => h4 i (by omega) hn⟩
  | succ k ih =>
    intro l lo hi h h1 h2 h3 h4
    by_cases hlt : lo < hi
    · obtain ⟨m, hm⟩ : ∃ m, m = (lo + hi + 1) / 2 := ⟨_, rfl⟩
      by_cases hf : T.getD m 0 ≤ t
      · rw [srchI_yes _ _ _ _ m hlt hm (decide_eq_true hf) rfl]
        exact ih _ _ _ (by omega) (by omega) h2 hf h4
      · rw [srchI_no _ _ _ _ m hlt hm (decide_eq_false hf) rfl]
        exact ih _ _ _ (by omega) (by omega) (by omega) h3 fun i hi hn hfi => hf (hmono m i (by omega) hn hfi)
    · rw [srchI_end _ _ _ _ hlt]
      exact ⟨lo, rfl, by omega, h3, fun i hi hn => h4 i (by omega) hn⟩

theorem srchI_len (g : List Nat → Nat → Bool × Bool) : ∀ (k : Nat) (l : List Nat) (lo hi : Nat), hi - lo < 2 ^ k → (srchI g l lo hi).1.length ≤ l.length + k := by
  intro k
  induction k with
  | zero =>
    intro l lo hi h
    rw [srchI_end _ _ _ _ (by omega)]
    exact Nat.le_refl _
  | succ k ih =>
    intro l lo hi h
    rw [Nat.pow_succ] at h
    by_cases hlt : lo < hi
    · obtain ⟨m, hm⟩ : ∃ m, m = (lo + hi + 1) / 2 := ⟨_, rfl⟩
      cases hb : (g l m).2 with
      | false =>
        rw [srchI_stop _ _ _ _ m hlt hm hb]
        simp
      | true =>
        cases ha : (g l m).1 with
        | true =>
          rw [srchI_yes _ _ _ _ m hlt hm ha hb]
          have := ih (l ++ [m]) m hi (by omega)
          simp at this
          omega
        | false =>
          rw [srchI_no _ _ _ _ m hlt hm ha hb]
          have := ih (l ++ [m]) lo (m - 1) (by omega)
          simp at this
          omega
    · rw [srchI_end _ _ _ _ hlt]
      exact Nat.le_add_right _ _

theorem look_len (T : List Int) (t : Int) (h : T.length ≤ 300) : (lookF T t).1.length ≤ 11 := by
  unfold lookF
  split
  · simp
  · unfold srchA
    split
    · have := srchI_len (fitT T t) 9 [0] 0 (T.length - 1) (by omega)
      simp at this
      omega
    · simp

theorem found_want (T : List Int) (t : Int) (hs : T.Pairwise (fun a b => a ≤ b)) : foundZ T t = wantN T t T.length := by
  have hmono : ∀ i j, i ≤ j → j < T.length → T.getD j 0 ≤ t → T.getD i 0 ≤ t := by
    intro i j hij hj h
    rcases Nat.eq_or_lt_of_le hij with rfl | hlt
    · exact h
    · have h1 := List.pairwise_iff_getElem.1 hs i j (by omega) hj hlt
      have e1 : T.getD i 0 = T[i] := by simp [List.getD, show i < T.length by omega]
      have e2 : T.getD j 0 = T[j] := by simp [List.getD, hj]
      rw [e2] at h
      rw [e1]
      omega
  by_cases h0 : T = []
  · rw [found_none T t (.inl h0), h0]
    rfl
  · have hpos : 0 < T.length := List.length_pos_iff.2 h0
    by_cases hf : T.getD 0 0 ≤ t
    · have hl : lookF T t = srchI (fitT T t) [0] 0 (T.length - 1) := by
        unfold lookF srchA
        rw [if_neg h0, if_pos ⟨rfl, decide_eq_true hf⟩]
      obtain ⟨n, h1, h2, h3, h4⟩ := srchI_right T t T.length hmono _ [0] 0 (T.length - 1) (Nat.le_refl _) (by omega) (by omega) hf (fun i h5 h6 => by omega)
      rw [wantN_some T t n h3 T.length h2 h4]
      unfold foundZ
      rw [hl, h1]
    · rw [found_none T t (.inr hf), wantN_none T t T.length fun i hi h => hf (hmono 0 i (by omega) hi h)]

end Go.Proofs.YtpndpmkoegmbkaaDoor

namespace Go.Proofs.YtpndpmkoegmbkaaDoor
open Go.RowKit

/-- The value v is a slice of ways. -/
def QA (w : World) (v : Value) (ss : List (List Rc)) : Prop :=
  ∃ (p : Option Addr) (cap : Nat), v = .slice p ss.length cap ∧ ss.length ≤ cap ∧ cap ≤ maxLen ∧
    (ss ≠ [] → ∃ b o, p = some ⟨b, o, none⟩ ∧ ∀ i s, ss[i]? = some s → ∃ q c, w.cell? ⟨b, o + i, none⟩ = some (.slice q s.length c) ∧ RA w (.slice q s.length c) s)

theorem QA.later {w w' : World} {v : Value} {ss : List (List Rc)} (h : QA w v ss) (hb : Below w.heap.size w w') : QA w' v ss := by
  obtain ⟨p, cap, e, h1, h2, h4⟩ := h
  refine ⟨p, cap, e, h1, h2, fun hn => ?_⟩
  obtain ⟨b, o, e1, e2⟩ := h4 hn
  refine ⟨b, o, e1, fun i s hs => ?_⟩
  obtain ⟨q, c, g1, g2⟩ := e2 i s hs
  exact ⟨q, c, cell_later hb g1, g2.later hb⟩

theorem QA.shape {w : World} {v : Value} {ss : List (List Rc)} (h : QA w v ss) : ∃ p c, v = .slice p ss.length c := by
  obtain ⟨p', cap, e, _⟩ := h
  exact ⟨p', cap, e⟩

theorem QA.len {w : World} {p : Option Addr} {n c : Nat} {ss : List (List Rc)} (h : QA w (.slice p n c) ss) : n = ss.length ∧ n ≤ c ∧ c ≤ maxLen := by
  obtain ⟨p', cap, e, h1, h2, h4⟩ := h
  simp only [Value.slice.injEq] at e
  obtain ⟨rfl, rfl, rfl⟩ := e
  exact ⟨rfl, h1, h2⟩

theorem QA.addr {w : World} {p : Option Addr} {n c : Nat} {ss : List (List Rc)} (h : QA w (.slice p n c) ss) (hn : 0 < n) : ∃ b o, p = some ⟨b, o, none⟩ ∧ ∀ (i : Nat) (s : List Rc), ss[i]? = some s → ∃ q c, w.cell? ⟨b, o + i, none⟩ = some (.slice q s.length c) ∧ RA w (.slice q s.length c) s := by
  obtain ⟨p', cap, e, h1, h2, h4⟩ := h
  simp only [Value.slice.injEq] at e
  obtain ⟨rfl, rfl, rfl⟩ := e
  exact h4 (fun h => by subst h; simp at hn)

/-- The record of noughts. -/
def zR : Rc := ⟨0, 0, 0, [], [], []⟩

/-- What a look tells: whether the record fits, and whether there is one. -/
def gC (size : Int) (hd : Rc) (ss : List (List Rc)) (t : Int) (l : List Nat) (m : Nat) : Bool × Bool :=
  match ss[l.length]? with
  | none => (false, false)
  | some way => (decide (((folR size hd way (m : Int)).getD zR).t ≤ t), (folR size hd way (m : Int)).isSome)

/-- The last record that fits. -/
def fnd (size : Int) (hd : Rc) (t : Int) : List (List Rc) → List Nat → Rc → Rc
  | way :: ss, m :: l, a => fnd size hd t ss l (match folR size hd way (m : Int) with | some r => if r.t ≤ t then r else a | none => a)
  | [], _, a => a
  | _ :: _, [], a => a

theorem fnd_snoc (size : Int) (hd : Rc) (t : Int) : ∀ (l : List Nat) (ss : List (List Rc)) (m : Nat) (a : Rc), fnd size hd t ss (l ++ [m]) a = match ss[l.length]? with | none => fnd size hd t ss l a | some way => (match folR size hd way (m : Int) with | some r => if r.t ≤ t then r else fnd size hd t ss l a | none => fnd size hd t ss l a) := by
  intro l
  induction l with
  | nil =>
    intro ss m a
    cases ss with
    | nil => rfl
    | cons way ss => cases ss <;> rfl
  | cons x l ih =>
    intro ss m a
    cases ss with
    | nil => rfl
    | cons way ss =>
      rw [List.cons_append, fnd, ih, fnd]
      rfl

theorem fnd_none {size : Int} {hd : Rc} {t : Int} {l : List Nat} {ss : List (List Rc)} {m : Nat} {a : Rc} (h : ss[l.length]? = none) : fnd size hd t ss (l ++ [m]) a = fnd size hd t ss l a := by rw [fnd_snoc, h]
theorem fnd_some {size : Int} {hd : Rc} {t : Int} {l : List Nat} {ss : List (List Rc)} {m : Nat} {a : Rc} {way : List Rc} (h : ss[l.length]? = some way) : fnd size hd t ss (l ++ [m]) a = if (folR size hd way (m : Int)).isSome = true ∧ ((folR size hd way (m : Int)).getD zR).t ≤ t then (folR size hd way (m : Int)).getD zR else fnd size hd t ss l a := by
  rw [fnd_snoc, h]
  cases hf : folR size hd way (m : Int) with
  | none => simp [hf]
  | some r => simp [hf]

/-- What Check answers. -/
def chkR (size : Int) (hd : Rc) (ss : List (List Rc)) (t : Int) : Option Rc :=
  if canB size hd = true ∧ (srchA (gC size hd ss t) hd.e.toNat).2.isSome = true ∧ ss.length ≤ (srchA (gC size hd ss t) hd.e.toNat).1.length then some (fnd size hd t ss (srchA (gC size hd ss t) hd.e.toNat).1 zR) else none

/-- A record's values. -/
abbrev RVs (q : Rc) (tp : Option Addr) (tc : Nat) (lp : Option Addr) (lc : Nat) (kp : Option Addr) (kc : Nat) : Array Value := #[.int .i64 q.e, .int .i64 q.t, .slice tp q.tr.length tc, .int .i64 q.c, .slice lp q.li.length lc, .slice kp q.lk.length kc]

/-- A record's texts, told by their blocks' types. -/
def RT (w : World) (q : Rc) (tp : Option Addr) (tc : Nat) (lp : Option Addr) (lc : Nat) (kp : Option Addr) (kc : Nat) : Prop :=
  ∃ G, HBN w G (.slice tp q.tr.length tc) q.tr ∧ HBN w G (.slice lp q.li.length lc) q.li ∧ KR w G (.slice kp q.lk.length kc) q.lk

theorem RT.tk {T : TypeId} {w w' : World} {q : Rc} {tp lp kp : Option Addr} {tc lc kc : Nat} (h : RT w q tp tc lp lc kp kc) (t : TK T w w') (h1 : 5 ≠ T) (h2 : 22 ≠ T) : RT w' q tp tc lp lc kp kc := by
  obtain ⟨G, g1, g2, g3⟩ := h
  exact ⟨G, g1.tk t h1, g2.tk t h1, g3.tk t h1 h2⟩

theorem RT.later {w w' : World} {q : Rc} {tp lp kp : Option Addr} {tc lc kc : Nat} (h : RT w q tp tc lp lc kp kc) (hb : Below w.heap.size w w') : RT w' q tp tc lp lc kp kc :=
  h.tk (TK.of_below (T := 25) hb) (by decide) (by decide)

theorem RT.zero (w : World) : RT w zR none 0 none 0 none 0 := ⟨0, ⟨HB.nil _, fun a n c e => by cases e⟩, ⟨HB.nil _, fun a n c e => by cases e⟩, .inl ⟨rfl, rfl⟩⟩

theorem folT_gen {R : Option Rc} {w : World} {x : Ending} {w' : World} (h : FolT R w x w') : ∃ tp tc lp lc kp kc, x = .returned (.tuple #[.agg (RVs (R.getD zR) tp tc lp lc kp kc), .bool R.isSome]) ∧ RT w' (R.getD zR) tp tc lp lc kp kc ∧ Below w.heap.size w w' := by
  obtain ⟨f1, f2, f3⟩ := h
  cases R with
  | none => exact ⟨none, 0, none, 0, none, 0, f1 rfl, RT.zero _, f3⟩
  | some r =>
    obtain ⟨G, tp, tc, lp, lc, kp, kc, e, g1, g2, g3⟩ := f2 r rfl
    exact ⟨tp, tc, lp, lc, kp, kc, e, ⟨G, g1, g2, g3⟩, f3⟩

end Go.Proofs.YtpndpmkoegmbkaaDoor
