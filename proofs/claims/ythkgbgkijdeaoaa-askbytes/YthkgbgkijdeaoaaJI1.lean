/- What this text holds: the digits of a digest as plain numbers (no program): how many there are, that each is at most 3, and that of two unlike digests of one length some digit of the first is less, and some is greater. What this text holds: a slice of numbers in memory (plain facts). What this text holds: a slice of any numbers in memory (plain facts). -/
import Derived.Test.YthkgbgkijdeaoaaFacts
import Derived.Test.YthkgbgkijdeaoaaOwn
import Derived.Test.YthkgbgkijdeaoaaEqual
namespace Go.Proofs.Ythkgbgkijdeaoaa
open Go.RowKit

def bdigs (b : UInt8) : List Nat := [b.toNat / 64 % 4, b.toNat / 16 % 4, b.toNat / 4 % 4, b.toNat % 4]
def digs (l : List UInt8) : List Nat := l.flatMap bdigs
def chk (ds : List Nat) : Nat := (ds.map (3 - ·)).sum
def cdigs (c : Nat) : List Nat := [c / 256 % 4, c / 64 % 4, c / 16 % 4, c / 4 % 4, c % 4]
/-- A digest's digits, with those of their check. -/
def digF (l : List UInt8) : List Nat := digs (l.take 32) ++ cdigs (chk (digs (l.take 32)))

theorem digs_length (l : List UInt8) : (digs l).length = 4 * l.length := by
  induction l with
  | nil => rfl
  | cons b l ih =>
    have : digs (b :: l) = bdigs b ++ digs l := by simp [digs]
    rw [this, List.length_append, ih]
    simp [bdigs]
    omega

theorem digF_length (l : List UInt8) : (digF l).length = 4 * min l.length 32 + 5 := by
  simp [digF, digs_length, cdigs]
  omega

theorem digs_le (l : List UInt8) : ∀ d ∈ digs l, d ≤ 3 := by
  intro d hd
  simp only [digs, List.mem_flatMap, bdigs, List.mem_cons, List.not_mem_nil, or_false] at hd
  omega

theorem digF_le (l : List UInt8) : ∀ d ∈ digF l, d ≤ 3 := by
  intro d hd
  rcases List.mem_append.1 hd with h | h
  · exact digs_le _ d h
  · simp only [cdigs, List.mem_cons, List.not_mem_nil, or_false] at h
    omega

theorem chk_append (a b : List Nat) : chk (a ++ b) = chk a + chk b := by simp [chk]

theorem chk_le (ds : List Nat) : chk ds ≤ 3 * ds.length := by
  induction ds with
  | nil => simp [chk]
  | cons d ds ih =>
    simp only [chk, List.map_cons, List.sum_cons, List.length_cons] at ih ⊢
    omega

theorem cval (c : Nat) (h : c < 1024) : c = 256 * (c / 256 % 4) + 64 * (c / 64 % 4) + 16 * (c / 16 % 4) + 4 * (c / 4 % 4) + c % 4 := by
  have h1 : c / 16 = c / 4 / 4 := by rw [Nat.div_div_eq_div_mul]
  have h2 : c / 64 = c / 4 / 4 / 4 := by rw [Nat.div_div_eq_div_mul, Nat.div_div_eq_div_mul]
  have h3 : c / 256 = c / 4 / 4 / 4 / 4 := by rw [Nat.div_div_eq_div_mul, Nat.div_div_eq_div_mul, Nat.div_div_eq_div_mul]
  rw [h1, h2, h3]
  have e1 := Nat.div_add_mod c 4
  have e2 := Nat.div_add_mod (c / 4) 4
  have e3 := Nat.div_add_mod (c / 4 / 4) 4
  have e4 := Nat.div_add_mod (c / 4 / 4 / 4) 4
  have h5 : c / 4 / 4 / 4 / 4 < 4 := by
    rw [← h3]
    exact Nat.div_lt_of_lt_mul (by omega)
  rw [Nat.mod_eq_of_lt h5]
  generalize c % 4 = m1 at *
  generalize c / 4 / 4 / 4 / 4 = q4 at *
  generalize c / 4 / 4 / 4 % 4 = m4 at *
  generalize c / 4 / 4 / 4 = q3 at *
  generalize c / 4 / 4 % 4 = m3 at *
  generalize c / 4 / 4 = q2 at *
  generalize c / 4 % 4 = m2 at *
  generalize c / 4 = q1 at *
  clear h1 h2 h3
  omega

theorem digs_inj : ∀ (a b : List UInt8), a.length = b.length → digs a = digs b → a = b
  | [], [], _, _ => rfl
  | [], _ :: _, h, _ => by simp at h
  | _ :: _, [], h, _ => by simp at h
  | x :: a, y :: b, h, e => by
    have e1 : bdigs x ++ digs a = bdigs y ++ digs b := by simpa [digs] using e
    obtain ⟨e2, e3⟩ := List.append_inj e1 (by simp [bdigs])
    have hx := x.toNat_lt
    have hy := y.toNat_lt
    simp only [bdigs, List.cons.injEq, and_true] at e2
    have : x = y := by
      apply UInt8.toNat_inj.1
      have vx := cval x.toNat (by omega)
      have vy := cval y.toNat (by omega)
      rw [vx, vy, e2.1, e2.2.1, e2.2.2.1, e2.2.2.2, Nat.div_eq_of_lt hx, Nat.div_eq_of_lt hy]
    rw [this, digs_inj a b (by simpa using h) e3]

/-- Whether some number of the first k of x is less than y's at its place. -/
def ltK (x y : List Nat) : Nat → Bool
  | 0 => false
  | k + 1 => ltK x y k || decide (x.getD k 0 < y.getD k 0)

theorem ltK_true {x y : List Nat} {k : Nat} : ltK x y k = true ↔ ∃ i, i < k ∧ x.getD i 0 < y.getD i 0 := by
  induction k with
  | zero => simp [ltK]
  | succ k ih =>
    simp only [ltK, Bool.or_eq_true, decide_eq_true_eq, ih]
    constructor
    · rintro (⟨i, h1, h2⟩ | h)
      · exact ⟨i, by omega, h2⟩
      · exact ⟨k, by omega, h⟩
    · rintro ⟨i, h1, h2⟩
      by_cases hk : i = k
      · subst hk; exact .inr h2
      · exact .inl ⟨i, by omega, h2⟩

/-- Where no digit is less, the check is not greater; and less where the digits are unlike. -/
theorem chk_mono : ∀ (a b : List Nat), a.length = b.length → (∀ d ∈ a, d ≤ 3) → (∀ d ∈ b, d ≤ 3) → (∀ i, ¬ a.getD i 0 < b.getD i 0) → chk a ≤ chk b ∧ (a ≠ b → chk a < chk b)
  | [], [], _, _, _, _ => ⟨Nat.le_refl _, fun h => absurd rfl h⟩
  | [], _ :: _, h, _, _, _ => by simp at h
  | _ :: _, [], h, _, _, _ => by simp at h
  | x :: a, y :: b, h, ha, hb, hn => by
    have ih := chk_mono a b (by simpa using h) (fun d hd => ha d (by simp [hd])) (fun d hd => hb d (by simp [hd])) (fun i => by have := hn (i + 1); simpa using this)
    have h0 : ¬ x < y := by have := hn 0; simpa using this
    have hx := ha x (by simp)
    have hy := hb y (by simp)
    have e1 : chk (x :: a) = (3 - x) + chk a := by simp [chk]
    have e2 : chk (y :: b) = (3 - y) + chk b := by simp [chk]
    rw [e1, e2]
    refine ⟨by omega, fun hne => ?_⟩
    by_cases hxy : x = y
    · have : a ≠ b := fun e => hne (by rw [hxy, e])
      have := ih.2 this
      omega
    · omega

theorem cdigs_lt (c d : Nat) (hd : d < 1024) (h : c < d) : ∃ i, i < 5 ∧ (cdigs c).getD i 0 < (cdigs d).getD i 0 := by
  have hc := cval c (by omega)
  have hd' := cval d hd
  unfold cdigs
  generalize c / 256 % 4 = c0 at *
  generalize c / 64 % 4 = c1 at *
  generalize c / 16 % 4 = c2 at *
  generalize c / 4 % 4 = c3 at *
  generalize c % 4 = c4 at *
  generalize d / 256 % 4 = d0 at *
  generalize d / 64 % 4 = d1 at *
  generalize d / 16 % 4 = d2 at *
  generalize d / 4 % 4 = d3 at *
  generalize d % 4 = d4 at *
  by_cases h0 : c0 < d0
  · exact ⟨0, by omega, by simpa using h0⟩
  by_cases h1 : c1 < d1
  · exact ⟨1, by omega, by simpa using h1⟩
  by_cases h2 : c2 < d2
  · exact ⟨2, by omega, by simpa using h2⟩
  by_cases h3 : c3 < d3
  · exact ⟨3, by omega, by simpa using h3⟩
  by_cases h4 : c4 < d4
  · exact ⟨4, by omega, by simpa using h4⟩
  omega

theorem less_some (a b : List UInt8) (hl : a.length = b.length) : ltK (digF a) (digF b) (4 * min a.length 32 + 5) = (!decide (a.take 32 = b.take 32)) := by
  by_cases ht : a.take 32 = b.take 32
  · have e : digF a = digF b := by simp [digF, ht]
    rw [e, ht]
    simp only [decide_true, Bool.not_true]
    rw [← Bool.not_eq_true, ltK_true]
    rintro ⟨i, _, h⟩
    omega
  · simp only [ht, decide_false, Bool.not_false]
    rw [ltK_true]
    have hl2 : (a.take 32).length = (b.take 32).length := by simp [hl]
    by_cases hs : ∃ i, i < (digs (a.take 32)).length ∧ (digs (a.take 32)).getD i 0 < (digs (b.take 32)).getD i 0
    · obtain ⟨i, h1, h2⟩ := hs
      rw [digs_length] at h1
      refine ⟨i, by simp at h1; omega, ?_⟩
      have g1 : i < (digs (a.take 32)).length := by rw [digs_length]; exact h1
      have g2 : i < (digs (b.take 32)).length := by rw [digs_length]; omega
      unfold digF
      simp only [List.getD_eq_getElem?_getD, List.getElem?_append_left g1, List.getElem?_append_left g2] at h2 ⊢
      exact h2
    · have hno : ∀ i, ¬ (digs (a.take 32)).getD i 0 < (digs (b.take 32)).getD i 0 := by
        intro i h
        by_cases hi : i < (digs (a.take 32)).length
        · exact hs ⟨i, hi, h⟩
        · have hj : (digs (b.take 32)).length ≤ i := by rw [digs_length] at hi ⊢; omega
          simp [List.getD_eq_getElem?_getD, List.getElem?_eq_none hj] at h
      have hd : digs (a.take 32) ≠ digs (b.take 32) := fun e => ht (digs_inj _ _ hl2 e)
      have hc := (chk_mono _ _ (by rw [digs_length, digs_length, hl2]) (digs_le _) (digs_le _) hno).2 hd
      have hm := chk_le (digs (b.take 32))
      rw [digs_length] at hm
      have hm2 : (b.take 32).length ≤ 32 := by simp; omega
      obtain ⟨i, h1, h2⟩ := cdigs_lt _ _ (by omega) hc
      refine ⟨4 * min a.length 32 + i, by omega, ?_⟩
      have g1 : (digs (a.take 32)).length = 4 * min a.length 32 := by rw [digs_length]; simp; omega
      have g2 : (digs (b.take 32)).length = 4 * min a.length 32 := by rw [digs_length, ← hl2]; simp; omega
      unfold digF
      simp only [List.getD_eq_getElem?_getD] at h2 ⊢
      rw [List.getElem?_append_right (by omega), List.getElem?_append_right (by omega), g1, g2]
      simpa using h2

end Go.Proofs.Ythkgbgkijdeaoaa

namespace Go.Proofs.Ythkgbgkijdeaoaa
open Go.RowKit

def ic (n : Nat) : Value := .int .i64 (n : Int)
def ics (l : List Nat) : List Value := l.map ic
theorem ics_length (l : List Nat) : (ics l).length = l.length := by simp [ics]
theorem ics_get (l : List Nat) (i : Nat) : (ics l)[i]? = l[i]?.map ic := by simp [ics]

/-- The value v is a slice of the numbers l. -/
def IA (w : World) (v : Value) (l : List Nat) : Prop :=
  ∃ (p : Option Addr) (cap : Nat), v = .slice p l.length cap ∧ l.length ≤ cap ∧ cap ≤ maxLen ∧
    (l ≠ [] → ∃ b o, p = some ⟨b, o, none⟩ ∧ ∀ i x, l[i]? = some x → w.cell? ⟨b, o + i, none⟩ = some (ic x))

theorem IA.later {w w' : World} {v : Value} {l : List Nat} (h : IA w v l) (hb : Below w.heap.size w w') : IA w' v l := by
  obtain ⟨p, cap, e, h1, h2, h4⟩ := h
  refine ⟨p, cap, e, h1, h2, fun hn => ?_⟩
  obtain ⟨b, o, e1, e2⟩ := h4 hn
  exact ⟨b, o, e1, fun i x hx => cell_later hb (e2 i x hx)⟩

theorem IA.shape {w : World} {v : Value} {l : List Nat} (h : IA w v l) : ∃ p c, v = .slice p l.length c := by
  obtain ⟨p', cap, e, _⟩ := h
  exact ⟨p', cap, e⟩

theorem IA.len_le {w : World} {v : Value} {l : List Nat} (h : IA w v l) : l.length ≤ maxLen := by
  obtain ⟨p, cap, e, h1, h2, h4⟩ := h
  omega

theorem IA.addr {w : World} {p : Option Addr} {n c : Nat} {l : List Nat} (h : IA w (.slice p n c) l) (hn : 0 < n) : ∃ b o, p = some ⟨b, o, none⟩ ∧ ∀ (i x : Nat), l[i]? = some x → w.cell? ⟨b, o + i, none⟩ = some (.int .i64 (x : Int)) := by
  obtain ⟨p', cap, e, h1, h2, h4⟩ := h
  simp only [Value.slice.injEq] at e
  obtain ⟨rfl, rfl, rfl⟩ := e
  exact h4 (fun h => by subst h; simp at hn)

theorem IA.of_owns {w : World} {base : Nat} {e : TypeId} {v : Value} {n : Nat} {l : List Nat} (h : w.ownsRow base e 1 v n (ics l)) : IA w v l := by
  obtain ⟨h1, h2⟩ := h
  rw [ics_length, Nat.mul_one] at h1
  subst h1
  rcases h2 with ⟨rfl, h0⟩ | ⟨g, cap, cur, rfl, hb, hg, hl, hm, hs, ht⟩
  · obtain rfl : l = [] := List.eq_nil_of_length_eq_zero h0
    exact ⟨none, 0, rfl, Nat.le_refl _, Nat.zero_le _, fun h => absurd rfl h⟩
  · refine ⟨_, cap, rfl, hl, hm, fun _ => ⟨g, 0, rfl, fun i x hx => ?_⟩⟩
    rw [Nat.zero_add, cell_of_row w g i cur e (0, 0) hg]
    have hi : i < l.length := (List.getElem?_eq_some_iff.1 hx).1
    have e1 : (ics l)[i]? = some (ic x) := by rw [ics_get, hx]; rfl
    rw [← ht, List.getElem?_take, if_pos (by omega)] at e1
    simpa using e1

/-- A literal of numbers in a new block, part of which may be frozen. -/
theorem IA.litF (w : World) (e : TypeId) (l : List Nat) (cs : Array Value) (n : Nat) (fr : Nat × Nat) (hc : cs = (ics l).toArray) (hn : n = l.length) (hm : n ≤ maxLen) : IA (w.alloc (.cells cs e fr)) (.slice (some ⟨w.heap.size, 0, none⟩) n n) l := by
  subst hc; subst hn
  refine ⟨_, l.length, rfl, Nat.le_refl _, hm, fun _ => ⟨_, 0, rfl, fun i x hx => ?_⟩⟩
  rw [Nat.zero_add, cell_of_row _ _ i _ _ _ (heap_alloc_new w _)]
  simp [ics, hx]

end Go.Proofs.Ythkgbgkijdeaoaa

namespace Go.Proofs.Ythkgbgkijdeaoaa
open Go.RowKit

/-- The value v is a slice of the numbers l. -/
def IZ (w : World) (v : Value) (l : List Int) : Prop :=
  ∃ (p : Option Addr) (cap : Nat), v = .slice p l.length cap ∧ l.length ≤ cap ∧ cap ≤ maxLen ∧
    (l ≠ [] → ∃ b o, p = some ⟨b, o, none⟩ ∧ ∀ i x, l[i]? = some x → w.cell? ⟨b, o + i, none⟩ = some (.int .i64 x))

theorem IZ.keep {w w' : World} {v : Value} {l : List Int} (h : IZ w v l) (hk : ∀ b, b < w.heap.size → w'.heap[b]? = w.heap[b]?) : IZ w' v l := by
  obtain ⟨p, cap, e, h1, h2, h4⟩ := h
  refine ⟨p, cap, e, h1, h2, fun hn => ?_⟩
  obtain ⟨b, o, e1, e2⟩ := h4 hn
  refine ⟨b, o, e1, fun i x hx => ?_⟩
  have hc := e2 i x hx
  have hlt : b < w.heap.size := by
    rcases Nat.lt_or_ge b w.heap.size with h1 | h1
    · exact h1
    · exfalso
      have e : w.heap[b]? = none := Array.getElem?_eq_none h1
      simp [World.cell?, e] at hc
  rw [World.cell?_of_block (w := w) (hk b hlt)]
  exact hc

theorem IZ.later {w w' : World} {v : Value} {l : List Int} (h : IZ w v l) (hb : Below w.heap.size w w') : IZ w' v l := h.keep fun b hl => hb.block b hl

theorem IZ.shape {w : World} {v : Value} {l : List Int} (h : IZ w v l) : ∃ p c, v = .slice p l.length c := by
  obtain ⟨p', cap, e, _⟩ := h
  exact ⟨p', cap, e⟩

theorem IZ.len_le {w : World} {v : Value} {l : List Int} (h : IZ w v l) : l.length ≤ maxLen := by
  obtain ⟨p, cap, e, h1, h2, h4⟩ := h
  omega

theorem IZ.caps {w : World} {p : Option Addr} {n c : Nat} {l : List Int} (h : IZ w (.slice p n c) l) : n = l.length ∧ n ≤ c ∧ c ≤ maxLen := by
  obtain ⟨p', cap, e, h1, h2, h4⟩ := h
  simp only [Value.slice.injEq] at e
  obtain ⟨rfl, rfl, rfl⟩ := e
  exact ⟨rfl, h1, h2⟩

theorem IZ.addr {w : World} {p : Option Addr} {n c : Nat} {l : List Int} (h : IZ w (.slice p n c) l) (hn : 0 < n) : ∃ b o, p = some ⟨b, o, none⟩ ∧ ∀ (i : Nat) (x : Int), l[i]? = some x → w.cell? ⟨b, o + i, none⟩ = some (.int .i64 x) := by
  obtain ⟨p', cap, e, h1, h2, h4⟩ := h
  simp only [Value.slice.injEq] at e
  obtain ⟨rfl, rfl, rfl⟩ := e
  exact h4 (fun h => by subst h; simp at hn)

/-- A beginning of a slice. -/
theorem IZ.front {w : World} {p : Option Addr} {n c : Nat} {l : List Int} (h : IZ w (.slice p n c) l) (k : Nat) (hk : k ≤ n) : IZ w (.slice p k c) (l.take k) := by
  obtain ⟨p', cap, e, h1, h2, h4⟩ := h
  simp only [Value.slice.injEq] at e
  obtain ⟨rfl, rfl, rfl⟩ := e
  refine ⟨p, c, ?_, ?_, h2, fun hne => ?_⟩
  · rw [List.length_take, Nat.min_eq_left hk]
  · rw [List.length_take]
    omega
  · obtain ⟨b, o, e1, e2⟩ := h4 (fun h => hne (by rw [h]; simp))
    refine ⟨b, o, e1, fun i x hx => e2 i x ?_⟩
    rw [List.getElem?_take] at hx
    split at hx
    · exact hx
    · cases hx

/-- A literal of numbers in a new block. -/
theorem IZ.litF (w : World) (e : TypeId) (l : List Int) (cs : Array Value) (n : Nat) (fr : Nat × Nat) (hc : cs = (l.map (fun x => Value.int .i64 x)).toArray) (hn : n = l.length) (hm : n ≤ maxLen) : IZ (w.alloc (.cells cs e fr)) (.slice (some ⟨w.heap.size, 0, none⟩) n n) l := by
  subst hc; subst hn
  refine ⟨_, l.length, rfl, Nat.le_refl _, hm, fun _ => ⟨_, 0, rfl, fun i x hx => ?_⟩⟩
  rw [Nat.zero_add, cell_of_row _ _ i _ _ _ (heap_alloc_new w _)]
  simp [hx]

end Go.Proofs.Ythkgbgkijdeaoaa
