/- What this text proves: the walk of bytes.Equal over this program: it answers whether the bytes of two slices are the same, and leaves the world as it was. What this text holds: the digits of a digest as plain numbers (no program): how many there are, that each is at most 3, and that of two unlike digests of one length some digit of the first is less, and some is greater. What this text holds: a slice of numbers in memory (plain facts). What this text holds: a slice of any numbers in memory (plain facts). What this text proves: the walk of bytes.Clone over this program: the same bytes in new memory (nil stays nil). What this text proves: the walk of slices.Clone of a slice of numbers over this program. What this text proves: the walk of slices.Equal of two slices of the same numbers over this program. -/
import Derived.Test.YtcgpgnajmfemhaaGreatDoorJOw
namespace Go.Proofs.YtcgpgnajmfemhaaGreatDoor
open Go.RowKit

set_option maxRecDepth 100000 in
set_option maxHeartbeats 400000 in
theorem equal_any (a b : Value) (l m : List UInt8) (w : World) (ha : HB w a l) (hb : HB w b m) :
    Calls Tryz.prog 117 #[a, b] w fun e w' => e = .returned (.bool (l == m)) ∧ w' = w := by
  obtain ⟨p, c, rfl⟩ := ha.shape
  obtain ⟨q, d, rfl⟩ := hb.shape
  have h1 := ha.str (P := Tryz.prog) 37 5 9 Tryz.underlying37 Tryz.underlying5 Tryz.underlying9
  have h2 := hb.str (P := Tryz.prog) 37 5 9 Tryz.underlying37 Tryz.underlying5 Tryz.underlying9
  clear ha hb
  go_enter Tryz.func117, Tryz.ntmps117
  go_wp2
  go_ret
  exact ⟨by simp, rfl⟩

theorem equal_t (a b : Value) (l m : List UInt8) (w : World) (ha : HB w a l) (hb : HB w b m) (h : l = m) :
    Calls Tryz.prog 117 #[a, b] w fun e w' => e = .returned (.bool true) ∧ w' = w := (equal_any a b l m w ha hb).mono fun e w' ⟨he, hw⟩ => ⟨by rw [he, h]; simp, hw⟩
theorem equal_f (a b : Value) (l m : List UInt8) (w : World) (ha : HB w a l) (hb : HB w b m) (h : l ≠ m) :
    Calls Tryz.prog 117 #[a, b] w fun e w' => e = .returned (.bool false) ∧ w' = w := (equal_any a b l m w ha hb).mono fun e w' ⟨he, hw⟩ => ⟨by rw [he, beq_eq_false_iff_ne.2 h], hw⟩

end Go.Proofs.YtcgpgnajmfemhaaGreatDoor

namespace Go.Proofs.YtcgpgnajmfemhaaGreatDoor
open Go.RowKit

def bdigs (b : UInt8) : List Nat := [b.toNat / 64 % 4, b.toNat / 16 % 4, b.toNat / 4 % 4, b.toNat % 4]
def digs (l : List UInt8) : List Nat := l.flatMap bdigs
def chk (ds : List Nat) : Nat := (ds.map (3 - ·)).sum
def cdigs (c : Nat) : List Nat := [c / 256 % 4, c / 64 % 4, c / 16 % 4, c / 4 % 4, c % 4]
/-- A digest's digits, with those of their check. -/
def digF (l : List UInt8) : List Nat := digs (l.take 32) ++ cdigs (chk (digs (l.take 32)))

theorem digs_length (l : List UInt8) : (digs l).length = 4 * l.length := by
  induction l with
  | nil => rfl
  | cons b l ih =>
    have : digs (b :: l) = bdigs b ++ digs l := by simp [digs]
    rw [this, List.length_append, ih]
    simp [bdigs]
    omega

theorem digF_length (l : List UInt8) : (digF l).length = 4 * min l.length 32 + 5 := by
  simp [digF, digs_length, cdigs]
  omega

theorem digs_le (l : List UInt8) : ∀ d ∈ digs l, d ≤ 3 := by
  intro d hd
  simp only [digs, List.mem_flatMap, bdigs, List.mem_cons, List.not_mem_nil, or_false] at hd
  omega

theorem digF_le (l : List UInt8) : ∀ d ∈ digF l, d ≤ 3 := by
  intro d hd
  rcases List.mem_append.1 hd with h | h
  · exact digs_le _ d h
  · simp only [cdigs, List.mem_cons, List.not_mem_nil, or_false] at h
    omega

theorem chk_append (a b : List Nat) : chk (a ++ b) = chk a + chk b := by simp [chk]

theorem chk_le (ds : List Nat) : chk ds ≤ 3 * ds.length := by
  induction ds with
  | nil => simp [chk]
  | cons d ds ih =>
    simp only [chk, List.map_cons, List.sum_cons, List.length_cons] at ih ⊢
    omega

theorem cval (c : Nat) (h : c < 1024) : c = 256 * (c / 256 % 4) + 64 * (c / 64 % 4) + 16 * (c / 16 % 4) + 4 * (c / 4 % 4) + c % 4 := by
  have h1 : c / 16 = c / 4 / 4 := by rw [Nat.div_div_eq_div_mul]
  have h2 : c / 64 = c / 4 / 4 / 4 := by rw [Nat.div_div_eq_div_mul, Nat.div_div_eq_div_mul]
  have h3 : c / 256 = c / 4 / 4 / 4 / 4 := by rw [Nat.div_div_eq_div_mul, Nat.div_div_eq_div_mul, Nat.div_div_eq_div_mul]
  rw [h1, h2, h3]
  have e1 := Nat.div_add_mod c 4
  have e2 := Nat.div_add_mod (c / 4) 4
  have e3 := Nat.div_add_mod (c / 4 / 4) 4
  have e4 := Nat.div_add_mod (c / 4 / 4 / 4) 4
  have h5 : c / 4 / 4 / 4 / 4 < 4 := by
    rw [← h3]
    exact Nat.div_lt_of_lt_mul (by omega)
  rw [Nat.mod_eq_of_lt h5]
  generalize c % 4 = m1 at *
  generalize c / 4 / 4 / 4 / 4 = q4 at *
  generalize c / 4 / 4 / 4 % 4 = m4 at *
  generalize c / 4 / 4 / 4 = q3 at *
  generalize c / 4 / 4 % 4 = m3 at *
  generalize c / 4 / 4 = q2 at *
  generalize c / 4 % 4 = m2 at *
  generalize c / 4 = q1 at *
  clear h1 h2 h3
  omega

theorem digs_inj : ∀ (a b : List UInt8), a.length = b.length → digs a = digs b → a = b
  | [], [], _, _ => rfl
  | [], _ :: _, h, _ => by simp at h
  | _ :: _, [], h, _ => by simp at h
  | x :: a, y :: b, h, e => by
    have e1 : bdigs x ++ digs a = bdigs y ++ digs b := by simpa [digs] using e
    obtain ⟨e2, e3⟩ := List.append_inj e1 (by simp [bdigs])
    have hx := x.toNat_lt
    have hy := y.toNat_lt
    simp only [bdigs, List.cons.injEq, and_true] at e2
    have : x = y := by
      apply UInt8.toNat_inj.1
      have vx := cval x.toNat (by omega)
      have vy := cval y.toNat (by omega)
      rw [vx, vy, e2.1, e2.2.1, e2.2.2.1, e2.2.2.2, Nat.div_eq_of_lt hx, Nat.div_eq_of_lt hy]
    rw [this, digs_inj a b (by simpa using h) e3]

/-- Whether some number of the first k of x is less than y's at its place. -/
def ltK (x y : List Nat) : Nat → Bool
  | 0 => false
  | k + 1 => ltK x y k || decide (x.getD k 0 < y.getD k 0)

theorem ltK_true {x y : List Nat} {k : Nat} : ltK x y k = true ↔ ∃ i, i < k ∧ x.getD i 0 < y.getD i 0 := by
  induction k with
  | zero => simp [ltK]
  | succ k ih =>
    simp only [ltK, Bool.or_eq_true, decide_eq_true_eq, ih]
    constructor
    · rintro (⟨i, h1, h2⟩ | h)
      · exact ⟨i, by omega, h2⟩
      · exact ⟨k, by omega, h⟩
    · rintro ⟨i, h1, h2⟩
      by_cases hk : i = k
      · subst hk; exact .inr h2
      · exact .inl ⟨i, by omega, h2⟩

/-- Where no digit is less, the check is not greater; and less where the digits are unlike. -/
theorem chk_mono : ∀ (a b : List Nat), a.length = b.length → (∀ d ∈ a, d ≤ 3) → (∀ d ∈ b, d ≤ 3) → (∀ i, ¬ a.getD i 0 < b.getD i 0) → chk a ≤ chk b ∧ (a ≠ b → chk a < chk b)
  | [], [], _, _, _, _ => ⟨Nat.le_refl _, fun h => absurd rfl h⟩
  | [], _ :: _, h, _, _, _ => by simp at h
  | _ :: _, [], h, _, _, _ => by simp at h
  | x :: a, y :: b, h, ha, hb, hn => by
    have ih := chk_mono a b (by simpa using h) (fun d hd => ha d (by simp [hd])) (fun d hd => hb d (by simp [hd])) (fun i => by have := hn (i + 1); simpa using this)
    have h0 : ¬ x < y := by have := hn 0; simpa using this
    have hx := ha x (by simp)
    have hy := hb y (by simp)
    have e1 : chk (x :: a) = (3 - x) + chk a := by simp [chk]
    have e2 : chk (y :: b) = (3 - y) + chk b := by simp [chk]
    rw [e1, e2]
    refine ⟨by omega, fun hne => ?_⟩
    by_cases hxy : x = y
    · have : a ≠ b := fun e => hne (by rw [hxy, e])
      have := ih.2 this
      omega
    · omega

theorem cdigs_lt (c d : Nat) (hd : d < 1024) (h : c < d) : ∃ i, i < 5 ∧ (cdigs c).getD i 0 < (cdigs d).getD i 0 := by
  have hc := cval c (by omega)
  have hd' := cval d hd
  unfold cdigs
  generalize c / 256 % 4 = c0 at *
  generalize c / 64 % 4 = c1 at *
  generalize c / 16 % 4 = c2 at *
  generalize c / 4 % 4 = c3 at *
  generalize c % 4 = c4 at *
  generalize d / 256 % 4 = d0 at *
  generalize d / 64 % 4 = d1 at *
  generalize d / 16 % 4 = d2 at *
  generalize d / 4 % 4 = d3 at *
  generalize d % 4 = d4 at *
  by_cases h0 : c0 < d0
  · exact ⟨0, by omega, by simpa using h0⟩
  by_cases h1 : c1 < d1
  · exact ⟨1, by omega, by simpa using h1⟩
  by_cases h2 : c2 < d2
  · exact ⟨2, by omega, by simpa using h2⟩
  by_cases h3 : c3 < d3
  · exact ⟨3, by omega, by simpa using h3⟩
  by_cases h4 : c4 < d4
  · exact ⟨4, by omega, by simpa using h4⟩
  omega

theorem less_some (a b : List UInt8) (hl : a.length = b.length) : ltK (digF a) (digF b) (4 * min a.length 32 + 5) = (!decide (a.take 32 = b.take 32)) := by
  by_cases ht : a.take 32 = b.take 32
  · have e : digF a = digF b := by simp [digF, ht]
    rw [e, ht]
    simp only [decide_true, Bool.not_true]
    rw [← Bool.not_eq_true, ltK_true]
    rintro ⟨i, _, h⟩
    omega
  · simp only [ht, decide_false, Bool.not_false]
    rw [ltK_true]
    have hl2 : (a.take 32).length = (b.take 32).length := by simp [hl]
    by_cases hs : ∃ i, i < (digs (a.take 32)).length ∧ (digs (a.take 32)).getD i 0 < (digs (b.take 32)).getD i 0
    · obtain ⟨i, h1, h2⟩ := hs
      rw [digs_length] at h1
      refine ⟨i, by simp at h1; omega, ?_⟩
      have g1 : i < (digs (a.take 32)).length := by rw [digs_length]; exact h1
      have g2 : i < (digs (b.take 32)).length := by rw [digs_length]; omega
      unfold digF
      simp only [List.getD_eq_getElem?_getD, List.getElem?_append_left g1, List.getElem?_append_left g2] at h2 ⊢
      exact h2
    · have hno : ∀ i, ¬ (digs (a.take 32)).getD i 0 < (digs (b.take 32)).getD i 0 := by
        intro i h
        by_cases hi : i < (digs (a.take 32)).length
        · exact hs ⟨i, hi, h⟩
        · have hj : (digs (b.take 32)).length ≤ i := by rw [digs_length] at hi ⊢; omega
          simp [List.getD_eq_getElem?_getD, List.getElem?_eq_none hj] at h
      have hd : digs (a.take 32) ≠ digs (b.take 32) := fun e => ht (digs_inj _ _ hl2 e)
      have hc := (chk_mono _ _ (by rw [digs_length, digs_length, hl2]) (digs_le _) (digs_le _) hno).2 hd
      have hm := chk_le (digs (b.take 32))
      rw [digs_length] at hm
      have hm2 : (b.take 32).length ≤ 32 := by simp; omega
      obtain ⟨i, h1, h2⟩ := cdigs_lt _ _ (by omega) hc
      refine ⟨4 * min a.length 32 + i, by omega, ?_⟩
      have g1 : (digs (a.take 32)).length = 4 * min a.length 32 := by rw [digs_length]; simp; omega
      have g2 : (digs (b.take 32)).length = 4 * min a.length 32 := by rw [digs_length, ← hl2]; simp; omega
      unfold digF
      simp only [List.getD_eq_getElem?_getD] at h2 ⊢
      rw [List.getElem?_append_right (by omega), List.getElem?_append_right (by omega), g1, g2]
      simpa using h2

end Go.Proofs.YtcgpgnajmfemhaaGreatDoor

namespace Go.Proofs.YtcgpgnajmfemhaaGreatDoor
open Go.RowKit

def ic (n : Nat) : Value := .int .i64 (n : Int)
def ics (l : List Nat) : List Value := l.map ic
theorem ics_length (l : List Nat) : (ics l).length = l.length := by simp [ics]
theorem ics_get (l : List Nat) (i : Nat) : (ics l)[i]? = l[i]?.map ic := by simp [ics]

/-- The value v is a slice of the numbers l. -/
def IA (w : World) (v : Value) (l : List Nat) : Prop :=
  ∃ (p : Option Addr) (cap : Nat), v = .slice p l.length cap ∧ l.length ≤ cap ∧ cap ≤ maxLen ∧
    (l ≠ [] → ∃ b o, p = some ⟨b, o, none⟩ ∧ ∀ i x, l[i]? = some x → w.cell? ⟨b, o + i, none⟩ = some (ic x))

theorem IA.later {w w' : World} {v : Value} {l : List Nat} (h : IA w v l) (hb : Below w.heap.size w w') : IA w' v l := by
  obtain ⟨p, cap, e, h1, h2, h4⟩ := h
  refine ⟨p, cap, e, h1, h2, fun hn => ?_⟩
  obtain ⟨b, o, e1, e2⟩ := h4 hn
  exact ⟨b, o, e1, fun i x hx => cell_later hb (e2 i x hx)⟩

theorem IA.shape {w : World} {v : Value} {l : List Nat} (h : IA w v l) : ∃ p c, v = .slice p l.length c := by
  obtain ⟨p', cap, e, _⟩ := h
  exact ⟨p', cap, e⟩

theorem IA.len_le {w : World} {v : Value} {l : List Nat} (h : IA w v l) : l.length ≤ maxLen := by
  obtain ⟨p, cap, e, h1, h2, h4⟩ := h
  omega

theorem IA.addr {w : World} {p : Option Addr} {n c : Nat} {l : List Nat} (h : IA w (.slice p n c) l) (hn : 0 < n) : ∃ b o, p = some ⟨b, o, none⟩ ∧ ∀ (i x : Nat), l[i]? = some x → w.cell? ⟨b, o + i, none⟩ = some (.int .i64 (x : Int)) := by
  obtain ⟨p', cap, e, h1, h2, h4⟩ := h
  simp only [Value.slice.injEq] at e
  obtain ⟨rfl, rfl, rfl⟩ := e
  exact h4 (fun h => by subst h; simp at hn)

theorem IA.of_owns {w : World} {base : Nat} {e : TypeId} {v : Value} {n : Nat} {l : List Nat} (h : w.ownsRow base e 1 v n (ics l)) : IA w v l := by
  obtain ⟨h1, h2⟩ := h
  rw [ics_length, Nat.mul_one] at h1
  subst h1
  rcases h2 with ⟨rfl, h0⟩ | ⟨g, cap, cur, rfl, hb, hg, hl, hm, hs, ht⟩
  · obtain rfl : l = [] := List.eq_nil_of_length_eq_zero h0
    exact ⟨none, 0, rfl, Nat.le_refl _, Nat.zero_le _, fun h => absurd rfl h⟩
  · refine ⟨_, cap, rfl, hl, hm, fun _ => ⟨g, 0, rfl, fun i x hx => ?_⟩⟩
    rw [Nat.zero_add, cell_of_row w g i cur e (0, 0) hg]
    have hi : i < l.length := (List.getElem?_eq_some_iff.1 hx).1
    have e1 : (ics l)[i]? = some (ic x) := by rw [ics_get, hx]; rfl
    rw [← ht, List.getElem?_take, if_pos (by omega)] at e1
    simpa using e1

/-- A literal of numbers in a new block, part of which may be frozen. -/
theorem IA.litF (w : World) (e : TypeId) (l : List Nat) (cs : Array Value) (n : Nat) (fr : Nat × Nat) (hc : cs = (ics l).toArray) (hn : n = l.length) (hm : n ≤ maxLen) : IA (w.alloc (.cells cs e fr)) (.slice (some ⟨w.heap.size, 0, none⟩) n n) l := by
  subst hc; subst hn
  refine ⟨_, l.length, rfl, Nat.le_refl _, hm, fun _ => ⟨_, 0, rfl, fun i x hx => ?_⟩⟩
  rw [Nat.zero_add, cell_of_row _ _ i _ _ _ (heap_alloc_new w _)]
  simp [ics, hx]

end Go.Proofs.YtcgpgnajmfemhaaGreatDoor

namespace Go.Proofs.YtcgpgnajmfemhaaGreatDoor.Vf
open Go.RowKit

/-- The value v is a slice of the numbers l. -/
def IZ (w : World) (v : Value) (l : List Int) : Prop :=
  ∃ (p : Option Addr) (cap : Nat), v = .slice p l.length cap ∧ l.length ≤ cap ∧ cap ≤ maxLen ∧
    (l ≠ [] → ∃ b o, p = some ⟨b, o, none⟩ ∧ ∀ i x, l[i]? = some x → w.cell? ⟨b, o + i, none⟩ = some (.int .i64 x))

theorem IZ.keep {w w' : World} {v : Value} {l : List Int} (h : IZ w v l) (hk : ∀ b, b < w.heap.size → w'.heap[b]? = w.heap[b]?) : IZ w' v l := by
  obtain ⟨p, cap, e, h1, h2, h4⟩ := h
  refine ⟨p, cap, e, h1, h2, fun hn => ?_⟩
  obtain ⟨b, o, e1, e2⟩ := h4 hn
  refine ⟨b, o, e1, fun i x hx => ?_⟩
  have hc := e2 i x hx
  have hlt : b < w.heap.size := by
    rcases Nat.lt_or_ge b w.heap.size with h1 | h1
    · exact h1
    · exfalso
      have e : w.heap[b]? = none := Array.getElem?_eq_none h1
      simp [World.cell?, e] at hc
  rw [World.cell?_of_block (w := w) (hk b hlt)]
  exact hc

theorem IZ.later {w w' : World} {v : Value} {l : List Int} (h : IZ w v l) (hb : Below w.heap.size w w') : IZ w' v l := h.keep fun b hl => hb.block b hl

theorem IZ.shape {w : World} {v : Value} {l : List Int} (h : IZ w v l) : ∃ p c, v = .slice p l.length c := by
  obtain ⟨p', cap, e, _⟩ := h
  exact ⟨p', cap, e⟩

theorem IZ.len_le {w : World} {v : Value} {l : List Int} (h : IZ w v l) : l.length ≤ maxLen := by
  obtain ⟨p, cap, e, h1, h2, h4⟩ := h
  omega

theorem IZ.caps {w : World} {p : Option Addr} {n c : Nat} {l : List Int} (h : IZ w (.slice p n c) l) : n = l.length ∧ n ≤ c ∧ c ≤ maxLen := by
  obtain ⟨p', cap, e, h1, h2, h4⟩ := h
  simp only [Value.slice.injEq] at e
  obtain ⟨rfl, rfl, rfl⟩ := e
  exact ⟨rfl, h1, h2⟩

theorem IZ.addr {w : World} {p : Option Addr} {n c : Nat} {l : List Int} (h : IZ w (.slice p n c) l) (hn : 0 < n) : ∃ b o, p = some ⟨b, o, none⟩ ∧ ∀ (i : Nat) (x : Int), l[i]? = some x → w.cell? ⟨b, o + i, none⟩ = some (.int .i64 x) := by
  obtain ⟨p', cap, e, h1, h2, h4⟩ := h
  simp only [Value.slice.injEq] at e
  obtain ⟨rfl, rfl, rfl⟩ := e
  exact h4 (fun h => by subst h; simp at hn)

/-- A beginning of a slice. -/
theorem IZ.front {w : World} {p : Option Addr} {n c : Nat} {l : List Int} (h : IZ w (.slice p n c) l) (k : Nat) (hk : k ≤ n) : IZ w (.slice p k c) (l.take k) := by
  obtain ⟨p', cap, e, h1, h2, h4⟩ := h
  simp only [Value.slice.injEq] at e
  obtain ⟨rfl, rfl, rfl⟩ := e
  refine ⟨p, c, ?_, ?_, h2, fun hne => ?_⟩
  · rw [List.length_take, Nat.min_eq_left hk]
  · rw [List.length_take]
    omega
  · obtain ⟨b, o, e1, e2⟩ := h4 (fun h => hne (by rw [h]; simp))
    refine ⟨b, o, e1, fun i x hx => e2 i x ?_⟩
    rw [List.getElem?_take] at hx
    split at hx
    · exact hx
    · cases hx

/-- A literal of numbers in a new block. -/
theorem IZ.litF (w : World) (e : TypeId) (l : List Int) (cs : Array Value) (n : Nat) (fr : Nat × Nat) (hc : cs = (l.map (fun x => Value.int .i64 x)).toArray) (hn : n = l.length) (hm : n ≤ maxLen) : IZ (w.alloc (.cells cs e fr)) (.slice (some ⟨w.heap.size, 0, none⟩) n n) l := by
  subst hc; subst hn
  refine ⟨_, l.length, rfl, Nat.le_refl _, hm, fun _ => ⟨_, 0, rfl, fun i x hx => ?_⟩⟩
  rw [Nat.zero_add, cell_of_row _ _ i _ _ _ (heap_alloc_new w _)]
  simp [hx]

end Go.Proofs.YtcgpgnajmfemhaaGreatDoor.Vf

namespace Go.Proofs.YtcgpgnajmfemhaaGreatDoor
open Go.RowKit

set_option maxRecDepth 100000 in
set_option maxHeartbeats 1000000 in
theorem clone_any (v : Value) (l : List UInt8) (w : World) (h : HB w v l) (hbig : l.length ≤ 140737488355328) :
    Calls Tryz.prog 44 #[v] w fun e w' => ∃ p c, e = .returned (.slice p l.length c) ∧ HB w' (.slice p l.length c) l ∧ Below w.heap.size w w' := by
  have q22 : ∀ (w : World) (a : Option Addr) (n c n' c' : Nat), (binOp .eql 37 (.slice a n c) (.slice none n' c')).run Tryz.prog w = .ok (.bool a.isNone) w := fun w a n c n' c' => Lib.run_eql_slice_nil w _ _ a n c n' c' Tryz.underlying37
  obtain ⟨p, c, rfl⟩ := h.shape
  cases p with
  | none =>
    have hc := h.len.2.2.2 rfl
    have hl := h.len.2.1
    subst hc
    have e : l = [] := List.eq_nil_of_length_eq_zero (by omega)
    subst e
    clear h hl hbig
    go_enter Tryz.func44, Tryz.ntmps44
    go_wp2
    go_ret
    exact ⟨none, 0, rfl, HB.nil _, Below.refl _ _⟩
  | some a =>
    have h2 : HB (w.alloc (.cells #[] 5)) (.slice (some a) l.length c) l := h.later ((Below.refl _ w).alloc (Nat.le_refl _) _)
    clear h
    go_enter Tryz.func44, Tryz.ntmps44
    go_wp2_with (at_builtin; refine wpList_append_hb rfl (.tmp 5) (.tmp 6) 37 rfl w.heap.size 5 Tryz.underlying37 i_u8 _ 0 [] rfl (World.ownsRow_made w #[] 0 (Nat.le_refl _) (Nat.zero_le _) rfl) _ _ _ l rfl h2 ?qa ?qb ?_)
    case qa => omega
    case qb => simp
    intro v1 w1 hown1 hgrow1
    have hb1 : Below w.heap.size w w1 := ((Below.refl _ w).alloc (Nat.le_refl _) _).grown hgrow1 (by simp) (by intro k hk; cases hk; exact Nat.le_refl _)
    have hh := HB.of_owns (by simpa using hown1 : w1.ownsRow w.heap.size 5 1 v1 l.length (bcs l))
    obtain ⟨p1, c1, hv⟩ := hh.shape
    rw [hv] at hh ⊢
    clear hv hown1 hgrow1 h2
    go_wp2
    go_ret
    exact ⟨_, _, rfl, hh, hb1⟩

end Go.Proofs.YtcgpgnajmfemhaaGreatDoor

namespace Go.Proofs.YtcgpgnajmfemhaaGreatDoor.Vf
open Go.RowKit

def izs (l : List Int) : List Value := l.map fun x => .int .i64 x
theorem izs_len (l : List Int) : (izs l).length = l.length := by simp [izs]
def leZ : Int → Int → Bool := fun x y => decide (x ≤ y)

theorem IZ.of_owns {w : World} {base : Nat} {e : TypeId} {v : Value} {n : Nat} {l : List Int} (h : w.ownsRow base e 1 v n (izs l)) : IZ w v l := by
  obtain ⟨h1, h2⟩ := h
  rw [izs_len, Nat.mul_one] at h1
  subst h1
  rcases h2 with ⟨rfl, h0⟩ | ⟨g, cap, cur, rfl, hb, hg, hl, hm, hs, ht⟩
  · obtain rfl : l = [] := List.eq_nil_of_length_eq_zero h0
    exact ⟨none, 0, rfl, Nat.le_refl _, Nat.zero_le _, fun h => absurd rfl h⟩
  · refine ⟨_, cap, rfl, hl, hm, fun _ => ⟨g, 0, rfl, fun i x hx => ?_⟩⟩
    rw [Nat.zero_add, cell_of_row w g i cur e (0, 0) hg]
    have hi : i < l.length := (List.getElem?_eq_some_iff.1 hx).1
    have e1 : (izs l)[i]? = some (.int .i64 x) := by simp [izs, hx]
    rw [← ht, List.getElem?_take, if_pos (by omega)] at e1
    simpa using e1

theorem IZ.cells {w : World} {b o n c : Nat} {l : List Int} (h : IZ w (.slice (some ⟨b, o, none⟩) n c) l) : ∀ j u, (izs l)[j]? = some u → w.cell? ((⟨b, o, none⟩ : Addr).add j) = some u := by
  intro j u hu
  have hx : l[j]?.map (fun x => Value.int .i64 x) = some u := by simpa [izs] using hu
  obtain ⟨x, hy, rfl⟩ := Option.map_eq_some_iff.1 hx
  have hj : j < l.length := (List.getElem?_eq_some_iff.1 hy).1
  have hl := h.caps.1
  obtain ⟨b', o', e, hc⟩ := h.addr (by omega)
  simp only [Option.some.injEq, Addr.mk.injEq, and_true] at e
  obtain ⟨rfl, rfl⟩ := e
  rw [add_lit]
  exact hc j x hy

theorem i_intS2 : (Tryz.prog.info? 3).map (fun i => (i.zero, i.size, i.bytes)) = some (some (.int .i64 0), 1, 8) := by kernel_rfl

set_option maxRecDepth 100000 in
set_option maxHeartbeats 1000000 in
theorem iclone_any (v : Value) (l : List Int) (w : World) (h : IZ w v l) (hbig : l.length ≤ 1000000000) :
    Calls Tryz.prog 221 #[v] w fun e w' => ∃ u, e = .returned u ∧ w'.ownsRow w.heap.size 3 1 u l.length (izs l) ∧ Below w.heap.size w w' := by
  have q22 : ∀ (w : World) (a : Option Addr) (n c n' c' : Nat), (binOp .eql 50 (.slice a n c) (.slice none n' c')).run Tryz.prog w = .ok (.bool a.isNone) w := fun w a n c n' c' => Lib.run_eql_slice_nil w _ _ a n c n' c' Tryz.underlying50
  obtain ⟨p, c, rfl⟩ := h.shape
  obtain ⟨i0, hi, hz0, hz1, hz2⟩ := info_parts i_intS2
  cases p with
  | none =>
    have e : l = [] := by
      apply Classical.byContradiction
      intro hne
      obtain ⟨b, o, e, _⟩ := h.addr (List.length_pos_iff.2 hne)
      cases e
    subst e
    clear h hbig
    go_enter Tryz.func221, Tryz.ntmps221
    go_wp2
    go_ret
    exact ⟨_, rfl, World.ownsRow_nil _ _ _ _, Below.refl _ _⟩
  | some a =>
    have h2 : IZ (w.alloc (.cells #[] 3)) (.slice (some a) l.length c) l := h.later ((Below.refl _ w).alloc (Nat.le_refl _) _)
    have hcl : ∀ j u, (izs l)[j]? = some u → (w.alloc (.cells #[] 3)).cell? (a.add j) = some u := by
      intro j u hu
      have hj : j < l.length := by
        have := (List.getElem?_eq_some_iff.1 hu).1
        rwa [izs_len] at this
      obtain ⟨b, o, e, _⟩ := h2.addr (by omega)
      simp only [Option.some.injEq] at e
      subst e
      exact h2.cells j u hu
    clear h h2
    go_enter Tryz.func221, Tryz.ntmps221
    go_wp2_with (at_builtin; refine wpList_append_own _ rfl (.tmp 5) (.tmp 6) 50 rfl w.heap.size 3 i0 (.int .i64 0) 1 8 Tryz.underlying50 hi hz0 hz1 hz2 rfl (by decide) _ 0 [] rfl (World.ownsRow_made w #[] 0 (Nat.le_refl _) (Nat.zero_le _) rfl) a l.length c (izs l) rfl (by rw [izs_len, Nat.mul_one]) ?ra ?rb ?rc ?rd ?re ?_)
    all_goals first | (case ra => exact hcl) | skip
    all_goals first | (case rb => intro u hu; obtain ⟨x, _, rfl⟩ := List.mem_map.1 hu; rfl) | skip
    all_goals first | (case rc => unfold maxLen; omega) | skip
    all_goals first | (case rd => omega) | skip
    all_goals first | (case re => simp) | skip
    intro v1 w1 hown1 hgrow1 _
    have hb1 : Below w.heap.size w w1 := ((Below.refl _ w).alloc (Nat.le_refl _) _).grown hgrow1 (by simp) (by intro k hk; cases hk; exact Nat.le_refl _)
    obtain ⟨p1, c1, rfl⟩ := owns_shape hown1
    clear hgrow1 hcl
    go_wp2
    go_ret
    exact ⟨_, rfl, hown1, hb1⟩

end Go.Proofs.YtcgpgnajmfemhaaGreatDoor.Vf

namespace Go.Proofs.YtcgpgnajmfemhaaGreatDoor
open Go.RowKit

end Go.Proofs.YtcgpgnajmfemhaaGreatDoor
