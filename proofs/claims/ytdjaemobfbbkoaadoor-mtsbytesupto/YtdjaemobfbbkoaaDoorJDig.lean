/- What this text holds: the digits of a digest as plain numbers (no program): how many there are, that each is at most 3, and that of two unlike digests of one length some digit of the first is less, and some is greater. What this text holds: a slice of numbers in memory (plain facts). What this text proves: the walk of wots.Digits over this program: the digits of any digest, in new memory; and that the statements' own look finds them. -/
import Derived.Test.YtdjaemobfbbkoaaDoorJOwn
import Derived.Test.YtdjaemobfbbkoaaDoorJText
namespace Go.Proofs.YtdjaemobfbbkoaaDoor
open Go.RowKit

def bdigs (b : UInt8) : List Nat := [b.toNat / 64 % 4, b.toNat / 16 % 4, b.toNat / 4 % 4, b.toNat % 4]
def digs (l : List UInt8) : List Nat := l.flatMap bdigs
def chk (ds : List Nat) : Nat := (ds.map (3 - ·)).sum
def cdigs (c : Nat) : List Nat := [c / 256 % 4, c / 64 % 4, c / 16 % 4, c / 4 % 4, c % 4]
/-- A digest's digits, with those of their check. -/
def digF (l : List UInt8) : List Nat := digs (l.take 32) ++ cdigs (chk (digs (l.take 32)))

theorem digs_length (l : List UInt8) : (digs l).length = 4 * l.length := by
  induction l with
  | nil => rfl
  | cons b l ih =>
    have : digs (b :: l) = bdigs b ++ digs l := by simp [digs]
    rw [this, List.length_append, ih]
    simp [bdigs]
    omega

theorem digF_length (l : List UInt8) : (digF l).length = 4 * min l.length 32 + 5 := by
  simp [digF, digs_length, cdigs]
  omega

theorem digs_le (l : List UInt8) : ∀ d ∈ digs l, d ≤ 3 := by
  intro d hd
  simp only [digs, List.mem_flatMap, bdigs, List.mem_cons, List.not_mem_nil, or_false] at hd
  omega

theorem digF_le (l : List UInt8) : ∀ d ∈ digF l, d ≤ 3 := by
  intro d hd
  rcases List.mem_append.1 hd with h | h
  · exact digs_le _ d h
  · simp only [cdigs, List.mem_cons, List.not_mem_nil, or_false] at h
    omega

theorem chk_append (a b : List Nat) : chk (a ++ b) = chk a + chk b := by simp [chk]

theorem chk_le (ds : List Nat) : chk ds ≤ 3 * ds.length := by
  induction ds with
  | nil => simp [chk]
  | cons d ds ih =>
    simp only [chk, List.map_cons, List.sum_cons, List.length_cons] at ih ⊢
    omega

theorem cval (c : Nat) (h : c < 1024) : c = 256 * (c / 256 % 4) + 64 * (c / 64 % 4) + 16 * (c / 16 % 4) + 4 * (c / 4 % 4) + c % 4 := by
  have h1 : c / 16 = c / 4 / 4 := by rw [Nat.div_div_eq_div_mul]
  have h2 : c / 64 = c / 4 / 4 / 4 := by rw [Nat.div_div_eq_div_mul, Nat.div_div_eq_div_mul]
  have h3 : c / 256 = c / 4 / 4 / 4 / 4 := by rw [Nat.div_div_eq_div_mul, Nat.div_div_eq_div_mul, Nat.div_div_eq_div_mul]
  rw [h1, h2, h3]
  have e1 := Nat.div_add_mod c 4
  have e2 := Nat.div_add_mod (c / 4) 4
  have e3 := Nat.div_add_mod (c / 4 / 4) 4
  have e4 := Nat.div_add_mod (c / 4 / 4 / 4) 4
  have h5 : c / 4 / 4 / 4 / 4 < 4 := by
    rw [← h3]
    exact Nat.div_lt_of_lt_mul (by omega)
  rw [Nat.mod_eq_of_lt h5]
  generalize c % 4 = m1 at *
  generalize c / 4 / 4 / 4 / 4 = q4 at *
  generalize c / 4 / 4 / 4 % 4 = m4 at *
  generalize c / 4 / 4 / 4 = q3 at *
  generalize c / 4 / 4 % 4 = m3 at *
  generalize c / 4 / 4 = q2 at *
  generalize c / 4 % 4 = m2 at *
  generalize c / 4 = q1 at *
  clear h1 h2 h3
  omega

theorem digs_inj : ∀ (a b : List UInt8), a.length = b.length → digs a = digs b → a = b
  | [], [], _, _ => rfl
  | [], _ :: _, h, _ => by simp at h
  | _ :: _, [], h, _ => by simp at h
  | x :: a, y :: b, h, e => by
    have e1 : bdigs x ++ digs a = bdigs y ++ digs b := by simpa [digs] using e
    obtain ⟨e2, e3⟩ := List.append_inj e1 (by simp [bdigs])
    have hx := x.toNat_lt
    have hy := y.toNat_lt
    simp only [bdigs, List.cons.injEq, and_true] at e2
    have : x = y := by
      apply UInt8.toNat_inj.1
      have vx := cval x.toNat (by omega)
      have vy := cval y.toNat (by omega)
      rw [vx, vy, e2.1, e2.2.1, e2.2.2.1, e2.2.2.2, Nat.div_eq_of_lt hx, Nat.div_eq_of_lt hy]
    rw [this, digs_inj a b (by simpa using h) e3]

/-- Whether some number of the first k of x is less than y's at its place. -/
def ltK (x y : List Nat) : Nat → Bool
  | 0 => false
  | k + 1 => ltK x y k || decide (x.getD k 0 < y.getD k 0)

theorem ltK_true {x y : List Nat} {k : Nat} : ltK x y k = true ↔ ∃ i, i < k ∧ x.getD i 0 < y.getD i 0 := by
  induction k with
  | zero => simp [ltK]
  | succ k ih =>
    simp only [ltK, Bool.or_eq_true, decide_eq_true_eq, ih]
    constructor
    · rintro (⟨i, h1, h2⟩ | h)
      · exact ⟨i, by omega, h2⟩
      · exact ⟨k, by omega, h⟩
    · rintro ⟨i, h1, h2⟩
      by_cases hk : i = k
      · subst hk; exact .inr h2
      · exact .inl ⟨i, by omega, h2⟩

/-- Where no digit is less, the check is not greater; and less where the digits are unlike. -/
theorem chk_mono : ∀ (a b : List Nat), a.length = b.length → (∀ d ∈ a, d ≤ 3) → (∀ d ∈ b, d ≤ 3) → (∀ i, ¬ a.getD i 0 < b.getD i 0) → chk a ≤ chk b ∧ (a ≠ b → chk a < chk b)
  | [], [], _, _, _, _ => ⟨Nat.le_refl _, fun h => absurd rfl h⟩
  | [], _ :: _, h, _, _, _ => by simp at h
  | _ :: _, [], h, _, _, _ => by simp at h
  | x :: a, y :: b, h, ha, hb, hn => by
    have ih := chk_mono a b (by simpa using h) (fun d hd => ha d (by simp [hd])) (fun d hd => hb d (by simp [hd])) (fun i => by have := hn (i + 1); simpa using this)
    have h0 : ¬ x < y := by have := hn 0; simpa using this
    have hx := ha x (by simp)
    have hy := hb y (by simp)
    have e1 : chk (x :: a) = (3 - x) + chk a := by simp [chk]
    have e2 : chk (y :: b) = (3 - y) + chk b := by simp [chk]
    rw [e1, e2]
    refine ⟨by omega, fun hne => ?_⟩
    by_cases hxy : x = y
    · have : a ≠ b := fun e => hne (by rw [hxy, e])
      have := ih.2 this
      omega
    · omega

theorem cdigs_lt (c d : Nat) (hd : d < 1024) (h : c < d) : ∃ i, i < 5 ∧ (cdigs c).getD i 0 < (cdigs d).getD i 0 := by
  have hc := cval c (by omega)
  have hd' := cval d hd
  unfold cdigs
  generalize c / 256 % 4 = c0 at *
  generalize c / 64 % 4 = c1 at *
  generalize c / 16 % 4 = c2 at *
  generalize c / 4 % 4 = c3 at *
  generalize c % 4 = c4 at *
  generalize d / 256 % 4 = d0 at *
  generalize d / 64 % 4 = d1 at *
  generalize d / 16 % 4 = d2 at *
  generalize d / 4 % 4 = d3 at *
  generalize d % 4 = d4 at *
  by_cases h0 : c0 < d0
  · exact ⟨0, by omega, by simpa using h0⟩
  by_cases h1 : c1 < d1
  · exact ⟨1, by omega, by simpa using h1⟩
  by_cases h2 : c2 < d2
  · exact ⟨2, by omega, by simpa using h2⟩
  by_cases h3 : c3 < d3
  · exact ⟨3, by omega, by simpa using h3⟩
  by_cases h4 : c4 < d4
  · exact ⟨4, by omega, by simpa using h4⟩
  omega

theorem less_some (a b : List UInt8) (hl : a.length = b.length) : ltK (digF a) (digF b) (4 * min a.length 32 + 5) = (!decide (a.take 32 = b.take 32)) := by
  by_cases ht : a.take 32 = b.take 32
  · have e : digF a = digF b := by simp [digF, ht]
    rw [e, ht]
    simp only [decide_true, Bool.not_true]
    rw [← Bool.not_eq_true, ltK_true]
    rintro ⟨i, _, h⟩
    omega
  · simp only [ht, decide_false, Bool.not_false]
    rw [ltK_true]
    have hl2 : (a.take 32).length = (b.take 32).length := by simp [hl]
    by_cases hs : ∃ i, i < (digs (a.take 32)).length ∧ (digs (a.take 32)).getD i 0 < (digs (b.take 32)).getD i 0
    · obtain ⟨i, h1, h2⟩ := hs
      rw [digs_length] at h1
      refine ⟨i, by simp at h1; omega, ?_⟩
      have g1 : i < (digs (a.take 32)).length := by rw [digs_length]; exact h1
      have g2 : i < (digs (b.take 32)).length := by rw [digs_length]; omega
      unfold digF
      simp only [List.getD_eq_getElem?_getD, List.getElem?_append_left g1, List.getElem?_append_left g2] at h2 ⊢
      exact h2
    · have hno : ∀ i, ¬ (digs (a.take 32)).getD i 0 < (digs (b.take 32)).getD i 0 := by
        intro i h
        by_cases hi : i < (digs (a.take 32)).length
        · exact hs ⟨i, hi, h⟩
        · have hj : (digs (b.take 32)).length ≤ i := by rw [digs_length] at hi ⊢; omega
          simp [List.getD_eq_getElem?_getD, List.getElem?_eq_none hj] at h
      have hd : digs (a.take 32) ≠ digs (b.take 32) := fun e => ht (digs_inj _ _ hl2 e)
      have hc := (chk_mono _ _ (by rw [digs_length, digs_length, hl2]) (digs_le _) (digs_le _) hno).2 hd
      have hm := chk_le (digs (b.take 32))
      rw [digs_length] at hm
      have hm2 : (b.take 32).length ≤ 32 := by simp; omega
      obtain ⟨i, h1, h2⟩ := cdigs_lt _ _ (by omega) hc
      refine ⟨4 * min a.length 32 + i, by omega, ?_⟩
      have g1 : (digs (a.take 32)).length = 4 * min a.length 32 := by rw [digs_length]; simp; omega
      have g2 : (digs (b.take 32)).length = 4 * min a.length 32 := by rw [digs_length, ← hl2]; simp; omega
      unfold digF
      simp only [List.getD_eq_getElem?_getD] at h2 ⊢
      rw [List.getElem?_append_right (by omega), List.getElem?_append_right (by omega), g1, g2]
      simpa using h2

end Go.Proofs.YtdjaemobfbbkoaaDoor

namespace Go.Proofs.YtdjaemobfbbkoaaDoor
open Go.RowKit

def ic (n : Nat) : Value := .int .i64 (n : Int)
def ics (l : List Nat) : List Value := l.map ic
theorem ics_length (l : List Nat) : (ics l).length = l.length := by simp [ics]
theorem ics_get (l : List Nat) (i : Nat) : (ics l)[i]? = l[i]?.map ic := by simp [ics]

/-- The value v is a slice of the numbers l. -/
def IA (w : World) (v : Value) (l : List Nat) : Prop :=
  ∃ (p : Option Addr) (cap : Nat), v = .slice p l.length cap ∧ l.length ≤ cap ∧ cap ≤ maxLen ∧
    (l ≠ [] → ∃ b o, p = some ⟨b, o, none⟩ ∧ ∀ i x, l[i]? = some x → w.cell? ⟨b, o + i, none⟩ = some (ic x))

theorem IA.later {w w' : World} {v : Value} {l : List Nat} (h : IA w v l) (hb : Below w.heap.size w w') : IA w' v l := by
  obtain ⟨p, cap, e, h1, h2, h4⟩ := h
  refine ⟨p, cap, e, h1, h2, fun hn => ?_⟩
  obtain ⟨b, o, e1, e2⟩ := h4 hn
  exact ⟨b, o, e1, fun i x hx => cell_later hb (e2 i x hx)⟩

theorem IA.shape {w : World} {v : Value} {l : List Nat} (h : IA w v l) : ∃ p c, v = .slice p l.length c := by
  obtain ⟨p', cap, e, _⟩ := h
  exact ⟨p', cap, e⟩

theorem IA.len_le {w : World} {v : Value} {l : List Nat} (h : IA w v l) : l.length ≤ maxLen := by
  obtain ⟨p, cap, e, h1, h2, h4⟩ := h
  omega

theorem IA.addr {w : World} {p : Option Addr} {n c : Nat} {l : List Nat} (h : IA w (.slice p n c) l) (hn : 0 < n) : ∃ b o, p = some ⟨b, o, none⟩ ∧ ∀ (i x : Nat), l[i]? = some x → w.cell? ⟨b, o + i, none⟩ = some (.int .i64 (x : Int)) := by
  obtain ⟨p', cap, e, h1, h2, h4⟩ := h
  simp only [Value.slice.injEq] at e
  obtain ⟨rfl, rfl, rfl⟩ := e
  exact h4 (fun h => by subst h; simp at hn)

theorem IA.of_owns {w : World} {base : Nat} {e : TypeId} {v : Value} {n : Nat} {l : List Nat} (h : w.ownsRow base e 1 v n (ics l)) : IA w v l := by
  obtain ⟨h1, h2⟩ := h
  rw [ics_length, Nat.mul_one] at h1
  subst h1
  rcases h2 with ⟨rfl, h0⟩ | ⟨g, cap, cur, rfl, hb, hg, hl, hm, hs, ht⟩
  · obtain rfl : l = [] := List.eq_nil_of_length_eq_zero h0
    exact ⟨none, 0, rfl, Nat.le_refl _, Nat.zero_le _, fun h => absurd rfl h⟩
  · refine ⟨_, cap, rfl, hl, hm, fun _ => ⟨g, 0, rfl, fun i x hx => ?_⟩⟩
    rw [Nat.zero_add, cell_of_row w g i cur e (0, 0) hg]
    have hi : i < l.length := (List.getElem?_eq_some_iff.1 hx).1
    have e1 : (ics l)[i]? = some (ic x) := by rw [ics_get, hx]; rfl
    rw [← ht, List.getElem?_take, if_pos (by omega)] at e1
    simpa using e1

/-- A literal of numbers in a new block, part of which may be frozen. -/
theorem IA.litF (w : World) (e : TypeId) (l : List Nat) (cs : Array Value) (n : Nat) (fr : Nat × Nat) (hc : cs = (ics l).toArray) (hn : n = l.length) (hm : n ≤ maxLen) : IA (w.alloc (.cells cs e fr)) (.slice (some ⟨w.heap.size, 0, none⟩) n n) l := by
  subst hc; subst hn
  refine ⟨_, l.length, rfl, Nat.le_refl _, hm, fun _ => ⟨_, 0, rfl, fun i x hx => ?_⟩⟩
  rw [Nat.zero_add, cell_of_row _ _ i _ _ _ (heap_alloc_new w _)]
  simp [ics, hx]

end Go.Proofs.YtdjaemobfbbkoaaDoor

namespace Go.Proofs.YtdjaemobfbbkoaaDoor
open Go.RowKit

def dg (n k : Nat) : Nat := n / 4 ^ k % 4

theorem dg_calc : ∀ n : Fin 1024, ∀ k : Fin 5, bits BinOp.and IntKind.i64 ((n.val : Int) / 2 ^ (2 * k.val)) 3 = ((dg n.val k.val : Nat) : Int) := by decide +kernel

theorem dg_le (n k : Nat) : dg n k ≤ 3 := by unfold dg; omega

set_option maxRecDepth 100000 in
set_option maxHeartbeats 400000 in
theorem digit_any (n k : Nat) (w : World) (hn : n < 1024) (hk : k < 5) :
    Calls Tryd.prog 69 #[.int .i64 (n : Int), .int .i64 (k : Int)] w fun e w' => e = .returned (.int .i64 ((dg n k : Nat) : Int)) ∧ w' = w := by
  have hd : Hid (bits BinOp.and IntKind.i64 ((n : Int) / 2 ^ (2 * k)) 3 = ((dg n k : Nat) : Int)) := dg_calc ⟨n, hn⟩ ⟨k, hk⟩
  generalize dg n k = D at *
  go_enter Tryd.func69, Tryd.ntmps69
  go_wp2
  rw [hd.out]
  go_ret
  exact ⟨rfl, rfl⟩

theorem chaincount_any (n : Nat) (w : World) (hn : n ≤ 1000000) :
    Calls Tryd.prog 45 #[.int .i64 (n : Int)] w fun e w' => e = .returned (.int .i64 ((4 * n + 5 : Nat) : Int)) ∧ w' = w := by
  go_enter Tryd.func45, Tryd.ntmps45
  go_wp2
  go_ret
  exact ⟨by go_num, rfl⟩

theorem bdigs_step (b : UInt8) (j : Nat) (hj : j < 4) : (bdigs b).take (j + 1) = (bdigs b).take j ++ [dg b.toNat (3 - j)] := by
  match j, hj with
  | 0, _ => simp [bdigs, dg]
  | 1, _ => simp [bdigs, dg]
  | 2, _ => simp [bdigs, dg]
  | 3, _ => simp [bdigs, dg]

theorem cdigs_step (c : Nat) (j : Nat) (hj : j < 5) : (cdigs c).take (j + 1) = (cdigs c).take j ++ [dg c (4 - j)] := by
  match j, hj with
  | 0, _ => simp [cdigs, dg]
  | 1, _ => simp [cdigs, dg]
  | 2, _ => simp [cdigs, dg]
  | 3, _ => simp [cdigs, dg]
  | 4, _ => simp [cdigs, dg]

theorem digs_step (l : List UInt8) (k : Nat) (b : UInt8) (h : l[k]? = some b) : digs (l.take (k + 1)) = digs (l.take k) ++ bdigs b := by
  rw [List.take_add_one, h]
  simp [digs]

theorem chk_one (d : Nat) : chk [d] = 3 - d := by simp [chk]

theorem i_int : (Tryd.prog.info? 3).map (fun i => (i.zero, i.size, i.bytes)) = some (some (.int .i64 0), 1, 8) := by kernel_rfl

set_option maxRecDepth 100000 in
set_option maxHeartbeats 4000000 in
theorem digits_any (v : Value) (l : List UInt8) (w : World) (h : HB w v l) :
    Calls Tryd.prog 46 #[v] w fun e w' => ∃ v', e = .returned v' ∧ w'.ownsRow w.heap.size 3 1 v' (digF l).length (ics (digF l)) ∧ Below w.heap.size w w' := by
  obtain ⟨p, c, rfl⟩ := h.shape
  have hlen := h.len
  unfold maxLen at hlen
  obtain ⟨i0, hi, hz0, hz1, hz2⟩ := info_parts i_int
  have hf := h.front (min l.length 32) (by omega)
  rw [show l.take (min l.length 32) = l.take 32 by rw [List.take_eq_take_iff]; omega] at hf
  have HF : Hid (digF l = digs (l.take 32) ++ cdigs (chk (digs (l.take 32)))) := rfl
  have ht32 : (l.take 32).length ≤ 32 := by simp; omega
  have hT := hf.len.1
  go_enter Tryd.func46, Tryd.ntmps46
  generalize digF l = F at *
  generalize l.take 32 = t at *
  rcases Nat.lt_or_ge 32 l.length with hbig | hbig
  case' inl =>
    rw [show min l.length 32 = 32 by omega] at hf hT
    have hbig2 : (32 : Int) < (l.length : Int) := by omega
    go_wp2_with fail
    rw [hT] at hf
  case' inr =>
    rw [show min l.length 32 = l.length by omega] at hf hT
    have hbig2 : (l.length : Int) ≤ 32 := by omega
    go_wp2_with fail
    rw [hT] at hf
  all_goals
    have hcm := hf.len
    unfold maxLen at hcm
    clear h hT hbig hbig2 hlen
    refine (chaincount_any _ _ (by omega)).mono ?_
    rintro e w0 ⟨rfl, hw0⟩
    have hw2 := hw0.symm
    clear hw0
    subst hw2
    go_wp2_with (first | (at_make; refine wpList_make_own _ rfl _ _ 93 rfl w.heap.size 3 i0 (.int .i64 0) 1 Tryd.underlying93 hi hz0 hz1 .i64 .i64 _ (4 * t.length + 5) rfl rfl ?qa ?qb ?qc ?qd ?_))
    case qa => omega
    case qb => rw [hz2]; omega
    case qc => unfold maxLen; omega
    case qd => exact Nat.le_refl _
    intro w1 hown1 hgrow1
    have hb1 : Below w.heap.size w w1 := (Below.refl _ w).grown hgrow1 (Nat.le_refl _) (by intro k hk; cases hk)
    go_wp2
    go_loopw [3, 4, 21] (fun v x i wr => ∃ k : Nat, k ≤ t.length ∧ i = .int .i64 k ∧ x = .int .i64 ((chk (digs (t.take k)) : Nat) : Int) ∧ wr.ownsRow w.heap.size 3 1 v (digs (t.take k)).length (ics (digs (t.take k))) ∧ Below w.heap.size w wr) (fun _ _ i _ => t.length - (intOf i).toNat)
    case atStart => exact ⟨0, Nat.zero_le _, rfl, by simp [digs, chk], by simpa [digs, ics] using hown1, hb1⟩
    case round =>
      obtain ⟨k, hk, rfl, rfl, hown, hbe⟩ := hrel
      clear hown1 hb1 hgrow1
      have hck := chk_le (digs (t.take k))
      rw [digs_length] at hck hown
      have htk : (t.take k).length ≤ 32 := by simp; omega
      have hsz := hbe.size
      generalize hC : chk (digs (t.take k)) = C at *
      have HC : Hid (chk (digs (t.take k)) = C) := hC
      generalize hD : digs (t.take k) = D at *
      have HD : Hid (digs (t.take k) = D) := hD
      generalize hN : (t.take k).length = N at *
      have HN : Hid ((t.take k).length = N) := hN
      clear hC hD hN
      by_cases hlt : k < t.length
      · obtain ⟨b, o, rfl, f1⟩ := (hf.later hbe).addr (by omega)
        have c1 := f1 k t[k] (List.getElem?_eq_getElem hlt)
        have HY : Hid (t[k]? = some t[k]) := List.getElem?_eq_getElem hlt
        generalize t[k] = y at *
        clear f1
        unfold bc at c1
        have hy := y.toNat_lt
        have hlt2 : (k : Int) < (t.length : Int) := by omega
        go_wp2
        go_loopw [3, 4, 7] (fun v x i wr => ∃ j : Nat, j ≤ 4 ∧ i = .int .i64 (3 - (j : Int)) ∧ x = .int .i64 ((C + chk ((bdigs y).take j) : Nat) : Int) ∧ wr.ownsRow w.heap.size 3 1 v (4 * N + j) (ics (D ++ (bdigs y).take j)) ∧ Below w.heap.size w wr) (fun _ _ i _ => (intOf i + 1).toNat)
        case atStart => exact ⟨0, Nat.zero_le _, rfl, by simp [chk], by simpa using hown, hbe⟩
        case round =>
          obtain ⟨j, hj, rfl, rfl, hown2, hbe2⟩ := hrel
          clear hown hbe
          have hbl := chk_le ((bdigs y).take j)
          have hbl2 : ((bdigs y).take j).length ≤ 4 := by simp [bdigs]; omega
          have hsz2 := hbe2.size
          by_cases hlt4 : j < 4
          · have hG : Calls Tryd.prog 69 #[.int .i64 (y.toNat : Int), .int .i64 (3 - (j : Int))] wr fun e w' => e = .returned (.int .i64 ((dg y.toNat (3 - j) : Nat) : Int)) ∧ w' = wr := by
              rw [show (3 : Int) - (j : Int) = ((3 - j : Nat) : Int) by omega]
              exact digit_any _ _ _ (by omega) (by omega)
            have hd3 := dg_le y.toNat (3 - j)
            have HS : Hid ((bdigs y).take (j + 1) = (bdigs y).take j ++ [dg y.toNat (3 - j)]) := bdigs_step y j hlt4
            have HS2 : Hid (chk ((bdigs y).take (j + 1)) = chk ((bdigs y).take j) + (3 - dg y.toNat (3 - j))) := by
              show chk ((bdigs y).take (j + 1)) = _
              rw [HS.out, chk_append, chk_one]
            generalize dg y.toNat (3 - j) = G at *
            generalize hX : (bdigs y).take j = X at *
            generalize hZ : (bdigs y).take (j + 1) = Z at *
            have HZ : Hid ((bdigs y).take (j + 1) = Z) := hZ
            generalize hE : chk X = E at *
            have HE : Hid (chk X = E) := hE
            clear hX hZ hE
            go_wp2_with fail
            refine hG.mono ?_
            rintro e w5 ⟨rfl, hw5⟩
            have hw6 := hw5.symm
            clear hw5
            subst hw6
            go_wp2_with (first | (at_builtin; refine wpList_append_own _ rfl (.tmp 33) (.tmp 35) 93 rfl w.heap.size 3 i0 (.int .i64 0) 1 8 Tryd.underlying93 hi hz0 hz1 hz2 rfl (by decide) _ _ _ rfl (hown2.alloc _) ⟨wr.heap.size, 0, none⟩ 1 1 [.int .i64 (G : Int)] rfl rfl ?ra ?rb ?rc ?rd ?re ?_))
            case ra => exact cell_one_new _ _ _
            case rb => intro u hu; simp at hu; subst hu; rfl
            case rc => unfold maxLen; omega
            case rd => omega
            case re => simp; omega
            intro v3 w3 hown3 hgrow3 _
            have hb3 : Below w.heap.size w w3 := (hbe2.alloc hsz2 _).grown hgrow3 (by simp; omega) (fun k hk => (hown2.lt k hk).1)
            have hown4 : w3.ownsRow w.heap.size 3 1 v3 (4 * N + (j + 1)) (ics (D ++ Z)) := by
              rw [HS.out]
              have := hown3
              simp only [ics, List.map_append, List.map_cons, List.map_nil, ic, List.append_assoc] at this ⊢
              exact this
            clear hown2 hown3 hgrow3 hbe2 hG
            go_wp2
            go_roundw
            case rel => first | exact ⟨j + 1, by omega, by go_num, by rw [HZ.out, HS2.out]; go_num, by rw [HZ.out]; exact hown4, hb3⟩ | ((repeat apply Exists.intro); exact ⟨⟨j + 1, by omega, by go_num, by rw [HZ.out, HS2.out]; go_num, by rw [HZ.out]; exact hown4, hb3⟩, rfl⟩)
            case measure => simp [intOf]; omega
          · obtain rfl : j = 4 := by omega
            rw [show (bdigs y).take 4 = bdigs y from rfl] at *
            have HS : Hid (digs (t.take (k + 1)) = D ++ bdigs y) := by
              show digs (t.take (k + 1)) = _
              rw [digs_step t k y HY.out, HD.out]
            have HS2 : Hid (chk (digs (t.take (k + 1))) = C + chk (bdigs y)) := by
              show chk (digs (t.take (k + 1))) = _
              rw [HS.out, chk_append, HC.out]
            have HN2 : Hid ((t.take (k + 1)).length = N + 1) := by
              show (t.take (k + 1)).length = N + 1
              rw [← HN.out]
              simp
              omega
            generalize bdigs y = B at *
            generalize hE : chk B = E at *
            have HE : Hid (chk B = E) := hE
            clear hE
            go_wp2
            go_roundw
            case rel =>
              have q1 : wr.ownsRow w.heap.size 3 1 u3 (digs (t.take (k + 1))).length (ics (digs (t.take (k + 1)))) := by
                rw [digs_length, HN2.out, HS.out]
                exact hown2
              first | exact ⟨k + 1, by omega, by go_num, by rw [HS2.out], q1, hbe2⟩ | ((repeat apply Exists.intro); exact ⟨⟨k + 1, by omega, by go_num, by rw [HS2.out], q1, hbe2⟩, rfl⟩)
            case measure => simp [intOf]; omega
      · have hkl : k = t.length := by omega
        have e1 : t.take k = t := List.take_of_length_le (by omega)
        rw [e1] at HD HN
        have HF2 : Hid (F = D ++ cdigs C) := by
          show F = _
          rw [HF.out, HD.out, HC.out]
        clear hkl e1 HF
        go_wp2
        go_loopw [3, 9] (fun v i wr => ∃ j : Nat, j ≤ 5 ∧ i = .int .i64 (4 - (j : Int)) ∧ wr.ownsRow w.heap.size 3 1 v (4 * N + j) (ics (D ++ (cdigs C).take j)) ∧ Below w.heap.size w wr) (fun _ i _ => (intOf i + 1).toNat)
        case atStart => exact ⟨0, Nat.zero_le _, rfl, by simpa using hown, hbe⟩
        case round =>
          obtain ⟨j, hj, rfl, hown2, hbe2⟩ := hrel
          clear hown hbe
          have hsz2 := hbe2.size
          by_cases hlt4 : j < 5
          · have hG : Calls Tryd.prog 69 #[.int .i64 (C : Int), .int .i64 (4 - (j : Int))] wr fun e w' => e = .returned (.int .i64 ((dg C (4 - j) : Nat) : Int)) ∧ w' = wr := by
              rw [show (4 : Int) - (j : Int) = ((4 - j : Nat) : Int) by omega]
              exact digit_any _ _ _ (by omega) (by omega)
            have HS : Hid ((cdigs C).take (j + 1) = (cdigs C).take j ++ [dg C (4 - j)]) := cdigs_step C j hlt4
            generalize dg C (4 - j) = G at *
            generalize hX : (cdigs C).take j = X at *
            generalize hZ : (cdigs C).take (j + 1) = Z at *
            have HZ : Hid ((cdigs C).take (j + 1) = Z) := hZ
            clear hX hZ
            go_wp2_with fail
            refine hG.mono ?_
            rintro e w5 ⟨rfl, hw5⟩
            have hw6 := hw5.symm
            clear hw5
            subst hw6
            go_wp2_with (first | (at_builtin; refine wpList_append_own _ rfl (.tmp 46) (.tmp 50) 93 rfl w.heap.size 3 i0 (.int .i64 0) 1 8 Tryd.underlying93 hi hz0 hz1 hz2 rfl (by decide) _ _ _ rfl (hown2.alloc _) ⟨wr.heap.size, 0, none⟩ 1 1 [.int .i64 (G : Int)] rfl rfl ?ra ?rb ?rc ?rd ?re ?_))
            case ra => exact cell_one_new _ _ _
            case rb => intro u hu; simp at hu; subst hu; rfl
            case rc => unfold maxLen; omega
            case rd => omega
            case re => simp; omega
            intro v3 w3 hown3 hgrow3 _
            have hb3 : Below w.heap.size w w3 := (hbe2.alloc hsz2 _).grown hgrow3 (by simp; omega) (fun k hk => (hown2.lt k hk).1)
            have hown4 : w3.ownsRow w.heap.size 3 1 v3 (4 * N + (j + 1)) (ics (D ++ Z)) := by
              rw [HS.out]
              have := hown3
              simp only [ics, List.map_append, List.map_cons, List.map_nil, ic, List.append_assoc] at this ⊢
              exact this
            clear hown2 hown3 hgrow3 hbe2 hG
            go_wp2
            go_roundw
            case rel => first | exact ⟨j + 1, by omega, by go_num, by rw [HZ.out]; exact hown4, hb3⟩ | ((repeat apply Exists.intro); exact ⟨⟨j + 1, by omega, by go_num, by rw [HZ.out]; exact hown4, hb3⟩, rfl⟩)
            case measure => simp [intOf]; omega
          · obtain rfl : j = 5 := by omega
            rw [show (cdigs C).take 5 = cdigs C from rfl, ← HF2.out] at hown2
            go_wp2
            go_ret
            refine ⟨_, rfl, ?_, hbe2⟩
            have e1 : F.length = 4 * N + 5 := by
              rw [HF2.out, List.length_append, ← HD.out, digs_length, HN.out]
              rfl
            rw [e1]
            exact hown2

end Go.Proofs.YtdjaemobfbbkoaaDoor
