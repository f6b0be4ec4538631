/- What this text holds: the ways of layer 17 told plainly: a hop, a part (its kids told by their number), whether a way may be, its texts; and that two ways under one hash have the same texts, or part in a text whose hash is one. No program is named. What this text holds: a slice of hops in memory; a part's fields, by value. What this text proves: the walks of parts.IsSize, IsEpoch, noLeaf, noFork, isLeaf, and of the document's epoch, over this program. (By program: mkptsmall.py.) -/
import Derived.Test.YtahfjemllkbpgaaGreatDoorJB1
import Derived.Test.YtahfjemllkbpgaaGreatDoorJN1
import Derived.Test.YtahfjemllkbpgaaGreatDoorBitsPlain
import Derived.Test.YtahfjemllkbpgaaGreatDoorFacts
namespace Go.Proofs.YtahfjemllkbpgaaGreatDoor
open Go.RowKit

/-- A hop: depth, newest, the sibling's hash. -/
structure Hp where
  d : Int
  n : Int
  s : List UInt8

/-- A part: its kind, a leaf's fields, a fork's fields, its hashes, how many kids it has. -/
structure Pt where
  k : Int
  id : List UInt8
  key : List UInt8
  si : Int
  d : Int
  pre : List UInt8
  nw : Int
  l : List UInt8
  r : List UInt8
  kids : Nat

def epB (n : Int) : Bool := decide (0 ≤ n) && decide (n ≤ 255)
def noLeafB (x : Pt) : Bool := decide (x.id.length = 0) && (decide (x.key.length = 0) && decide (x.si = 0))
def noForkB (x : Pt) : Bool := decide (x.d = 0) && (decide (x.pre.length = 0) && decide (x.nw = 0))
def isLeafB (x : Pt) : Bool := decide (x.id.length ≤ 255) && (decide (x.key.length ≤ 48) && epB x.si)
def isForkB (x : Pt) : Bool := decide (0 ≤ x.d) && (decide (x.d ≤ 2048) && (epB x.nw && (decide ((x.pre.length : Int) = (x.d + 7) / 8) && decide (x.pre = firstF x.pre x.d))))

/-- Whether a part, its kids not looked at, has just what its kind has. -/
def shapedB (size : Int) (x : Pt) : Bool :=
  if x.k = 0 then noLeafB x && (noForkB x && (decide (x.l.length + x.r.length = 0) && decide (x.kids = 0)))
  else if x.k = 1 then isLeafB x && (noForkB x && (decide (x.l.length + x.r.length = 0) && decide (x.kids = 0)))
  else if x.k = 2 then noLeafB x && (isForkB x && (decide ((x.l.length : Int) = size) && (decide ((x.r.length : Int) = size) && decide (x.kids = 0))))
  else if x.k = 3 then noLeafB x && (isForkB x && (decide (x.l.length + x.r.length = 0) && decide (x.kids = 2)))
  else false

/-- How many bits are shared behind hops, if they may be. -/
def downF (size : Int) (row : List UInt8) : List Hp → Int → Option Int
  | [], s => some s
  | h :: t, s => if h.d < s ∨ 8 * (row.length : Int) ≤ h.d ∨ epB h.n = false ∨ (h.s.length : Int) ≠ size then none else downF size row t (h.d + 1)

/-- Whether a way may end so. -/
def endsB (size : Int) (row : List UInt8) (s : Int) (x : Pt) : Bool :=
  shapedB size x &&
    (if x.k = 0 then decide (s = 0)
     else if x.k = 1 then decide (s ≤ (com (keyF x.id) row : Int))
     else if x.k = 2 then decide (s ≤ x.d) && (decide (s ≤ (com x.pre row : Int)) && !decide (x.d ≤ (com row x.pre : Int)))
     else false)

def wayB (size : Int) (row : List UInt8) (s : Int) (hs : List Hp) (x : Pt) : Bool :=
  match downF size row hs s with
  | none => false
  | some s' => endsB size row s' x

/-- Whether it may be a way of the identity. -/
def chkW (size : Int) (id : List UInt8) (hs : List Hp) (x : Pt) : Bool :=
  decide (1 ≤ size) && (decide (size ≤ 32) && (decide (id.length ≤ 24) && wayB size (keyF id) 0 hs x))

def cutT (size : Int) (t : List UInt8) : List UInt8 := (sha t).take (cutLen size)
def forkT (d : Int) (pre : List UInt8) (nw : Int) (a b : List UInt8) : List UInt8 := 2 :: body [numB d, firstF pre d, numB nw, a, b]
def leafT (id key : List UInt8) (si : Int) : List UInt8 := 1 :: body [id, key, numB si]
/-- The text of a part that has its kids' hashes. -/
def partT (x : Pt) (a b : List UInt8) : List UInt8 := if x.k = 0 then [0] else if x.k = 1 then leafT x.id x.key x.si else forkT x.d x.pre x.nw a b
def endT (x : Pt) : List UInt8 := partT x x.l x.r

/-- A hop's text above a kid's hash. -/
def hopT (row : List UInt8) (h : Hp) (k : List UInt8) : List UInt8 := if bitF row h.d = 0 then forkT h.d row h.n k h.s else forkT h.d row h.n h.s k
/-- The texts from the root's on. -/
def upW (size : Int) (row : List UInt8) (x : Pt) : List Hp → List (List UInt8)
  | [] => [endT x]
  | h :: t => hopT row h (cutT size ((upW size row x t).headD [])) :: upW size row x t

def textsW (size : Int) (id : List UInt8) (hs : List Hp) (x : Pt) : List (List UInt8) := if chkW size id hs x then upW size (keyF id) x hs else []

theorem upW_len (size : Int) (row : List UInt8) (x : Pt) (hs : List Hp) : (upW size row x hs).length = hs.length + 1 := by
  induction hs with
  | nil => rfl
  | cons h t ih => simp [upW, ih]

theorem upW_ne (size : Int) (row : List UInt8) (x : Pt) (hs : List Hp) : upW size row x hs ≠ [] := by
  intro h
  have := upW_len size row x hs
  rw [h] at this
  simp at this

theorem be64_inj {a b : Nat} (ha : a < 18446744073709551616) (hb : b < 18446744073709551616) (h : be64 a = be64 b) : a = b := by
  have q : ∀ k, k < 8 → UInt8.ofNat (a / 2 ^ (8 * (7 - k))) = UInt8.ofNat (b / 2 ^ (8 * (7 - k))) := by
    intro k hk
    have h1 := be64_get a k hk
    have h2 := be64_get b k hk
    rw [h] at h1
    rw [h1] at h2
    simpa using h2
  have q' : ∀ k, k < 8 → a / 2 ^ (8 * (7 - k)) % 256 = b / 2 ^ (8 * (7 - k)) % 256 := by
    intro k hk
    have := congrArg UInt8.toNat (q k hk)
    simpa using this
  have h0 := q' 0 (by omega)
  have h1 := q' 1 (by omega)
  have h2 := q' 2 (by omega)
  have h3 := q' 3 (by omega)
  have h4 := q' 4 (by omega)
  have h5 := q' 5 (by omega)
  have h6 := q' 6 (by omega)
  have h7 := q' 7 (by omega)
  simp only [Nat.reduceMul, Nat.reduceSub, Nat.reducePow] at h0 h1 h2 h3 h4 h5 h6 h7
  omega

theorem numB_inj {a b : Int} (ha : 0 ≤ a) (ha' : a ≤ 9223372036854775807) (hb : 0 ≤ b) (hb' : b ≤ 9223372036854775807) (h : numB a = numB b) : a = b := by
  unfold numB at h
  have e1 : IntKind.u64.wrap a = a := by rw [IntKind.wrap_u64]; omega
  have e2 : IntKind.u64.wrap b = b := by rw [IntKind.wrap_u64]; omega
  rw [e1, e2] at h
  have := be64_inj (by omega) (by omega) h
  omega

theorem numB_len (n : Int) : (numB n).length = 8 := by unfold numB; exact be64_length _

theorem cutT_len (size : Int) (t : List UInt8) : (cutT size t).length = min (cutLen size) 32 := by
  unfold cutT
  rw [List.length_take, sha_length]

theorem cutT_le (size : Int) (t : List UInt8) : (cutT size t).length ≤ 32 := by rw [cutT_len]; omega

theorem firstF_le (l : List UInt8) (d : Int) : (firstF l d).length ≤ l.length := by unfold firstF; rw [firstN_length]; omega

theorem keyF_le (l : List UInt8) : (keyF l).length ≤ 256 := by rw [keyF_length]; omega

/-- Two forks' texts that are the same tell the same depth, bits and hashes. -/
theorem forkT_inj {d d' n n' : Int} {p p' a b a' b' : List UInt8} (h0 : 0 ≤ d) (h1 : d ≤ 2048) (h0' : 0 ≤ d') (h1' : d' ≤ 2048) (hp : p.length ≤ 65535) (hp' : p'.length ≤ 65535) (ha : a.length ≤ 65535) (hb : b.length ≤ 65535) (ha' : a'.length ≤ 65535) (hb' : b'.length ≤ 65535)
    (h : forkT d p n a b = forkT d' p' n' a' b') : d = d' ∧ firstF p d = firstF p' d' ∧ a = a' ∧ b = b' := by
  have e1 := firstF_le p d
  have e2 := firstF_le p' d'
  unfold forkT at h
  have hb := body_inj _ _ (by
    intro q hq
    simp only [List.mem_cons, List.not_mem_nil, or_false] at hq
    rcases hq with rfl | rfl | rfl | rfl | rfl <;> (try rw [numB_len]) <;> omega) (by
    intro q hq
    simp only [List.mem_cons, List.not_mem_nil, or_false] at hq
    rcases hq with rfl | rfl | rfl | rfl | rfl <;> (try rw [numB_len]) <;> omega) (List.cons.inj h).2
  simp only [List.cons.injEq, and_true] at hb
  obtain ⟨q1, q2, q3, q4, q5⟩ := hb
  exact ⟨numB_inj h0 (by omega) h0' (by omega) q1, q2, q4, q5⟩

theorem leafT_inj {s s' : Int} {a b a' b' : List UInt8} (h0 : 0 ≤ s) (h1 : s ≤ 255) (h0' : 0 ≤ s') (h1' : s' ≤ 255) (ha : a.length ≤ 65535) (hb : b.length ≤ 65535) (ha' : a'.length ≤ 65535) (hb' : b'.length ≤ 65535)
    (h : leafT a b s = leafT a' b' s') : a = a' ∧ b = b' ∧ s = s' := by
  unfold leafT at h
  have hb := body_inj _ _ (by
    intro q hq
    simp only [List.mem_cons, List.not_mem_nil, or_false] at hq
    rcases hq with rfl | rfl | rfl <;> (try rw [numB_len]) <;> omega) (by
    intro q hq
    simp only [List.mem_cons, List.not_mem_nil, or_false] at hq
    rcases hq with rfl | rfl | rfl <;> (try rw [numB_len]) <;> omega) (List.cons.inj h).2
  simp only [List.cons.injEq, and_true] at hb
  obtain ⟨q1, q2, q3⟩ := hb
  exact ⟨q1, q2, numB_inj h0 (by omega) h0' (by omega) q3⟩

theorem epB_range {n : Int} (h : epB n = true) : 0 ≤ n ∧ n ≤ 255 := by
  unfold epB at h
  simpa using h

theorem downF_cons {size : Int} {row : List UInt8} {h : Hp} {t : List Hp} {s s' : Int} (hh : downF size row (h :: t) s = some s') : ¬ h.d < s ∧ h.d < 8 * (row.length : Int) ∧ epB h.n = true ∧ (h.s.length : Int) = size ∧ downF size row t (h.d + 1) = some s' := by
  unfold downF at hh
  split at hh
  · cases hh
  · rename_i hc
    simp only [not_or, Int.not_le, Bool.not_eq_false, ne_eq, Decidable.not_not] at hc
    exact ⟨hc.1, hc.2.1, hc.2.2.1, hc.2.2.2, hh⟩

theorem wayB_cons {size : Int} {row : List UInt8} {h : Hp} {t : List Hp} {s : Int} {x : Pt} (hh : wayB size row s (h :: t) x = true) : ¬ h.d < s ∧ h.d < 8 * (row.length : Int) ∧ epB h.n = true ∧ (h.s.length : Int) = size ∧ wayB size row (h.d + 1) t x = true := by
  unfold wayB at hh
  split at hh
  · cases hh
  · rename_i s' he
    obtain ⟨a, b, c, d, e⟩ := downF_cons he
    refine ⟨a, b, c, d, ?_⟩
    unfold wayB
    rw [e]
    exact hh

/-- What is known of an end that may be. -/
theorem end_cases {size : Int} {row : List UInt8} {s : Int} {x : Pt} (h : endsB size row s x = true) :
    (x.k = 0 ∧ endT x = [0]) ∨ (x.k = 1 ∧ endT x = leafT x.id x.key x.si ∧ x.id.length ≤ 255 ∧ x.key.length ≤ 48 ∧ 0 ≤ x.si ∧ x.si ≤ 255) ∨
      (x.k = 2 ∧ endT x = forkT x.d x.pre x.nw x.l x.r ∧ 0 ≤ x.d ∧ x.d ≤ 2048 ∧ (x.pre.length : Int) = (x.d + 7) / 8 ∧ x.pre = firstF x.pre x.d ∧ (x.l.length : Int) = size ∧ (x.r.length : Int) = size ∧ ¬ x.d ≤ (com row x.pre : Int)) := by
  unfold endsB at h
  rw [Bool.and_eq_true] at h
  obtain ⟨hs, he⟩ := h
  by_cases h0 : x.k = 0
  · left
    exact ⟨h0, by simp [endT, partT, h0]⟩
  · by_cases h1 : x.k = 1
    · right; left
      unfold shapedB isLeafB epB at hs
      rw [if_neg h0, if_pos h1] at hs
      simp only [Bool.and_eq_true, decide_eq_true_eq] at hs
      exact ⟨h1, by simp [endT, partT, h1], hs.1.1, hs.1.2.1, hs.1.2.2.1, hs.1.2.2.2⟩
    · by_cases h2 : x.k = 2
      · right; right
        unfold shapedB isForkB at hs
        rw [if_neg h0, if_neg h1, if_pos h2] at hs
        rw [if_neg h0, if_neg h1, if_pos h2] at he
        simp only [Bool.and_eq_true, decide_eq_true_eq, Bool.not_eq_true', decide_eq_false_iff_not] at hs he
        refine ⟨h2, by simp [endT, partT, h2], hs.2.1.1, hs.2.1.2.1, hs.2.1.2.2.2.1, hs.2.1.2.2.2.2, hs.2.2.1, hs.2.2.2.1, he.2.2⟩
      · rw [if_neg h0, if_neg h1, if_neg h2] at he
        cases he

/-- Where the first that are unlike have one hash. -/
def partsAt (size : Int) (l m : List (List UInt8)) : Prop :=
  ∃ (i : Nat) (a b : List UInt8), l[i]? = some a ∧ m[i]? = some b ∧ a ≠ b ∧ cutT size a = cutT size b ∧ ∀ j < i, l[j]? = m[j]?

theorem partsAt_cons {size : Int} {l m : List (List UInt8)} (t : List UInt8) (h : partsAt size l m) : partsAt size (t :: l) (t :: m) := by
  obtain ⟨i, a, b, h1, h2, h3, h4, h5⟩ := h
  refine ⟨i + 1, a, b, by simpa using h1, by simpa using h2, h3, h4, fun j hj => ?_⟩
  cases j with
  | zero => rfl
  | succ j => simpa using h5 j (by omega)

/-- A hop's text is not an end's. -/
theorem hop_end {size : Int} {row k : List UInt8} {h : Hp} {s : Int} {x : Pt} (hrow : row.length ≤ 256) (hk : k.length ≤ 32) (hsz : size ≤ 32) (h0 : 0 ≤ h.d) (h1 : h.d < 8 * (row.length : Int)) (h2 : (h.s.length : Int) = size) (hx : endsB size row s x = true) : hopT row h k ≠ endT x := by
  intro e
  have hp : ∃ a b, hopT row h k = forkT h.d row h.n a b ∧ a.length ≤ 65535 ∧ b.length ≤ 65535 := by
    unfold hopT
    split
    · exact ⟨k, h.s, rfl, by omega, by omega⟩
    · exact ⟨h.s, k, rfl, by omega, by omega⟩
  obtain ⟨a, b, e1, ha, hb⟩ := hp
  rw [e1] at e
  rcases end_cases hx with ⟨_, e2⟩ | ⟨_, e2, _⟩ | ⟨_, e2, g0, g1, g2, g3, g4, g5, g6⟩
  · rw [e2] at e
    exact absurd (List.cons.inj e).1 (by decide)
  · rw [e2] at e
    exact absurd (List.cons.inj e).1 (by decide)
  · rw [e2] at e
    obtain ⟨q1, q2, _, _⟩ := forkT_inj h0 (by omega) g0 g1 (by omega) (by omega) ha hb (by omega) (by omega) e
    apply g6
    have hd : x.d = h.d := q1.symm
    obtain ⟨D, hD⟩ : ∃ D : Nat, h.d = D := ⟨h.d.toNat, by omega⟩
    rw [hd, hD] at g2 ⊢
    rw [hd, hD] at q2
    unfold firstF at q2
    simp only [Int.toNat_natCast] at q2
    have b1 : D ≤ 8 * row.length := by omega
    have b2 : D ≤ 8 * x.pre.length := by omega
    have := (begins_iff row x.pre D b1 b2).1 (by
      rw [q2, com_self, firstN_length]
      omega)
    omega

theorem one_up (size : Int) (row : List UInt8) (hrow : row.length ≤ 256) (hsz : size ≤ 32) (x y : Pt) : ∀ (hs gs : List Hp) (s s' : Int), 0 ≤ s → 0 ≤ s' → wayB size row s hs x = true → wayB size row s' gs y = true →
    cutT size ((upW size row x hs).headD []) = cutT size ((upW size row y gs).headD []) →
    (upW size row x hs = upW size row y gs ∧ endT x = endT y ∧ (∃ t, endsB size row t x = true) ∧ ∃ t, endsB size row t y = true) ∨ partsAt size (upW size row x hs) (upW size row y gs) := by
  intro hs
  induction hs with
  | nil =>
    intro gs s s' h0 h0' hx hy hc
    have hx' : endsB size row s x = true := hx
    cases gs with
    | nil =>
      have hy' : endsB size row s' y = true := hy
      by_cases e : endT x = endT y
      · left
        exact ⟨by simp [upW, e], e, ⟨_, hx'⟩, ⟨_, hy'⟩⟩
      · right
        exact ⟨0, endT x, endT y, rfl, rfl, e, hc, fun j hj => absurd hj (by omega)⟩
    | cons g t =>
      right
      obtain ⟨w1, w2, w3, w4, w5⟩ := wayB_cons hy
      refine ⟨0, _, _, rfl, rfl, fun e => ?_, hc, fun j hj => absurd hj (by omega)⟩
      exact hop_end hrow (cutT_le _ _) hsz (by omega) w2 w4 hx' e.symm
  | cons h t ih =>
    intro gs s s' h0 h0' hx hy hc
    obtain ⟨v1, v2, v3, v4, v5⟩ := wayB_cons hx
    cases gs with
    | nil =>
      have hy' : endsB size row s' y = true := hy
      right
      refine ⟨0, _, _, rfl, rfl, fun e => ?_, hc, fun j hj => absurd hj (by omega)⟩
      exact hop_end hrow (cutT_le _ _) hsz (by omega) v2 v4 hy' e
    | cons g u =>
      obtain ⟨w1, w2, w3, w4, w5⟩ := wayB_cons hy
      by_cases e : hopT row h (cutT size ((upW size row x t).headD [])) = hopT row g (cutT size ((upW size row y u).headD []))
      · have hk := cutT_le size ((upW size row x t).headD [])
        have hk' := cutT_le size ((upW size row y u).headD [])
        have hkid : cutT size ((upW size row x t).headD []) = cutT size ((upW size row y u).headD []) := by
          unfold hopT at e
          have hd : h.d = g.d := by
            split at e <;> split at e <;> exact (forkT_inj (by omega) (by omega) (by omega) (by omega) (by omega) (by omega) (by omega) (by omega) (by omega) (by omega) e).1
          rw [hd] at e
          split at e
          · exact (forkT_inj (by omega) (by omega) (by omega) (by omega) (by omega) (by omega) (by omega) (by omega) (by omega) (by omega) e).2.2.1
          · exact (forkT_inj (by omega) (by omega) (by omega) (by omega) (by omega) (by omega) (by omega) (by omega) (by omega) (by omega) e).2.2.2
        rcases ih u (h.d + 1) (g.d + 1) (by omega) (by omega) v5 w5 hkid with ⟨q1, q2⟩ | q
        · left
          refine ⟨?_, q2⟩
          unfold upW
          rw [e, q1]
        · right
          unfold upW
          rw [e]
          exact partsAt_cons _ q
      · right
        exact ⟨0, _, _, rfl, rfl, e, hc, fun j hj => absurd hj (by omega)⟩

/-- What an end shows of an identity. -/
def shownB (id : List UInt8) (x : Pt) : Bool := decide (x.k = 1) && decide (x.id = id)

/-- Two ways of one identity under one hash show the same, or part in a text whose hash is one. -/
theorem one_way (size : Int) (id : List UInt8) (hs gs : List Hp) (x y : Pt) (h1 : chkW size id hs x = true) (h2 : chkW size id gs y = true) (hc : cutT size ((textsW size id hs x).headD []) = cutT size ((textsW size id gs y).headD [])) :
    (shownB id x = shownB id y ∧ (shownB id x = true → x.key = y.key ∧ x.si = y.si)) ∨ partsAt size (textsW size id hs x) (textsW size id gs y) := by
  unfold textsW at hc ⊢
  rw [if_pos h1, if_pos h2] at hc ⊢
  unfold chkW at h1 h2
  simp only [Bool.and_eq_true, decide_eq_true_eq] at h1 h2
  rcases one_up size (keyF id) (keyF_le id) h1.2.1 x y hs gs 0 0 (by omega) (by omega) h1.2.2.2 h2.2.2.2 hc with ⟨_, e, ⟨t, hx⟩, ⟨t', hy⟩⟩ | h
  · left
    rcases end_cases hx with ⟨k1, e1⟩ | ⟨k1, e1, a1, a2, a3, a4⟩ | ⟨k1, e1, _⟩ <;> rcases end_cases hy with ⟨k2, e2⟩ | ⟨k2, e2, b1, b2, b3, b4⟩ | ⟨k2, e2, _⟩
    · simp [shownB, k1, k2]
    · rw [e1, e2] at e; exact absurd (List.cons.inj e).1 (by decide)
    · rw [e1, e2] at e; exact absurd (List.cons.inj e).1 (by decide)
    · rw [e1, e2] at e; exact absurd (List.cons.inj e).1 (by decide)
    · rw [e1, e2] at e
      obtain ⟨q1, q2, q3⟩ := leafT_inj a3 a4 b3 b4 (by omega) (by omega) (by omega) (by omega) e
      simp [shownB, k1, k2, q1, q2, q3]
    · rw [e1, e2] at e; exact absurd (List.cons.inj e).1 (by decide)
    · rw [e1, e2] at e; exact absurd (List.cons.inj e).1 (by decide)
    · rw [e1, e2] at e; exact absurd (List.cons.inj e).1 (by decide)
    · simp [shownB, k1, k2]
  · right
    exact h

end Go.Proofs.YtahfjemllkbpgaaGreatDoor

namespace Go.Proofs.YtahfjemllkbpgaaGreatDoor
open Go.RowKit

/-- The value v is a slice of hops. -/
def HA (w : World) (v : Value) (hs : List Hp) : Prop :=
  ∃ (p : Option Addr) (cap : Nat), v = .slice p hs.length cap ∧ hs.length ≤ cap ∧ cap ≤ maxLen ∧
    (hs ≠ [] → ∃ b o, p = some ⟨b, o, none⟩ ∧ ∀ (k : Nat) x, hs[k]? = some x → ∃ q c, w.cell? ⟨b, o + k * 3, none⟩ = some (.int .i64 x.d) ∧ w.cell? ⟨b, o + k * 3 + 1, none⟩ = some (.int .i64 x.n) ∧ w.cell? ⟨b, o + k * 3 + 2, none⟩ = some (.slice q x.s.length c) ∧ HB w (.slice q x.s.length c) x.s)

theorem HA.later {w w' : World} {v : Value} {hs : List Hp} (h : HA w v hs) (hb : Below w.heap.size w w') : HA w' v hs := by
  obtain ⟨p, cap, e, h1, h2, h3⟩ := h
  refine ⟨p, cap, e, h1, h2, fun hn => ?_⟩
  obtain ⟨b, o, e1, e2⟩ := h3 hn
  refine ⟨b, o, e1, fun k x hx => ?_⟩
  obtain ⟨q, c, q1, q2, q3, q4⟩ := e2 k x hx
  exact ⟨q, c, cell_later hb q1, cell_later hb q2, cell_later hb q3, q4.later hb⟩

theorem HA.shape {w : World} {v : Value} {hs : List Hp} (h : HA w v hs) : ∃ p c, v = .slice p hs.length c := by
  obtain ⟨p, cap, e, _⟩ := h
  exact ⟨p, cap, e⟩

theorem HA.len {w : World} {p : Option Addr} {n c : Nat} {hs : List Hp} (h : HA w (.slice p n c) hs) : n = hs.length ∧ n ≤ c ∧ c ≤ maxLen := by
  obtain ⟨p', cap, e, h1, h2, _⟩ := h
  simp only [Value.slice.injEq] at e
  obtain ⟨rfl, rfl, rfl⟩ := e
  exact ⟨rfl, h1, h2⟩

theorem HA.addr {w : World} {p : Option Addr} {n c : Nat} {hs : List Hp} (h : HA w (.slice p n c) hs) (hn : 0 < n) : ∃ b o, p = some ⟨b, o, none⟩ := by
  obtain ⟨p', cap, e, h1, h2, h3⟩ := h
  simp only [Value.slice.injEq] at e
  obtain ⟨rfl, rfl, rfl⟩ := e
  obtain ⟨b, o, e, _⟩ := h3 (fun h => by subst h; simp at hn)
  exact ⟨b, o, e⟩

/-- One hop: its cells, and what they hold. -/
theorem HA.get {w : World} {b o n c : Nat} {hs : List Hp} (h : HA w (.slice (some ⟨b, o, none⟩) n c) hs) (i : Nat) (hi : i < n) :
    ∃ x q k, Hid (hs[i]? = some x) ∧ w.cell? ⟨b, o + i * 3, none⟩ = some (.int .i64 x.d) ∧ w.cell? ⟨b, o + i * 3 + 1, none⟩ = some (.int .i64 x.n) ∧ w.cell? ⟨b, o + i * 3 + 2, none⟩ = some (.slice q x.s.length k) ∧ HB w (.slice q x.s.length k) x.s := by
  obtain ⟨p', cap, e, h1, h2, h3⟩ := h
  simp only [Value.slice.injEq] at e
  obtain ⟨rfl, rfl, rfl⟩ := e
  obtain ⟨b', o', e', hc⟩ := h3 (fun e => by subst e; simp at hi)
  simp only [Option.some.injEq, Addr.mk.injEq, and_true] at e'
  obtain ⟨rfl, rfl⟩ := e'
  obtain ⟨q, k, q1, q2, q3, q4⟩ := hc i hs[i] (List.getElem?_eq_getElem hi)
  exact ⟨hs[i], q, k, List.getElem?_eq_getElem hi, q1, q2, q3, q4⟩

theorem s_hop : (Tryz.prog.info? 57).map (·.size) = some 3 := by kernel_rfl

/-- A part by value, its slices in memory. -/
def PV (w : World) (v : Value) (x : Pt) : Prop :=
  ∃ (pi pk pp pl pr pq : Option Addr) (ci ck cp cl cr cq : Nat), v = .agg #[.int .i64 x.k, .slice pi x.id.length ci, .slice pk x.key.length ck, .int .i64 x.si, .int .i64 x.d, .slice pp x.pre.length cp, .int .i64 x.nw, .slice pl x.l.length cl, .slice pr x.r.length cr, .slice pq x.kids cq] ∧
    HB w (.slice pi x.id.length ci) x.id ∧ HB w (.slice pk x.key.length ck) x.key ∧ HB w (.slice pp x.pre.length cp) x.pre ∧ HB w (.slice pl x.l.length cl) x.l ∧ HB w (.slice pr x.r.length cr) x.r

theorem PV.later {w w' : World} {v : Value} {x : Pt} (h : PV w v x) (hb : Below w.heap.size w w') : PV w' v x := by
  obtain ⟨pi, pk, pp, pl, pr, pq, ci, ck, cp, cl, cr, cq, e, h1, h2, h3, h4, h5⟩ := h
  exact ⟨pi, pk, pp, pl, pr, pq, ci, ck, cp, cl, cr, cq, e, h1.later hb, h2.later hb, h3.later hb, h4.later hb, h5.later hb⟩

end Go.Proofs.YtahfjemllkbpgaaGreatDoor

namespace Go.Proofs.YtahfjemllkbpgaaGreatDoor
open Go.RowKit

theorem isSize_any (n : Int) (w : World) : Calls Tryz.prog 20 #[.int .i64 n] w fun x w' => x = .returned (.bool (decide (1 ≤ n) && decide (n ≤ 32))) ∧ w' = w := by
  by_cases h0 : 1 ≤ n
  · by_cases h1 : n ≤ 32
    · rw [show (decide (1 ≤ n) && decide (n ≤ 32)) = true by simp ; omega]
      have d2 : decide (n < 32+1) = true := by simp; omega
      simp only [Int.reduceAdd] at d2
      go_enter Tryz.func20, Tryz.ntmps20
      go_wp2
      go_ret
      exact ⟨rfl, rfl⟩
    · rw [show (decide (1 ≤ n) && decide (n ≤ 32)) = false by simp ; omega]
      have d1 : decide (n ≤ 32) = false := by simpa using h1
      have d2 : decide (n < 32+1) = false := by simp; omega
      simp only [Int.reduceAdd] at d2
      go_enter Tryz.func20, Tryz.ntmps20
      go_wp2
      go_ret
      exact ⟨rfl, rfl⟩
  · rw [show (decide (1 ≤ n) && decide (n ≤ 32)) = false by simp ; omega]
    have d0 : decide (1 ≤ n) = false := by simpa using h0
    go_enter Tryz.func20, Tryz.ntmps20
    go_wp2
    go_ret
    exact ⟨rfl, rfl⟩

theorem isEpoch_any (n : Int) (w : World) : Calls Tryz.prog 45 #[.int .i64 n] w fun x w' => x = .returned (.bool (epB n)) ∧ w' = w := by
  by_cases h0 : 0 ≤ n
  · by_cases h1 : n ≤ 255
    · rw [show (epB n) = true by simp [epB]; omega]
      have d2 : decide (n < 255+1) = true := by simp; omega
      simp only [Int.reduceAdd] at d2
      go_enter Tryz.func45, Tryz.ntmps45
      go_wp2
      go_ret
      exact ⟨rfl, rfl⟩
    · rw [show (epB n) = false by simp [epB]; omega]
      have d1 : decide (n ≤ 255) = false := by simpa using h1
      have d2 : decide (n < 255+1) = false := by simp; omega
      simp only [Int.reduceAdd] at d2
      go_enter Tryz.func45, Tryz.ntmps45
      go_wp2
      go_ret
      exact ⟨rfl, rfl⟩
  · rw [show (epB n) = false by simp [epB]; omega]
    have d0 : decide (0 ≤ n) = false := by simpa using h0
    go_enter Tryz.func45, Tryz.ntmps45
    go_wp2
    go_ret
    exact ⟨rfl, rfl⟩

theorem repoch_any (n : Int) (w : World) : Calls Tryz.prog 25 #[.int .i64 n] w fun x w' => x = .returned (.bool (epB n)) ∧ w' = w := by
  by_cases h0 : 0 ≤ n
  · by_cases h1 : n ≤ 255
    · rw [show (epB n) = true by simp [epB]; omega]
      have d2 : decide (n < 255+1) = true := by simp; omega
      simp only [Int.reduceAdd] at d2
      go_enter Tryz.func25, Tryz.ntmps25
      go_wp2
      go_ret
      exact ⟨rfl, rfl⟩
    · rw [show (epB n) = false by simp [epB]; omega]
      have d1 : decide (n ≤ 255) = false := by simpa using h1
      have d2 : decide (n < 255+1) = false := by simp; omega
      simp only [Int.reduceAdd] at d2
      go_enter Tryz.func25, Tryz.ntmps25
      go_wp2
      go_ret
      exact ⟨rfl, rfl⟩
  · rw [show (epB n) = false by simp [epB]; omega]
    have d0 : decide (0 ≤ n) = false := by simpa using h0
    go_enter Tryz.func25, Tryz.ntmps25
    go_wp2
    go_ret
    exact ⟨rfl, rfl⟩

set_option maxRecDepth 100000 in
set_option maxHeartbeats 1000000 in
theorem noLeaf_any (k si d nw : Int) (pi pk pp pl pr pq : Option Addr) (a b g e f n ci ck cp cl cr cq : Nat) (w : World) : Calls Tryz.prog 88 #[.agg #[.int .i64 k, .slice pi a ci, .slice pk b ck, .int .i64 si, .int .i64 d, .slice pp g cp, .int .i64 nw, .slice pl e cl, .slice pr f cr, .slice pq n cq]] w fun x w' => x = .returned (.bool (decide (a = 0) && (decide (b = 0) && decide (si = 0)))) ∧ Below w.heap.size w w' := by
  by_cases h0 : a = 0
  · have t0 : ((a : Int) == 0) = true := by simp [h0]
    by_cases h1 : b = 0
    · have t1 : ((b : Int) == 0) = true := by simp [h1]
      by_cases h2 : si = 0
      · have t2 : ((si : Int) == 0) = true := by simp [h2]
        rw [show (decide (a = 0) && (decide (b = 0) && decide (si = 0))) = true by simp [*]]
        go_enter Tryz.func88, Tryz.ntmps88
        go_wp2
        go_ret
        exact ⟨rfl, (Below.refl _ _).alloc (Nat.le_refl _) _⟩

      · have n2 : ((si : Int) == 0) = false := by simpa using h2
        rw [show (decide (a = 0) && (decide (b = 0) && decide (si = 0))) = false by simp [*]]
        go_enter Tryz.func88, Tryz.ntmps88
        go_wp2
        go_ret
        exact ⟨rfl, (Below.refl _ _).alloc (Nat.le_refl _) _⟩


    · have n1 : ((b : Int) == 0) = false := by simpa using h1
      rw [show (decide (a = 0) && (decide (b = 0) && decide (si = 0))) = false by simp [*]]
      go_enter Tryz.func88, Tryz.ntmps88
      go_wp2
      go_ret
      exact ⟨rfl, (Below.refl _ _).alloc (Nat.le_refl _) _⟩


  · have n0 : ((a : Int) == 0) = false := by simpa using h0
    rw [show (decide (a = 0) && (decide (b = 0) && decide (si = 0))) = false by simp [*]]
    go_enter Tryz.func88, Tryz.ntmps88
    go_wp2
    go_ret
    exact ⟨rfl, (Below.refl _ _).alloc (Nat.le_refl _) _⟩



set_option maxRecDepth 100000 in
set_option maxHeartbeats 1000000 in
theorem noFork_any (k si d nw : Int) (pi pk pp pl pr pq : Option Addr) (a b g e f n ci ck cp cl cr cq : Nat) (w : World) : Calls Tryz.prog 89 #[.agg #[.int .i64 k, .slice pi a ci, .slice pk b ck, .int .i64 si, .int .i64 d, .slice pp g cp, .int .i64 nw, .slice pl e cl, .slice pr f cr, .slice pq n cq]] w fun x w' => x = .returned (.bool (decide (d = 0) && (decide (g = 0) && decide (nw = 0)))) ∧ Below w.heap.size w w' := by
  by_cases h0 : d = 0
  · have t0 : ((d : Int) == 0) = true := by simp [h0]
    by_cases h1 : g = 0
    · have t1 : ((g : Int) == 0) = true := by simp [h1]
      by_cases h2 : nw = 0
      · have t2 : ((nw : Int) == 0) = true := by simp [h2]
        rw [show (decide (d = 0) && (decide (g = 0) && decide (nw = 0))) = true by simp [*]]
        go_enter Tryz.func89, Tryz.ntmps89
        go_wp2
        go_ret
        exact ⟨rfl, (Below.refl _ _).alloc (Nat.le_refl _) _⟩

      · have n2 : ((nw : Int) == 0) = false := by simpa using h2
        rw [show (decide (d = 0) && (decide (g = 0) && decide (nw = 0))) = false by simp [*]]
        go_enter Tryz.func89, Tryz.ntmps89
        go_wp2
        go_ret
        exact ⟨rfl, (Below.refl _ _).alloc (Nat.le_refl _) _⟩


    · have n1 : ((g : Int) == 0) = false := by simpa using h1
      rw [show (decide (d = 0) && (decide (g = 0) && decide (nw = 0))) = false by simp [*]]
      go_enter Tryz.func89, Tryz.ntmps89
      go_wp2
      go_ret
      exact ⟨rfl, (Below.refl _ _).alloc (Nat.le_refl _) _⟩


  · have n0 : ((d : Int) == 0) = false := by simpa using h0
    rw [show (decide (d = 0) && (decide (g = 0) && decide (nw = 0))) = false by simp [*]]
    go_enter Tryz.func89, Tryz.ntmps89
    go_wp2
    go_ret
    exact ⟨rfl, (Below.refl _ _).alloc (Nat.le_refl _) _⟩



set_option maxRecDepth 100000 in
set_option maxHeartbeats 1000000 in
theorem isLeaf_any (k si d nw : Int) (pi pk pp pl pr pq : Option Addr) (a b g e f n ci ck cp cl cr cq : Nat) (w : World) : Calls Tryz.prog 90 #[.agg #[.int .i64 k, .slice pi a ci, .slice pk b ck, .int .i64 si, .int .i64 d, .slice pp g cp, .int .i64 nw, .slice pl e cl, .slice pr f cr, .slice pq n cq]] w fun x w' => x = .returned (.bool (decide (a ≤ 255) && (decide (b ≤ 48) && epB si))) ∧ Below w.heap.size w w' := by
  by_cases h0 : a ≤ 255
  · have t0 : decide ((a : Int) ≤ 255) = true := by simp; omega
    by_cases h1 : b ≤ 48
    · have t1 : decide ((b : Int) ≤ 48) = true := by simp; omega
      rw [show (decide (a ≤ 255) && (decide (b ≤ 48) && epB si)) = epB si by simp [*]]
      generalize hE : epB si = E
      have HE : Hid (epB si = E) := hE
      clear hE
      go_enter Tryz.func90, Tryz.ntmps90
      go_wp2_with fail
      refine (isEpoch_any si _).mono ?_
      rintro x w1 ⟨rfl, hw⟩
      subst hw
      rw [HE.out]
      go_wp2
      go_ret
      exact ⟨rfl, (Below.refl _ _).alloc (Nat.le_refl _) _⟩

    · have n1 : decide ((b : Int) ≤ 48) = false := by simp; omega
      rw [show (decide (a ≤ 255) && (decide (b ≤ 48) && epB si)) = false by simp [*]]
      go_enter Tryz.func90, Tryz.ntmps90
      go_wp2
      go_ret
      exact ⟨rfl, (Below.refl _ _).alloc (Nat.le_refl _) _⟩


  · have n0 : decide ((a : Int) ≤ 255) = false := by simp; omega
    rw [show (decide (a ≤ 255) && (decide (b ≤ 48) && epB si)) = false by simp [*]]
    go_enter Tryz.func90, Tryz.ntmps90
    go_wp2
    go_ret
    exact ⟨rfl, (Below.refl _ _).alloc (Nat.le_refl _) _⟩



end Go.Proofs.YtahfjemllkbpgaaGreatDoor
