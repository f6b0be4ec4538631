/- What this text holds: plain facts about lists of bytes in memory (no program): a slice that holds bytes, a slice of slices of bytes, rows that a call owns; nothing of the program is said here. What this text holds: SHA-256 as a plain function on lists of bytes (FIPS 180-4: words of 32 bits, the schedule, the rounds, the padding), and facts about it; no program is named. What this text proves: facts about words of 32 bits as the walks write them, and about arrays of words in memory; no program is named. What this text proves: the walks of bits.RotateLeft32 and of the document's 'right' over this program: a word turned right. -/
import Derived.WalkKit
import Derived.Below
import Derived.WalkSpells
import Derived.Laws.CopyOwn
import Derived.Laws.AppendOwnNone
import Derived.Test.YtcgpgnajmfemhaaGreatDoorRows
import Derived.WalkLawsBesides
import Derived.BigQuiet
namespace Go.Proofs.YtcgpgnajmfemhaaGreatDoor
open Go.RowKit

/-- A byte as a cell. -/
def bc (b : UInt8) : Value := .int .u8 (b.toNat : Int)
def bcs (l : List UInt8) : List Value := l.map bc
theorem bcs_length (l : List UInt8) : (bcs l).length = l.length := by simp [bcs]
theorem bcs_get (l : List UInt8) (i : Nat) : (bcs l)[i]? = l[i]?.map bc := by simp [bcs]
theorem bcs_append (a b : List UInt8) : bcs (a ++ b) = bcs a ++ bcs b := by simp [bcs]
theorem bcs_one (l : List UInt8) : ∀ u ∈ bcs l, u.oneCell' = true := by
  intro u hu
  obtain ⟨_, _, rfl⟩ := List.mem_map.1 hu
  rfl

/-- The value v is a slice of the bytes l. -/
def HB (w : World) (v : Value) (l : List UInt8) : Prop :=
  ∃ (p : Option Addr) (cap : Nat), v = .slice p l.length cap ∧ l.length ≤ cap ∧ cap ≤ maxLen ∧ (p = none → cap = 0) ∧
    (l ≠ [] → ∃ b o, p = some ⟨b, o, none⟩ ∧ ∀ i x, l[i]? = some x → w.cell? ⟨b, o + i, none⟩ = some (bc x))

theorem HB.later {w w' : World} {v : Value} {l : List UInt8} (h : HB w v l) (hb : Below w.heap.size w w') : HB w' v l := by
  obtain ⟨p, cap, e, h1, h2, h3, h4⟩ := h
  refine ⟨p, cap, e, h1, h2, h3, fun hn => ?_⟩
  obtain ⟨b, o, e1, e2⟩ := h4 hn
  exact ⟨b, o, e1, fun i x hx => cell_later hb (e2 i x hx)⟩

theorem HB.nil (w : World) : HB w (.slice none 0 0) [] := ⟨none, 0, rfl, Nat.le_refl _, Nat.zero_le _, fun _ => rfl, fun h => absurd rfl h⟩

theorem HB.empty (w : World) (p : Option Addr) (cap : Nat) (h1 : cap ≤ maxLen) (h2 : p = none → cap = 0) : HB w (.slice p 0 cap) [] := ⟨p, cap, rfl, Nat.zero_le _, h1, h2, fun h => absurd rfl h⟩

theorem HB.len_le {w : World} {v : Value} {l : List UInt8} (h : HB w v l) : l.length ≤ maxLen := by
  obtain ⟨p, cap, e, h1, h2, h3, h4⟩ := h
  omega

/-- What a call owns is a slice of bytes. -/
theorem HB.of_owns {w : World} {base : Nat} {e : TypeId} {v : Value} {n : Nat} {l : List UInt8} (h : w.ownsRow base e 1 v n (bcs l)) : HB w v l := by
  obtain ⟨h1, h2⟩ := h
  rw [bcs_length, Nat.mul_one] at h1
  subst h1
  rcases h2 with ⟨rfl, h0⟩ | ⟨g, cap, cur, rfl, hb, hg, hl, hm, hs, ht⟩
  · obtain rfl : l = [] := List.eq_nil_of_length_eq_zero h0
    exact HB.nil w
  · refine ⟨_, cap, rfl, hl, hm, (fun h => by cases h), fun _ => ⟨g, 0, rfl, fun i x hx => ?_⟩⟩
    rw [Nat.zero_add, cell_of_row w g i cur e (0, 0) hg]
    have hi : i < l.length := (List.getElem?_eq_some_iff.1 hx).1
    have e1 : (bcs l)[i]? = some (bc x) := by rw [bcs_get, hx]; rfl
    rw [← ht, List.getElem?_take, if_pos (by omega)] at e1
    simpa using e1

/-- The address behind a cut 'v[k:h:m]' (Go leaves the address where nothing of the capacity is left). -/
def cutP (p : Option Addr) (m k : Nat) : Option Addr := if m = k then p else p.map (·.add k)

theorem run_cut {P : Program} {t e : TypeId} (ht : P.underlying t = some (.slice e)) (hsz : (P.info? e).map (·.size) = some 1) (p : Option Addr) (n c k : Nat) (x : Int) (hx : x = (k : Int)) (hk : k ≤ n) (w : World) :
    (Instr.slice t (.slice p n c) (some (.int .i64 x)) none none).run P w = .ok (.slice (cutP p c k) (n - k) (c - k)) w := by
  subst hx
  obtain ⟨i, hi, hs⟩ := Option.map_eq_some_iff.1 hsz
  have he : P.elem t = e := by simp [Program.elem, ht]
  rw [run_slice_l w t p n c (by rw [he]; exact ht) .i64 (k : Int) (by omega) (by omega), he]
  simp [Go.sizeOf, typeInfo, hi, hs, cutP, sliced, Result.andThen]

/-- 'v[k:h:m]', k ≤ h ≤ m ≤ cap. -/
theorem run_cut3 {P : Program} {t e : TypeId} (ht : P.underlying t = some (.slice e)) (hsz : (P.info? e).map (·.size) = some 1) (p : Option Addr) (n c k h m : Nat) (x y z : Int) (hx : x = (k : Int)) (hy : y = (h : Int)) (hz : z = (m : Int)) (hk : k ≤ h) (hh : h ≤ m) (hm : m ≤ c) (w : World) :
    (Instr.slice t (.slice p n c) (some (.int .i64 x)) (some (.int .i64 y)) (some (.int .i64 z))).run P w = .ok (.slice (cutP p m k) (h - k) (m - k)) w := by
  subst hx; subst hy; subst hz
  obtain ⟨i, hi, hs⟩ := Option.map_eq_some_iff.1 hsz
  have he : P.elem t = e := by simp [Program.elem, ht]
  rw [run_slice_lhm w t p n c (by rw [he]; exact ht) .i64 .i64 .i64 (k : Int) h m (by omega) (by omega) (by omega) (by omega), he]
  simp [Go.sizeOf, typeInfo, hi, hs, cutP, sliced, Result.andThen]

/-- 'v[k:h]', k ≤ h ≤ cap. -/
theorem run_cut2 {P : Program} {t e : TypeId} (ht : P.underlying t = some (.slice e)) (hsz : (P.info? e).map (·.size) = some 1) (p : Option Addr) (n c k h : Nat) (x y : Int) (hx : x = (k : Int)) (hy : y = (h : Int)) (hk : k ≤ h) (hh : h ≤ c) (w : World) :
    (Instr.slice t (.slice p n c) (some (.int .i64 x)) (some (.int .i64 y)) none).run P w = .ok (.slice (cutP p c k) (h - k) (c - k)) w := by
  subst hx; subst hy
  obtain ⟨i, hi, hs⟩ := Option.map_eq_some_iff.1 hsz
  have he : P.elem t = e := by simp [Program.elem, ht]
  rw [run_slice_lh w t p n c (by rw [he]; exact ht) .i64 .i64 (k : Int) h (by omega) (by omega) (by omega), he]
  simp [Go.sizeOf, typeInfo, hi, hs, cutP, sliced, Result.andThen]

/-- A cut of bytes: from k up to h, the capacity cut at m. -/
theorem HB.cut {w : World} {p : Option Addr} {n c : Nat} {l : List UInt8} (h : HB w (.slice p n c) l) (k h' m : Nat) (hk : k ≤ h') (hh : h' ≤ n) (hm : h' ≤ m) (hmc : m ≤ c) :
    HB w (.slice (cutP p m k) (h' - k) (m - k)) ((l.drop k).take (h' - k)) := by
  obtain ⟨p', cap, e, h1, h2, h3, h4⟩ := h
  simp only [Value.slice.injEq] at e
  obtain ⟨rfl, rfl, rfl⟩ := e
  refine ⟨cutP p m k, m - k, ?_, ?_, by omega, ?_, ?_⟩
  · congr 1
    simp
    omega
  · simp
    omega
  · intro hp
    unfold cutP at hp
    split at hp
    · omega
    · have := h3 (by simpa using hp)
      omega
  · intro hn
    have hkl : k < h' := by
      rcases Nat.lt_or_ge k h' with h | h
      · exact h
      · exact absurd (by rw [show h' - k = 0 by omega]; simp) hn
    have hl : l ≠ [] := by
      intro e
      subst e
      simp at hn
    obtain ⟨b, o, rfl, hc⟩ := h4 hl
    refine ⟨b, o + k, ?_, fun i x hx => ?_⟩
    · unfold cutP
      rw [if_neg (by omega)]
      simp [Addr.add_lit]
    · rw [List.getElem?_take] at hx
      split at hx
      · rw [List.getElem?_drop] at hx
        have := hc (k + i) x hx
        rwa [← Nat.add_assoc] at this
      · cases hx

/-- 'v[k:]' of bytes. -/
theorem HB.behind {w : World} {p : Option Addr} {n c : Nat} {l : List UInt8} (h : HB w (.slice p n c) l) (k : Nat) (hk : k ≤ n) :
    HB w (.slice (cutP p c k) (n - k) (c - k)) (l.drop k) := by
  have hn : n = l.length ∧ l.length ≤ c := by
    obtain ⟨p', cap, e, h1, h2, h3, h4⟩ := h
    simp only [Value.slice.injEq] at e
    obtain ⟨rfl, rfl, rfl⟩ := e
    exact ⟨rfl, h1⟩
  have := h.cut k n c hk (Nat.le_refl _) (by omega) (Nat.le_refl _)
  rwa [List.take_of_length_le (by simp; omega)] at this

theorem HB.len {w : World} {p : Option Addr} {n c : Nat} {l : List UInt8} (h : HB w (.slice p n c) l) : n = l.length ∧ n ≤ c ∧ c ≤ maxLen ∧ (p = none → c = 0) := by
  obtain ⟨p', cap, e, h1, h2, h3, h4⟩ := h
  simp only [Value.slice.injEq] at e
  obtain ⟨rfl, rfl, rfl⟩ := e
  exact ⟨rfl, h1, h2, h3⟩

theorem HB.addr {w : World} {p : Option Addr} {n c : Nat} {l : List UInt8} (h : HB w (.slice p n c) l) (hn : 0 < n) : ∃ b o, p = some ⟨b, o, none⟩ ∧ ∀ i x, l[i]? = some x → w.cell? ⟨b, o + i, none⟩ = some (bc x) := by
  obtain ⟨p', cap, e, h1, h2, h3, h4⟩ := h
  simp only [Value.slice.injEq] at e
  obtain ⟨rfl, rfl, rfl⟩ := e
  exact h4 (fun h => by subst h; simp at hn)

theorem HB.shape {w : World} {v : Value} {l : List UInt8} (h : HB w v l) : ∃ p c, v = .slice p l.length c := by
  obtain ⟨p', cap, e, _⟩ := h
  exact ⟨p', cap, e⟩

/-- The numbers of a list of bytes. -/
def nums (l : List UInt8) : List Int := l.map fun b => (b.toNat : Int)
theorem strOfNums_nums (l : List UInt8) : strOfNums (nums l) = ⟨l.toArray⟩ := by
  unfold strOfNums nums
  congr 1
  rw [List.map_map]
  congr 1
  conv => rhs; rw [← List.map_id l]
  apply List.map_congr_left
  intro x _
  simp

/-- 'string(v)' of a slice of bytes. -/
theorem HB.str {P : Program} {w : World} {p : Option Addr} {n c : Nat} {l : List UInt8} (h : HB w (.slice p n c) l) (src e dst : TypeId)
    (hs : P.underlying src = some (.slice e)) (he : P.underlying e = some (.int .u8)) (hd : P.underlying dst = some .string) :
    (convert src dst (.slice p n c)).run P w = .ok (.string ⟨l.toArray⟩) w := by
  have hl := h.len.1
  rcases Nat.eq_zero_or_pos n with hn | hn
  · obtain rfl : l = [] := List.eq_nil_of_length_eq_zero (by omega)
    subst hn
    rw [run_convert_bytes_string w src dst e p 0 c hs he hd]
    cases p <;> simp [Conv.bytesToString, loadCells]
    all_goals rfl
  · obtain ⟨b, o, rfl, hc⟩ := h.addr hn
    have := run_convert_bytes_arg (P := P) w src e hs he b o n c (nums l) (by simp [nums]; omega) (fun i hi => by
      have hi' : i < l.length := by omega
      rw [hc i l[i] (List.getElem?_eq_getElem hi')]
      simp [nums, bc, List.getD, hi']) dst hd
    rw [this, strOfNums_nums]

/-- The value v is a slice of slices of bytes. -/
def PA (w : World) (v : Value) (ls : List (List UInt8)) : Prop :=
  ∃ (p : Option Addr) (cap : Nat) (vs : List Value), v = .slice p ls.length cap ∧ ls.length ≤ cap ∧ cap ≤ maxLen ∧ (p = none → cap = 0) ∧ vs.length = ls.length ∧
    (ls ≠ [] → ∃ b o, p = some ⟨b, o, none⟩ ∧ ∀ i x, vs[i]? = some x → w.cell? ⟨b, o + i, none⟩ = some x) ∧
    ∀ (i : Nat) x l, vs[i]? = some x → ls[i]? = some l → HB w x l

theorem PA.later {w w' : World} {v : Value} {ls : List (List UInt8)} (h : PA w v ls) (hb : Below w.heap.size w w') : PA w' v ls := by
  obtain ⟨p, cap, vs, e, h1, h2, h3, h4, h5, h6⟩ := h
  refine ⟨p, cap, vs, e, h1, h2, h3, h4, fun hn => ?_, fun i x l hx hl => (h6 i x l hx hl).later hb⟩
  obtain ⟨b, o, e1, e2⟩ := h5 hn
  exact ⟨b, o, e1, fun i x hx => cell_later hb (e2 i x hx)⟩

theorem PA.len {w : World} {p : Option Addr} {n c : Nat} {ls : List (List UInt8)} (h : PA w (.slice p n c) ls) : n = ls.length ∧ n ≤ c ∧ c ≤ maxLen := by
  obtain ⟨p', cap, vs, e, h1, h2, _⟩ := h
  simp only [Value.slice.injEq] at e
  obtain ⟨rfl, rfl, rfl⟩ := e
  exact ⟨rfl, h1, h2⟩

/-- One element: its cell, and what it holds. -/
theorem PA.get {w : World} {b o n c : Nat} {ls : List (List UInt8)} (h : PA w (.slice (some ⟨b, o, none⟩) n c) ls) (i : Nat) (hi : i < n) :
    ∃ q k l, Hid (ls[i]? = some l) ∧ w.cell? ⟨b, o + i, none⟩ = some (.slice q l.length k) ∧ HB w (.slice q l.length k) l := by
  obtain ⟨p', cap, vs, e, h1, h2, h3, h4, h5, h6⟩ := h
  simp only [Value.slice.injEq] at e
  obtain ⟨rfl, rfl, rfl⟩ := e
  obtain ⟨b', o', e', hc⟩ := h5 (fun e => by subst e; simp at hi)
  simp only [Option.some.injEq, Addr.mk.injEq, and_true] at e'
  obtain ⟨rfl, rfl⟩ := e'
  have hv : i < vs.length := by omega
  have hb := h6 i vs[i] ls[i] (List.getElem?_eq_getElem hv) (List.getElem?_eq_getElem hi)
  obtain ⟨q, k, eq⟩ := hb.shape
  refine ⟨q, k, ls[i], List.getElem?_eq_getElem hi, ?_, by rw [← eq]; exact hb⟩
  rw [← eq]
  exact hc i vs[i] (List.getElem?_eq_getElem hv)

theorem PA.addr {w : World} {p : Option Addr} {n c : Nat} {ls : List (List UInt8)} (h : PA w (.slice p n c) ls) (hn : 0 < n) : ∃ b o, p = some ⟨b, o, none⟩ := by
  obtain ⟨p', cap, vs, e, h1, h2, h3, h4, h5, h6⟩ := h
  simp only [Value.slice.injEq] at e
  obtain ⟨rfl, rfl, rfl⟩ := e
  obtain ⟨b, o, e, _⟩ := h5 (fun h => by subst h; simp at hn)
  exact ⟨b, o, e⟩

theorem PA.shape {w : World} {v : Value} {ls : List (List UInt8)} (h : PA w v ls) : ∃ p c, v = .slice p ls.length c := by
  obtain ⟨p', cap, vs, e, _⟩ := h
  exact ⟨p', cap, e⟩

theorem PA.nil (w : World) : PA w (.slice none 0 0) [] := ⟨none, 0, [], rfl, Nat.le_refl _, Nat.zero_le _, fun _ => rfl, rfl, fun h => absurd rfl h, fun i x l h => by simp at h⟩

/-- A row of rows of bytes that the call owns: rt the type of a row of bytes, bt of a byte. -/
def OP (w : World) (base : Nat) (rt bt : TypeId) (v : Value) (ls : List (List UInt8)) : Prop :=
  ∃ vs : List Value, vs.length = ls.length ∧ w.ownsRow base rt 1 v ls.length vs ∧ ∀ (i : Nat) x l, vs[i]? = some x → ls[i]? = some l → w.ownsRow base bt 1 x l.length (bcs l)

theorem OP.nil (w : World) (base : Nat) (rt bt : TypeId) : OP w base rt bt (.slice none 0 0) [] :=
  ⟨[], rfl, World.ownsRow_nil _ _ _ _, fun i x l h => by simp at h⟩

theorem OP.pa {w : World} {base : Nat} {rt bt : TypeId} {v : Value} {ls : List (List UInt8)} (h : OP w base rt bt v ls) : PA w v ls := by
  obtain ⟨vs, h1, h2, h3⟩ := h
  obtain ⟨h4, h5⟩ := h2
  rcases h5 with ⟨rfl, h0⟩ | ⟨g, cap, cur, rfl, hb, hg, hl, hm, hs, ht⟩
  · obtain rfl : ls = [] := List.eq_nil_of_length_eq_zero h0
    exact PA.nil w
  · refine ⟨_, cap, vs, rfl, hl, hm, (fun h => by cases h), h1, fun _ => ⟨g, 0, rfl, fun i x hx => ?_⟩, fun i x l hx hl => HB.of_owns (h3 i x l hx hl)⟩
    rw [Nat.zero_add, cell_of_row w g i cur rt (0, 0) hg]
    have hi : i < vs.length := (List.getElem?_eq_some_iff.1 hx).1
    rw [← ht, List.getElem?_take, if_pos (by omega)] at hx
    simpa using hx

/-- Two owned rows of unlike element types lie in two blocks. -/
theorem owns_apart {w : World} {b1 b2 : Nat} {e1 e2 : TypeId} {s1 s2 n1 n2 : Nat} {v1 v2 : Value} {x1 x2 : List Value} (h1 : w.ownsRow b1 e1 s1 v1 n1 x1) (h2 : w.ownsRow b2 e2 s2 v2 n2 x2) (hne : e1 ≠ e2) :
    v1.ownBlock = none ∨ v1.ownBlock ≠ v2.ownBlock := by
  rcases h1.2 with ⟨rfl, _⟩ | ⟨g, cap, cur, rfl, _, hg, _⟩
  · exact .inl rfl
  · right
    rcases h2.2 with ⟨rfl, _⟩ | ⟨g', cap', cur', rfl, _, hg', _⟩
    · simp [Value.ownBlock]
    · simp only [Value.ownBlock, ne_eq, Option.some.injEq]
      intro e
      subst e
      rw [hg] at hg'
      simp only [Option.some.injEq, Obj.cells.injEq] at hg'
      exact hne hg'.2.1

/-- The same rows in a world that grew beside them. -/
theorem owns_later {w w' : World} {base : Nat} {e : TypeId} {s n : Nat} {v : Value} {xs : List Value} (h : w.ownsRow base e s v n xs) (hb : Below w.heap.size w w') : w'.ownsRow base e s v n xs := by
  refine ⟨h.1, ?_⟩
  rcases h.2 with hn | ⟨g, cap, cur, rfl, hbg, hg, rest⟩
  · exact .inl hn
  · refine .inr ⟨g, cap, cur, rfl, hbg, ?_, rest⟩
    rw [hb.block g (Array.getElem?_eq_some_iff.1 hg).1]
    exact hg

theorem owns_mono {w : World} {base base' : Nat} {e : TypeId} {s n : Nat} {v : Value} {xs : List Value} (h : w.ownsRow base e s v n xs) (hb : base' ≤ base) : w.ownsRow base' e s v n xs := by
  refine ⟨h.1, ?_⟩
  rcases h.2 with hn | ⟨g, cap, cur, rfl, hbg, rest⟩
  · exact .inl hn
  · exact .inr ⟨g, cap, cur, rfl, by omega, rest⟩

theorem OP.later {w w' : World} {base : Nat} {rt bt : TypeId} {v : Value} {ls : List (List UInt8)} (h : OP w base rt bt v ls) (hb : Below w.heap.size w w') : OP w' base rt bt v ls := by
  obtain ⟨vs, h1, h2, h3⟩ := h
  exact ⟨vs, h1, owns_later h2 hb, fun i x l hx hl => owns_later (h3 i x l hx hl) hb⟩

/-- Behind an append of one owned row. -/
theorem OP.snoc {w w' : World} {base : Nat} {rt bt : TypeId} {v v' x : Value} {ls : List (List UInt8)} {vs : List Value} {l : List UInt8} (hrb : bt ≠ rt) (h1 : vs.length = ls.length)
    (h3 : ∀ (i : Nat) x l, vs[i]? = some x → ls[i]? = some l → w.ownsRow base bt 1 x l.length (bcs l)) (h2 : w.ownsRow base rt 1 v ls.length vs) (hx : w.ownsRow base bt 1 x l.length (bcs l))
    (hg : w.grownBy w' v.ownBlock) (hown : w'.ownsRow base rt 1 v' (ls.length + 1) (vs ++ [x])) : OP w' base rt bt v' (ls ++ [l]) := by
  refine ⟨vs ++ [x], by simp [h1], by simpa using hown, fun i y m hy hm => ?_⟩
  by_cases hi : i < ls.length
  · rw [List.getElem?_append_left (by omega)] at hy hm
    have o := h3 i y m hy hm
    exact o.kept hg (owns_apart o h2 hrb)
  · rw [List.getElem?_append_right (by omega)] at hy hm
    rw [h1] at hy
    obtain ⟨rfl, rfl⟩ : x = y ∧ l = m := by
      cases hj : i - ls.length with
      | zero => rw [hj] at hy hm; exact ⟨by simpa using hy, by simpa using hm⟩
      | succ j => rw [hj] at hm; simp at hm
    exact hx.kept hg (owns_apart hx h2 hrb)

end Go.Proofs.YtcgpgnajmfemhaaGreatDoor

namespace Go.Proofs.YtcgpgnajmfemhaaGreatDoor

/-- A word turned right. -/
def rotr (x : UInt32) (n : Nat) : UInt32 := UInt32.ofNat (x.toNat / 2 ^ n ||| x.toNat * 2 ^ (32 - n) % 4294967296)
def ssig0 (x : UInt32) : UInt32 := UInt32.ofNat (((rotr x 7).toNat ^^^ (rotr x 18).toNat) ^^^ x.toNat / 8)
def ssig1 (x : UInt32) : UInt32 := UInt32.ofNat (((rotr x 17).toNat ^^^ (rotr x 19).toNat) ^^^ x.toNat / 1024)
def bsig0 (x : UInt32) : UInt32 := UInt32.ofNat (((rotr x 2).toNat ^^^ (rotr x 13).toNat) ^^^ (rotr x 22).toNat)
def bsig1 (x : UInt32) : UInt32 := UInt32.ofNat (((rotr x 6).toNat ^^^ (rotr x 11).toNat) ^^^ (rotr x 25).toNat)
def chf (e f g : UInt32) : UInt32 := UInt32.ofNat ((e.toNat &&& f.toNat) ^^^ ((4294967295 ^^^ e.toNat) &&& g.toNat))
def majf (a b c : UInt32) : UInt32 := UInt32.ofNat (((a.toNat &&& b.toNat) ^^^ (a.toNat &&& c.toNat)) ^^^ (b.toNat &&& c.toNat))

/-- The word at place i of a block. -/
def wordAt (l : List UInt8) (i : Nat) : UInt32 := UInt32.ofNat ((l.getD (4 * i) 0).toNat * 16777216 + (l.getD (4 * i + 1) 0).toNat * 65536 + (l.getD (4 * i + 2) 0).toNat * 256 + (l.getD (4 * i + 3) 0).toNat)

/-- The schedule's next word. -/
def nextW (l : List UInt8) (ws : List UInt32) : UInt32 :=
  if ws.length < 16 then wordAt l ws.length else
  UInt32.ofNat ((ws.getD (ws.length - 16) 0).toNat + (ssig0 (ws.getD (ws.length - 15) 0)).toNat + (ws.getD (ws.length - 7) 0).toNat + (ssig1 (ws.getD (ws.length - 2) 0)).toNat)

/-- The schedule's first n words. -/
def Wl (l : List UInt8) : Nat → List UInt32
  | 0 => []
  | n + 1 => Wl l n ++ [nextW l (Wl l n)]

theorem Wl_length (l : List UInt8) (n : Nat) : (Wl l n).length = n := by
  induction n with
  | zero => rfl
  | succ n ih => simp [Wl, ih]

/-- The round's numbers. -/
def kTab : List UInt32 := [1116352408, 1899447441, 3049323471, 3921009573, 961987163, 1508970993, 2453635748, 2870763221, 3624381080, 310598401, 607225278, 1426881987, 1925078388, 2162078206, 2614888103, 3248222580, 3835390401, 4022224774, 264347078, 604807628, 770255983, 1249150122, 1555081692, 1996064986, 2554220882, 2821834349, 2952996808, 3210313671, 3336571891, 3584528711, 113926993, 338241895, 666307205, 773529912, 1294757372, 1396182291, 1695183700, 1986661051, 2177026350, 2456956037, 2730485921, 2820302411, 3259730800, 3345764771, 3516065817, 3600352804, 4094571909, 275423344, 430227734, 506948616, 659060556, 883997877, 958139571, 1322822218, 1537002063, 1747873779, 1955562222, 2024104815, 2227730452, 2361852424, 2428436474, 2756734187, 3204031479, 3329325298]

/-- A state. -/
structure St where
  a : UInt32
  b : UInt32
  c : UInt32
  d : UInt32
  e : UInt32
  f : UInt32
  g : UInt32
  h : UInt32

def tOf (s : St) (k w : UInt32) : UInt32 := UInt32.ofNat (s.h.toNat + (bsig1 s.e).toNat + (chf s.e s.f s.g).toNat + k.toNat + w.toNat)
/-- A state behind a round. -/
def rnd (s : St) (k w : UInt32) : St :=
  ⟨UInt32.ofNat ((tOf s k w).toNat + (bsig0 s.a).toNat + (majf s.a s.b s.c).toNat), s.a, s.b, s.c, UInt32.ofNat (s.d.toNat + (tOf s k w).toNat), s.e, s.f, s.g⟩

/-- A state behind n rounds of a block. -/
def rds (s : St) (l : List UInt8) : Nat → St
  | 0 => s
  | n + 1 => rnd (rds s l n) (kTab.getD n 0) (nextW l (Wl l n))

def addw (x y : UInt32) : UInt32 := UInt32.ofNat (x.toNat + y.toNat)
def addSt (s t : St) : St := ⟨addw s.a t.a, addw s.b t.b, addw s.c t.c, addw s.d t.d, addw s.e t.e, addw s.f t.f, addw s.g t.g, addw s.h t.h⟩

/-- A state behind a block. -/
def mixF (s : St) (l : List UInt8) : St := addSt s (rds s l 64)

def startSt : St := ⟨1779033703, 3144134277, 1013904242, 2773480762, 1359893119, 2600822924, 528734635, 1541459225⟩

/-- A state behind n blocks of a text. -/
def mixes (s : St) (t : List UInt8) : Nat → St
  | 0 => s
  | n + 1 => mixF (mixes s t n) ((t.drop (64 * n)).take 64)

/-- A word's bytes. -/
def spellW (x : UInt32) : List UInt8 := [UInt8.ofNat (x.toNat / 16777216), UInt8.ofNat (x.toNat / 65536), UInt8.ofNat (x.toNat / 256), UInt8.ofNat x.toNat]
def spellSt (s : St) : List UInt8 := spellW s.a ++ spellW s.b ++ spellW s.c ++ spellW s.d ++ spellW s.e ++ spellW s.f ++ spellW s.g ++ spellW s.h

/-- A number's eight bytes, the highest first. -/
def be64 (n : Nat) : List UInt8 := (List.range 8).map fun j => UInt8.ofNat (n / 2 ^ (8 * (7 - j)))
theorem be64_length (n : Nat) : (be64 n).length = 8 := by simp [be64]

/-- How many blocks a text of n bytes is padded to. -/
def blocks (n : Nat) : Nat := (n + 72) / 64

/-- What stands behind a text of n bytes. -/
def padding (n : Nat) : List UInt8 := 128 :: (List.replicate (64 * blocks n - 9 - n) 0 ++ be64 (8 * n))

theorem padding_length (n : Nat) : n + (padding n).length = 64 * blocks n := by
  simp [padding, be64_length, blocks]
  omega

/-- SHA-256. -/
def sha (l : List UInt8) : List UInt8 := spellSt (mixes startSt (l ++ padding l.length) (blocks l.length))

theorem spellSt_length (s : St) : (spellSt s).length = 32 := by simp [spellSt, spellW]
theorem sha_length (l : List UInt8) : (sha l).length = 32 := spellSt_length _

/-- What stands behind the whole blocks of a text, behind k of its length's bytes (from the last one on): m bytes r, N all together, c the length in bits. -/
def padL (r : List UInt8) (N c k : Nat) : List UInt8 := r ++ 128 :: (List.replicate (N - 1 - r.length - k) 0 ++ (be64 c).drop (8 - k))

theorem padL_length (r : List UInt8) (N c k : Nat) (h : r.length + 9 ≤ N) (hk : k ≤ 8) : (padL r N c k).length = N := by
  simp [padL, be64_length]
  omega

theorem padL_start (r : List UInt8) (N c : Nat) (h : r.length + 9 ≤ N) : (r ++ List.replicate (N - r.length) 0).set r.length 128 = padL r N c 0 := by
  have e : N - r.length = (N - 1 - r.length) + 1 := by omega
  rw [e, List.replicate_succ, List.set_append_right _ _ (Nat.le_refl _), Nat.sub_self, List.set_cons_zero]
  simp [padL, be64]

theorem padL_step (r : List UInt8) (N c k : Nat) (h : r.length + 9 ≤ N) (hk : k < 8) : (padL r N c k).set (N - 1 - k) (UInt8.ofNat (c / 2 ^ (8 * k))) = padL r N c (k + 1) := by
  have e : N - 1 - r.length - k = (N - 1 - r.length - (k + 1)) + 1 := by omega
  have e2 : N - 1 - k - r.length = (N - 1 - r.length - (k + 1)) + 1 := by omega
  have e3 : (be64 c).drop (8 - (k + 1)) = UInt8.ofNat (c / 2 ^ (8 * k)) :: (be64 c).drop (8 - k) := by
    have hlt : 8 - (k + 1) < (be64 c).length := by rw [be64_length]; omega
    rw [List.drop_eq_getElem_cons hlt]
    have e4 : 8 - (k + 1) + 1 = 8 - k := by omega
    rw [e4]
    congr 1
    simp only [be64, List.getElem_map, List.getElem_range]
    have e5 : 7 - (8 - (k + 1)) = k := by omega
    rw [e5]
  unfold padL
  rw [List.set_append_right _ _ (by omega), e2, List.set_cons_succ, e, e3]
  rw [List.set_append_left _ _ (by simp)]
  congr 2
  rw [List.replicate_succ', List.set_append_right _ _ (by simp)]
  simp

/-- The bytes of the first k words, and noughts behind. -/
def spellL (L : List UInt32) (k : Nat) : List UInt8 := (L.take k).flatMap spellW ++ List.replicate (32 - 4 * k) 0

theorem flat_length (L : List UInt32) : (L.flatMap spellW).length = 4 * L.length := by
  induction L with
  | nil => rfl
  | cons x r ih =>
    rw [List.flatMap_cons, List.length_append, ih]
    simp [spellW]
    omega

theorem spellL_step (L : List UInt32) (k : Nat) (x : UInt32) (h : L[k]? = some x) (hk : k < 8) :
    ((((spellL L k).set (4 * k) (UInt8.ofNat (x.toNat / 16777216))).set (4 * k + 1) (UInt8.ofNat (x.toNat / 65536))).set (4 * k + 2) (UInt8.ofNat (x.toNat / 256))).set (4 * k + 3) (UInt8.ofNat x.toNat) = spellL L (k + 1) := by
  have hlt : k < L.length := (List.getElem?_eq_some_iff.1 h).1
  have hA : ((L.take k).flatMap spellW).length = 4 * k := by
    rw [flat_length, List.length_take]
    omega
  have e : 32 - 4 * k = (32 - 4 * (k + 1)) + 1 + 1 + 1 + 1 := by omega
  unfold spellL
  rw [List.take_add_one, h, Option.toList_some, List.flatMap_append, e]
  generalize (L.take k).flatMap spellW = A at *
  rw [← hA]
  simp only [List.replicate_succ, List.set_append_right _ _ (Nat.le_refl _), List.set_append_right _ _ (Nat.le_add_right _ _), Nat.sub_self, Nat.add_sub_cancel_left, List.set_cons_zero, List.set_cons_succ]
  simp [spellW]

end Go.Proofs.YtcgpgnajmfemhaaGreatDoor

namespace Go.Proofs.YtcgpgnajmfemhaaGreatDoor
open Go.RowKit

theorem ret_int {k : IntKind} {a b : Int} (h : a = b) : Ending.returned (.int k a) = .returned (.int k b) := by rw [h]

theorem w32 (x : UInt32) : x.toNat < 4294967296 := x.toNat_lt

theorem wrap32n (n : Nat) (h : n < 4294967296) : IntKind.u32.wrap (n : Int) = (n : Int) := by rw [IntKind.wrap_u32]; omega

theorem wraps_u32 (n : Int) (h₀ : 0 ≤ n) (h₁ : n < 2 ^ 32) : IntKind.u32.wrap n = n := by rw [IntKind.wrap_u32]; omega
theorem b_and (a b : Nat) (ha : a < 4294967296) (hb : b < 4294967296) : bits .and .u32 (a : Int) (b : Int) = ((a &&& b : Nat) : Int) := (bits_nat .u32 32 (by decide) wraps_u32 a b ha hb).1
theorem b_or (a b : Nat) (ha : a < 4294967296) (hb : b < 4294967296) : bits .or .u32 (a : Int) (b : Int) = ((a ||| b : Nat) : Int) := (bits_nat .u32 32 (by decide) wraps_u32 a b ha hb).2
theorem b_xor (a b : Nat) (ha : a < 4294967296) (hb : b < 4294967296) : bits .xor .u32 (a : Int) (b : Int) = ((a ^^^ b : Nat) : Int) := by
  have ha' : a % 2 ^ IntKind.u32.bits = a := Nat.mod_eq_of_lt ha
  have hb' : b % 2 ^ IntKind.u32.bits = b := Nat.mod_eq_of_lt hb
  simp only [bits, BitVec.ofInt_natCast, BitVec.toNat_xor, BitVec.toNat_ofNat, ha', hb']
  exact wrap32n _ (Nat.xor_lt_two_pow (n := 32) ha hb)

theorem xor_lt (a b : Nat) (ha : a < 4294967296) (hb : b < 4294967296) : a ^^^ b < 4294967296 := Nat.xor_lt_two_pow (n := 32) ha hb
theorem and_lt (a b : Nat) (hb : b < 4294967296) : a &&& b < 4294967296 := Nat.and_lt_two_pow (n := 32) _ hb
theorem or_lt (a b : Nat) (ha : a < 4294967296) (hb : b < 4294967296) : a ||| b < 4294967296 := Nat.or_lt_two_pow (n := 32) ha hb

theorem ofNat32 (n : Nat) (h : n < 4294967296) : (UInt32.ofNat n).toNat = n := by
  simp
  omega
theorem ofNat32m (n : Nat) : (UInt32.ofNat n).toNat = n % 4294967296 := by simp

/-- A word as a cell. -/
def wc (x : UInt32) : Value := .int .u32 (x.toNat : Int)
def wcs (L : List UInt32) : List Value := L.map wc
theorem wcs_length (L : List UInt32) : (wcs L).length = L.length := by simp [wcs]
theorem wcs_one (L : List UInt32) : (wcs L).toArray.all (·.oneCell') = true := by
  simp only [List.all_toArray, List.all_eq_true]
  intro u hu
  obtain ⟨_, _, rfl⟩ := List.mem_map.1 hu
  rfl

/-- Block g is an array of the words L. -/
def AR (w : World) (g : Nat) (t : TypeId) (L : List UInt32) : Prop := w.heap[g]? = some (.cells (wcs L).toArray t (0, 0))

section
variable {w : World} {g : Nat} {t : TypeId} {L : List UInt32}

theorem AR.cell (h : AR w g t L) (j : Nat) (x : UInt32) (hj : L[j]? = some x) : w.cell? ⟨g, j, none⟩ = some (.int .u32 (x.toNat : Int)) := by
  rw [cell_of_row w g j _ t _ h]
  simp [wcs, hj, wc]
theorem AR.free (h : AR w g t L) (j : Nat) : w.frozen? ⟨g, j, none⟩ = false := frozen_of_row w g j _ t h
theorem AR.put (h : AR w g t L) (j : Nat) (x : UInt32) (v : Value) (hv : v = wc x) : AR (w.setCell ⟨g, j, none⟩ v) g t (L.set j x) := by
  subst hv
  unfold AR
  rw [heap_setCell_same w g j _ t _ h]
  congr 2
  apply Array.ext'
  simp [wcs, List.map_set]
theorem AR.other (h : AR w g t L) (a : Addr) (v : Value) (hne : g ≠ a.block) : AR (w.setCell a v) g t L := by
  unfold AR
  rw [heap_setCell_other w a g v hne]
  exact h
theorem AR.lt (h : AR w g t L) : g < w.heap.size := (Array.getElem?_eq_some_iff.1 h).1
theorem AR.later {w' : World} (h : AR w g t L) (hb : Below w.heap.size w w') : AR w' g t L := by
  unfold AR
  rw [hb.block g h.lt]
  exact h
theorem AR.laterB {w' : World} {B : Nat} (h : AR w g t L) (hb : Below B w w') (hg : g < B) : AR w' g t L := by
  unfold AR
  rw [hb.block g hg]
  exact h
theorem AR.alloc (h : AR w g t L) (o : Obj) : AR (w.alloc o) g t L := by
  unfold AR
  rw [Below.heap_alloc w o g h.lt]
  exact h
theorem AR.row (h : AR w g t L) (L' : List UInt32) : AR (w.setRow g (wcs L').toArray) g t L' := setRow_heap w g _ _ t _ h
theorem AR.rowOther (h : AR w g t L) (k : Nat) (cs : Array Value) (hne : g ≠ k) : AR (w.setRow k cs) g t L := by
  unfold AR
  rw [setRow_other w k g cs hne]
  exact h
theorem AR.drew (h : AR w g t L) : AR w.drew g t L := h
end
theorem AR.new (w : World) (t : TypeId) (L : List UInt32) (cs : Array Value) (h : cs = (wcs L).toArray) : AR (w.alloc (.cells cs t)) w.heap.size t L := by
  subst h
  exact heap_alloc_new w _

theorem Below.row {B g : Nat} {w0 w : World} (hb : Below B w0 w) (hBg : B ≤ g) (cs : Array Value) : Below B w0 (w.setRow g cs) := below_setRow hb hBg cs

theorem grownBy_row (w : World) (g : Nat) (cs : Array Value) : w.grownBy (w.setRow g cs) (some g) :=
  ⟨rfl, rfl, rfl, by simp [World.setRow], fun k _ hne => setRow_other w g k cs (fun e => hne (by rw [e]))⟩

/-- A whole array of words stored: the world behind it by a name. -/
theorem wpList_store_ar {P : Program} {ops : Array Oper} {rest : List Oper} {o : Oper} {a : Act} {w : World} {Q : Exit → Act → World → Prop} (hgd : o.guard = none) (ty : TypeId) (x y : Operand) (ho : o.op = .store ty x y)
    (g : Nat) (L : List UInt32) (hx : a.eval x = .pointer (some ⟨g, 0, none⟩)) (hy : a.eval y = .agg (wcs L).toArray)
    (t : TypeId) (old : Array Value) (hg : w.heap[g]? = some (.cells old t (0, 0))) (hi : (P.info? ty).map (·.size) = some L.length)
    (hold : old.size = L.length)
    (h : ∀ w', AR w' g t L → w.grownBy w' (some g) → wpList P ops Q rest (a.put o.dst undef) w') : wpList P ops Q (o :: rest) a w :=
  wpList_store_row hgd ty x y ho g _ hx hy t old hg (by rw [hi]; simp [wcs]) (by rw [hold]; simp [wcs]) (wcs_one L) (h _ (setRow_heap w g old _ t _ hg) (grownBy_row w g _))

theorem AR.grown {w w' : World} {g k : Nat} {t : TypeId} {L : List UInt32} (h : AR w g t L) (hg : w.grownBy w' (some k)) (hne : g ≠ k) : AR w' g t L := by
  unfold AR
  rw [hg.block g h.lt (fun e => hne (by simpa using e))]
  exact h

theorem all8 (a b c d e f g h : Int) : (#[Value.int .u32 a, .int .u32 b, .int .u32 c, .int .u32 d, .int .u32 e, .int .u32 f, .int .u32 g, .int .u32 h]).all (·.oneCell') = true := by
  simp [Value.oneCell']

end Go.Proofs.YtcgpgnajmfemhaaGreatDoor

namespace Go.Proofs.YtcgpgnajmfemhaaGreatDoor
open Go.RowKit

theorem rot_eq (x : UInt32) (n : Nat) :
    bits .or .u32 ((x.toNat : Int) * 2 ^ (32 - n) % 4294967296) ((x.toNat : Int) / 2 ^ n) = ((rotr x n).toNat : Int) ∧
    bits .or .u32 ((x.toNat : Int) / 2 ^ n) ((x.toNat : Int) * 2 ^ (32 - n) % 4294967296) = ((rotr x n).toNat : Int) := by
  have hx := w32 x
  have ha : x.toNat / 2 ^ n < 4294967296 := Nat.lt_of_le_of_lt (Nat.div_le_self _ _) hx
  have hb : x.toNat * 2 ^ (32 - n) % 4294967296 < 4294967296 := Nat.mod_lt _ (by decide)
  have e1 : (x.toNat : Int) / 2 ^ n = ((x.toNat / 2 ^ n : Nat) : Int) := by simp
  have e2 : (x.toNat : Int) * 2 ^ (32 - n) % 4294967296 = ((x.toNat * 2 ^ (32 - n) % 4294967296 : Nat) : Int) := by simp
  rw [e1, e2, b_or _ _ hb ha, b_or _ _ ha hb]
  unfold rotr
  rw [ofNat32 _ (or_lt _ _ ha hb), Nat.or_comm]
  exact ⟨rfl, rfl⟩

set_option maxRecDepth 100000 in
set_option maxHeartbeats 400000 in
theorem rotl_any (x : UInt32) (k : Int) (n : Nat) (h1 : 1 ≤ n) (h2 : n ≤ 31) (hk : bits BinOp.and IntKind.u64 (IntKind.u64.wrap k) 31 = ((32 - n : Nat) : Int)) (w : World) :
    Calls Tryz.prog 196 #[.int .u32 (x.toNat : Int), .int .i64 k] w fun e w' => e = .returned (.int .u32 ((rotr x n).toNat : Int)) ∧ w' = w := by
  have hx := w32 x
  have HE := rot_eq x n
  obtain ⟨m, hm⟩ : ∃ m, m = 32 - n := ⟨_, rfl⟩
  have hn : n = 32 - m := by omega
  rw [← hm] at hk HE
  have HH : Hid (bits .or .u32 ((x.toNat : Int) * 2 ^ m % 4294967296) ((x.toNat : Int) / 2 ^ n) = ((rotr x n).toNat : Int)) := HE.1
  clear HE
  have hm1 : m ≤ 31 := by omega
  have hm2 : 1 ≤ m := by omega
  clear hm h1 h2
  subst hn
  go_enter Tryz.func196, Tryz.ntmps196
  go_wp2
  go_ret
  exact ⟨ret_int HH.out, rfl⟩

theorem rot7 (x : UInt32) (w : World) : Calls Tryz.prog 196 #[.int .u32 (x.toNat : Int), .int .i64 (-7)] w fun e w' => e = .returned (.int .u32 ((rotr x 7).toNat : Int)) ∧ w' = w := rotl_any x (-7) 7 (by decide) (by decide) (by kernel_rfl) w
theorem rot18 (x : UInt32) (w : World) : Calls Tryz.prog 196 #[.int .u32 (x.toNat : Int), .int .i64 (-18)] w fun e w' => e = .returned (.int .u32 ((rotr x 18).toNat : Int)) ∧ w' = w := rotl_any x (-18) 18 (by decide) (by decide) (by kernel_rfl) w
theorem rot17 (x : UInt32) (w : World) : Calls Tryz.prog 196 #[.int .u32 (x.toNat : Int), .int .i64 (-17)] w fun e w' => e = .returned (.int .u32 ((rotr x 17).toNat : Int)) ∧ w' = w := rotl_any x (-17) 17 (by decide) (by decide) (by kernel_rfl) w
theorem rot19 (x : UInt32) (w : World) : Calls Tryz.prog 196 #[.int .u32 (x.toNat : Int), .int .i64 (-19)] w fun e w' => e = .returned (.int .u32 ((rotr x 19).toNat : Int)) ∧ w' = w := rotl_any x (-19) 19 (by decide) (by decide) (by kernel_rfl) w
theorem rot6 (x : UInt32) (w : World) : Calls Tryz.prog 196 #[.int .u32 (x.toNat : Int), .int .i64 (-6)] w fun e w' => e = .returned (.int .u32 ((rotr x 6).toNat : Int)) ∧ w' = w := rotl_any x (-6) 6 (by decide) (by decide) (by kernel_rfl) w
theorem rot11 (x : UInt32) (w : World) : Calls Tryz.prog 196 #[.int .u32 (x.toNat : Int), .int .i64 (-11)] w fun e w' => e = .returned (.int .u32 ((rotr x 11).toNat : Int)) ∧ w' = w := rotl_any x (-11) 11 (by decide) (by decide) (by kernel_rfl) w
theorem rot25 (x : UInt32) (w : World) : Calls Tryz.prog 196 #[.int .u32 (x.toNat : Int), .int .i64 (-25)] w fun e w' => e = .returned (.int .u32 ((rotr x 25).toNat : Int)) ∧ w' = w := rotl_any x (-25) 25 (by decide) (by decide) (by kernel_rfl) w
theorem rot2 (x : UInt32) (w : World) : Calls Tryz.prog 196 #[.int .u32 (x.toNat : Int), .int .i64 (-2)] w fun e w' => e = .returned (.int .u32 ((rotr x 2).toNat : Int)) ∧ w' = w := rotl_any x (-2) 2 (by decide) (by decide) (by kernel_rfl) w
theorem rot13 (x : UInt32) (w : World) : Calls Tryz.prog 196 #[.int .u32 (x.toNat : Int), .int .i64 (-13)] w fun e w' => e = .returned (.int .u32 ((rotr x 13).toNat : Int)) ∧ w' = w := rotl_any x (-13) 13 (by decide) (by decide) (by kernel_rfl) w
theorem rot22 (x : UInt32) (w : World) : Calls Tryz.prog 196 #[.int .u32 (x.toNat : Int), .int .i64 (-22)] w fun e w' => e = .returned (.int .u32 ((rotr x 22).toNat : Int)) ∧ w' = w := rotl_any x (-22) 22 (by decide) (by decide) (by kernel_rfl) w

end Go.Proofs.YtcgpgnajmfemhaaGreatDoor
