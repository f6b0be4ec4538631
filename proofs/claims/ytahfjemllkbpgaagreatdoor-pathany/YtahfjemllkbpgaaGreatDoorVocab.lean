/- What this text holds: plain facts about lists of bytes in memory (no program): a slice that holds bytes, a slice of slices of bytes, rows that a call owns; nothing of the program is said here. -/
import Derived.WalkKit
import Derived.Below
import Derived.WalkSpells
import Derived.Laws.CopyOwn
import Derived.Laws.AppendOwnNone
namespace Go.Proofs.YtahfjemllkbpgaaGreatDoor
open Go.RowKit

/-- A byte as a cell. -/
def bc (b : UInt8) : Value := .int .u8 (b.toNat : Int)
def bcs (l : List UInt8) : List Value := l.map bc
theorem bcs_length (l : List UInt8) : (bcs l).length = l.length := by simp [bcs]
theorem bcs_get (l : List UInt8) (i : Nat) : (bcs l)[i]? = l[i]?.map bc := by simp [bcs]
theorem bcs_append (a b : List UInt8) : bcs (a ++ b) = bcs a ++ bcs b := by simp [bcs]
theorem bcs_one (l : List UInt8) : ∀ u ∈ bcs l, u.oneCell' = true := by
  intro u hu
  obtain ⟨_, _, rfl⟩ := List.mem_map.1 hu
  rfl

/-- The value v is a slice of the bytes l. -/
def HB (w : World) (v : Value) (l : List UInt8) : Prop :=
  ∃ (p : Option Addr) (cap : Nat), v = .slice p l.length cap ∧ l.length ≤ cap ∧ cap ≤ maxLen ∧ (p = none → cap = 0) ∧
    (l ≠ [] → ∃ b o, p = some ⟨b, o, none⟩ ∧ ∀ i x, l[i]? = some x → w.cell? ⟨b, o + i, none⟩ = some (bc x))

theorem HB.later {w w' : World} {v : Value} {l : List UInt8} (h : HB w v l) (hb : Below w.heap.size w w') : HB w' v l := by
  obtain ⟨p, cap, e, h1, h2, h3, h4⟩ := h
  refine ⟨p, cap, e, h1, h2, h3, fun hn => ?_⟩
  obtain ⟨b, o, e1, e2⟩ := h4 hn
  exact ⟨b, o, e1, fun i x hx => cell_later hb (e2 i x hx)⟩

theorem HB.nil (w : World) : HB w (.slice none 0 0) [] := ⟨none, 0, rfl, Nat.le_refl _, Nat.zero_le _, fun _ => rfl, fun h => absurd rfl h⟩

theorem HB.empty (w : World) (p : Option Addr) (cap : Nat) (h1 : cap ≤ maxLen) (h2 : p = none → cap = 0) : HB w (.slice p 0 cap) [] := ⟨p, cap, rfl, Nat.zero_le _, h1, h2, fun h => absurd rfl h⟩

theorem HB.len_le {w : World} {v : Value} {l : List UInt8} (h : HB w v l) : l.length ≤ maxLen := by
  obtain ⟨p, cap, e, h1, h2, h3, h4⟩ := h
  omega

/-- What a call owns is a slice of bytes. -/
theorem HB.of_owns {w : World} {base : Nat} {e : TypeId} {v : Value} {n : Nat} {l : List UInt8} (h : w.ownsRow base e 1 v n (bcs l)) : HB w v l := by
  obtain ⟨h1, h2⟩ := h
  rw [bcs_length, Nat.mul_one] at h1
  subst h1
  rcases h2 with ⟨rfl, h0⟩ | ⟨g, cap, cur, rfl, hb, hg, hl, hm, hs, ht⟩
  · obtain rfl : l = [] := List.eq_nil_of_length_eq_zero h0
    exact HB.nil w
  · refine ⟨_, cap, rfl, hl, hm, (fun h => by cases h), fun _ => ⟨g, 0, rfl, fun i x hx => ?_⟩⟩
    rw [Nat.zero_add, cell_of_row w g i cur e (0, 0) hg]
    have hi : i < l.length := (List.getElem?_eq_some_iff.1 hx).1
    have e1 : (bcs l)[i]? = some (bc x) := by rw [bcs_get, hx]; rfl
    rw [← ht, List.getElem?_take, if_pos (by omega)] at e1
    simpa using e1

/-- The address behind a cut 'v[k:h:m]' (Go leaves the address where nothing of the capacity is left). -/
def cutP (p : Option Addr) (m k : Nat) : Option Addr := if m = k then p else p.map (·.add k)

theorem run_cut {P : Program} {t e : TypeId} (ht : P.underlying t = some (.slice e)) (hsz : (P.info? e).map (·.size) = some 1) (p : Option Addr) (n c k : Nat) (x : Int) (hx : x = (k : Int)) (hk : k ≤ n) (w : World) :
    (Instr.slice t (.slice p n c) (some (.int .i64 x)) none none).run P w = .ok (.slice (cutP p c k) (n - k) (c - k)) w := by
  subst hx
  obtain ⟨i, hi, hs⟩ := Option.map_eq_some_iff.1 hsz
  have he : P.elem t = e := by simp [Program.elem, ht]
  rw [run_slice_l w t p n c (by rw [he]; exact ht) .i64 (k : Int) (by omega) (by omega), he]
  simp [Go.sizeOf, typeInfo, hi, hs, cutP, sliced, Result.andThen]

/-- 'v[k:h:m]', k ≤ h ≤ m ≤ cap. -/
theorem run_cut3 {P : Program} {t e : TypeId} (ht : P.underlying t = some (.slice e)) (hsz : (P.info? e).map (·.size) = some 1) (p : Option Addr) (n c k h m : Nat) (x y z : Int) (hx : x = (k : Int)) (hy : y = (h : Int)) (hz : z = (m : Int)) (hk : k ≤ h) (hh : h ≤ m) (hm : m ≤ c) (w : World) :
    (Instr.slice t (.slice p n c) (some (.int .i64 x)) (some (.int .i64 y)) (some (.int .i64 z))).run P w = .ok (.slice (cutP p m k) (h - k) (m - k)) w := by
  subst hx; subst hy; subst hz
  obtain ⟨i, hi, hs⟩ := Option.map_eq_some_iff.1 hsz
  have he : P.elem t = e := by simp [Program.elem, ht]
  rw [run_slice_lhm w t p n c (by rw [he]; exact ht) .i64 .i64 .i64 (k : Int) h m (by omega) (by omega) (by omega) (by omega), he]
  simp [Go.sizeOf, typeInfo, hi, hs, cutP, sliced, Result.andThen]

/-- 'v[k:h]', k ≤ h ≤ cap. -/
theorem run_cut2 {P : Program} {t e : TypeId} (ht : P.underlying t = some (.slice e)) (hsz : (P.info? e).map (·.size) = some 1) (p : Option Addr) (n c k h : Nat) (x y : Int) (hx : x = (k : Int)) (hy : y = (h : Int)) (hk : k ≤ h) (hh : h ≤ c) (w : World) :
    (Instr.slice t (.slice p n c) (some (.int .i64 x)) (some (.int .i64 y)) none).run P w = .ok (.slice (cutP p c k) (h - k) (c - k)) w := by
  subst hx; subst hy
  obtain ⟨i, hi, hs⟩ := Option.map_eq_some_iff.1 hsz
  have he : P.elem t = e := by simp [Program.elem, ht]
  rw [run_slice_lh w t p n c (by rw [he]; exact ht) .i64 .i64 (k : Int) h (by omega) (by omega) (by omega), he]
  simp [Go.sizeOf, typeInfo, hi, hs, cutP, sliced, Result.andThen]

/-- A cut of bytes: from k up to h, the capacity cut at m. -/
theorem HB.cut {w : World} {p : Option Addr} {n c : Nat} {l : List UInt8} (h : HB w (.slice p n c) l) (k h' m : Nat) (hk : k ≤ h') (hh : h' ≤ n) (hm : h' ≤ m) (hmc : m ≤ c) :
    HB w (.slice (cutP p m k) (h' - k) (m - k)) ((l.drop k).take (h' - k)) := by
  obtain ⟨p', cap, e, h1, h2, h3, h4⟩ := h
  simp only [Value.slice.injEq] at e
  obtain ⟨rfl, rfl, rfl⟩ := e
  refine ⟨cutP p m k, m - k, ?_, ?_, by omega, ?_, ?_⟩
  · congr 1
    simp
    omega
  · simp
    omega
  · intro hp
    unfold cutP at hp
    split at hp
    · omega
    · have := h3 (by simpa using hp)
      omega
  · intro hn
    have hkl : k < h' := by
      rcases Nat.lt_or_ge k h' with h | h
      · exact h
      · exact absurd (by rw [show h' - k = 0 by omega]; simp) hn
    have hl : l ≠ [] := by
      intro e
      subst e
      simp at hn
    obtain ⟨b, o, rfl, hc⟩ := h4 hl
    refine ⟨b, o + k, ?_, fun i x hx => ?_⟩
    · unfold cutP
      rw [if_neg (by omega)]
      simp [Addr.add_lit]
    · rw [List.getElem?_take] at hx
      split at hx
      · rw [List.getElem?_drop] at hx
        have := hc (k + i) x hx
        rwa [← Nat.add_assoc] at this
      · cases hx

/-- 'v[k:]' of bytes. -/
theorem HB.behind {w : World} {p : Option Addr} {n c : Nat} {l : List UInt8} (h : HB w (.slice p n c) l) (k : Nat) (hk : k ≤ n) :
    HB w (.slice (cutP p c k) (n - k) (c - k)) (l.drop k) := by
  have hn : n = l.length ∧ l.length ≤ c := by
    obtain ⟨p', cap, e, h1, h2, h3, h4⟩ := h
    simp only [Value.slice.injEq] at e
    obtain ⟨rfl, rfl, rfl⟩ := e
    exact ⟨rfl, h1⟩
  have := h.cut k n c hk (Nat.le_refl _) (by omega) (Nat.le_refl _)
  rwa [List.take_of_length_le (by simp; omega)] at this

theorem HB.len {w : World} {p : Option Addr} {n c : Nat} {l : List UInt8} (h : HB w (.slice p n c) l) : n = l.length ∧ n ≤ c ∧ c ≤ maxLen ∧ (p = none → c = 0) := by
  obtain ⟨p', cap, e, h1, h2, h3, h4⟩ := h
  simp only [Value.slice.injEq] at e
  obtain ⟨rfl, rfl, rfl⟩ := e
  exact ⟨rfl, h1, h2, h3⟩

theorem HB.addr {w : World} {p : Option Addr} {n c : Nat} {l : List UInt8} (h : HB w (.slice p n c) l) (hn : 0 < n) : ∃ b o, p = some ⟨b, o, none⟩ ∧ ∀ i x, l[i]? = some x → w.cell? ⟨b, o + i, none⟩ = some (bc x) := by
  obtain ⟨p', cap, e, h1, h2, h3, h4⟩ := h
  simp only [Value.slice.injEq] at e
  obtain ⟨rfl, rfl, rfl⟩ := e
  exact h4 (fun h => by subst h; simp at hn)

theorem HB.shape {w : World} {v : Value} {l : List UInt8} (h : HB w v l) : ∃ p c, v = .slice p l.length c := by
  obtain ⟨p', cap, e, _⟩ := h
  exact ⟨p', cap, e⟩

/-- The numbers of a list of bytes. -/
def nums (l : List UInt8) : List Int := l.map fun b => (b.toNat : Int)
theorem strOfNums_nums (l : List UInt8) : strOfNums (nums l) = ⟨l.toArray⟩ := by
  unfold strOfNums nums
  congr 1
  rw [List.map_map]
  congr 1
  conv => rhs; rw [← List.map_id l]
  apply List.map_congr_left
  intro x _
  simp

/-- 'string(v)' of a slice of bytes. -/
theorem HB.str {P : Program} {w : World} {p : Option Addr} {n c : Nat} {l : List UInt8} (h : HB w (.slice p n c) l) (src e dst : TypeId)
    (hs : P.underlying src = some (.slice e)) (he : P.underlying e = some (.int .u8)) (hd : P.underlying dst = some .string) :
    (convert src dst (.slice p n c)).run P w = .ok (.string ⟨l.toArray⟩) w := by
  have hl := h.len.1
  rcases Nat.eq_zero_or_pos n with hn | hn
  · obtain rfl : l = [] := List.eq_nil_of_length_eq_zero (by omega)
    subst hn
    rw [run_convert_bytes_string w src dst e p 0 c hs he hd]
    cases p <;> simp [Conv.bytesToString, loadCells]
    all_goals rfl
  · obtain ⟨b, o, rfl, hc⟩ := h.addr hn
    have := run_convert_bytes_arg (P := P) w src e hs he b o n c (nums l) (by simp [nums]; omega) (fun i hi => by
      have hi' : i < l.length := by omega
      rw [hc i l[i] (List.getElem?_eq_getElem hi')]
      simp [nums, bc, List.getD, hi']) dst hd
    rw [this, strOfNums_nums]

/-- The value v is a slice of slices of bytes. -/
def PA (w : World) (v : Value) (ls : List (List UInt8)) : Prop :=
  ∃ (p : Option Addr) (cap : Nat) (vs : List Value), v = .slice p ls.length cap ∧ ls.length ≤ cap ∧ cap ≤ maxLen ∧ (p = none → cap = 0) ∧ vs.length = ls.length ∧
    (ls ≠ [] → ∃ b o, p = some ⟨b, o, none⟩ ∧ ∀ i x, vs[i]? = some x → w.cell? ⟨b, o + i, none⟩ = some x) ∧
    ∀ (i : Nat) x l, vs[i]? = some x → ls[i]? = some l → HB w x l

theorem PA.later {w w' : World} {v : Value} {ls : List (List UInt8)} (h : PA w v ls) (hb : Below w.heap.size w w') : PA w' v ls := by
  obtain ⟨p, cap, vs, e, h1, h2, h3, h4, h5, h6⟩ := h
  refine ⟨p, cap, vs, e, h1, h2, h3, h4, fun hn => ?_, fun i x l hx hl => (h6 i x l hx hl).later hb⟩
  obtain ⟨b, o, e1, e2⟩ := h5 hn
  exact ⟨b, o, e1, fun i x hx => cell_later hb (e2 i x hx)⟩

theorem PA.len {w : World} {p : Option Addr} {n c : Nat} {ls : List (List UInt8)} (h : PA w (.slice p n c) ls) : n = ls.length ∧ n ≤ c ∧ c ≤ maxLen := by
  obtain ⟨p', cap, vs, e, h1, h2, _⟩ := h
  simp only [Value.slice.injEq] at e
  obtain ⟨rfl, rfl, rfl⟩ := e
  exact ⟨rfl, h1, h2⟩

/-- One element: its cell, and what it holds. -/
theorem PA.get {w : World} {b o n c : Nat} {ls : List (List UInt8)} (h : PA w (.slice (some ⟨b, o, none⟩) n c) ls) (i : Nat) (hi : i < n) :
    ∃ q k l, Hid (ls[i]? = some l) ∧ w.cell? ⟨b, o + i, none⟩ = some (.slice q l.length k) ∧ HB w (.slice q l.length k) l := by
  obtain ⟨p', cap, vs, e, h1, h2, h3, h4, h5, h6⟩ := h
  simp only [Value.slice.injEq] at e
  obtain ⟨rfl, rfl, rfl⟩ := e
  obtain ⟨b', o', e', hc⟩ := h5 (fun e => by subst e; simp at hi)
  simp only [Option.some.injEq, Addr.mk.injEq, and_true] at e'
  obtain ⟨rfl, rfl⟩ := e'
  have hv : i < vs.length := by omega
  have hb := h6 i vs[i] ls[i] (List.getElem?_eq_getElem hv) (List.getElem?_eq_getElem hi)
  obtain ⟨q, k, eq⟩ := hb.shape
  refine ⟨q, k, ls[i], List.getElem?_eq_getElem hi, ?_, by rw [← eq]; exact hb⟩
  rw [← eq]
  exact hc i vs[i] (List.getElem?_eq_getElem hv)

theorem PA.addr {w : World} {p : Option Addr} {n c : Nat} {ls : List (List UInt8)} (h : PA w (.slice p n c) ls) (hn : 0 < n) : ∃ b o, p = some ⟨b, o, none⟩ := by
  obtain ⟨p', cap, vs, e, h1, h2, h3, h4, h5, h6⟩ := h
  simp only [Value.slice.injEq] at e
  obtain ⟨rfl, rfl, rfl⟩ := e
  obtain ⟨b, o, e, _⟩ := h5 (fun h => by subst h; simp at hn)
  exact ⟨b, o, e⟩

theorem PA.shape {w : World} {v : Value} {ls : List (List UInt8)} (h : PA w v ls) : ∃ p c, v = .slice p ls.length c := by
  obtain ⟨p', cap, vs, e, _⟩ := h
  exact ⟨p', cap, e⟩

theorem PA.nil (w : World) : PA w (.slice none 0 0) [] := ⟨none, 0, [], rfl, Nat.le_refl _, Nat.zero_le _, fun _ => rfl, rfl, fun h => absurd rfl h, fun i x l h => by simp at h⟩

/-- A row of rows of bytes that the call owns: rt the type of a row of bytes, bt of a byte. -/
def OP (w : World) (base : Nat) (rt bt : TypeId) (v : Value) (ls : List (List UInt8)) : Prop :=
  ∃ vs : List Value, vs.length = ls.length ∧ w.ownsRow base rt 1 v ls.length vs ∧ ∀ (i : Nat) x l, vs[i]? = some x → ls[i]? = some l → w.ownsRow base bt 1 x l.length (bcs l)

theorem OP.nil (w : World) (base : Nat) (rt bt : TypeId) : OP w base rt bt (.slice none 0 0) [] :=
  ⟨[], rfl, World.ownsRow_nil _ _ _ _, fun i x l h => by simp at h⟩

theorem OP.pa {w : World} {base : Nat} {rt bt : TypeId} {v : Value} {ls : List (List UInt8)} (h : OP w base rt bt v ls) : PA w v ls := by
  obtain ⟨vs, h1, h2, h3⟩ := h
  obtain ⟨h4, h5⟩ := h2
  rcases h5 with ⟨rfl, h0⟩ | ⟨g, cap, cur, rfl, hb, hg, hl, hm, hs, ht⟩
  · obtain rfl : ls = [] := List.eq_nil_of_length_eq_zero h0
    exact PA.nil w
  · refine ⟨_, cap, vs, rfl, hl, hm, (fun h => by cases h), h1, fun _ => ⟨g, 0, rfl, fun i x hx => ?_⟩, fun i x l hx hl => HB.of_owns (h3 i x l hx hl)⟩
    rw [Nat.zero_add, cell_of_row w g i cur rt (0, 0) hg]
    have hi : i < vs.length := (List.getElem?_eq_some_iff.1 hx).1
    rw [← ht, List.getElem?_take, if_pos (by omega)] at hx
    simpa using hx

/-- Two owned rows of unlike element types lie in two blocks. -/
theorem owns_apart {w : World} {b1 b2 : Nat} {e1 e2 : TypeId} {s1 s2 n1 n2 : Nat} {v1 v2 : Value} {x1 x2 : List Value} (h1 : w.ownsRow b1 e1 s1 v1 n1 x1) (h2 : w.ownsRow b2 e2 s2 v2 n2 x2) (hne : e1 ≠ e2) :
    v1.ownBlock = none ∨ v1.ownBlock ≠ v2.ownBlock := by
  rcases h1.2 with ⟨rfl, _⟩ | ⟨g, cap, cur, rfl, _, hg, _⟩
  · exact .inl rfl
  · right
    rcases h2.2 with ⟨rfl, _⟩ | ⟨g', cap', cur', rfl, _, hg', _⟩
    · simp [Value.ownBlock]
    · simp only [Value.ownBlock, ne_eq, Option.some.injEq]
      intro e
      subst e
      rw [hg] at hg'
      simp only [Option.some.injEq, Obj.cells.injEq] at hg'
      exact hne hg'.2.1

/-- The same rows in a world that grew beside them. -/
theorem owns_later {w w' : World} {base : Nat} {e : TypeId} {s n : Nat} {v : Value} {xs : List Value} (h : w.ownsRow base e s v n xs) (hb : Below w.heap.size w w') : w'.ownsRow base e s v n xs := by
  refine ⟨h.1, ?_⟩
  rcases h.2 with hn | ⟨g, cap, cur, rfl, hbg, hg, rest⟩
  · exact .inl hn
  · refine .inr ⟨g, cap, cur, rfl, hbg, ?_, rest⟩
    rw [hb.block g (Array.getElem?_eq_some_iff.1 hg).1]
    exact hg

theorem owns_mono {w : World} {base base' : Nat} {e : TypeId} {s n : Nat} {v : Value} {xs : List Value} (h : w.ownsRow base e s v n xs) (hb : base' ≤ base) : w.ownsRow base' e s v n xs := by
  refine ⟨h.1, ?_⟩
  rcases h.2 with hn | ⟨g, cap, cur, rfl, hbg, rest⟩
  · exact .inl hn
  · exact .inr ⟨g, cap, cur, rfl, by omega, rest⟩

theorem OP.later {w w' : World} {base : Nat} {rt bt : TypeId} {v : Value} {ls : List (List UInt8)} (h : OP w base rt bt v ls) (hb : Below w.heap.size w w') : OP w' base rt bt v ls := by
  obtain ⟨vs, h1, h2, h3⟩ := h
  exact ⟨vs, h1, owns_later h2 hb, fun i x l hx hl => owns_later (h3 i x l hx hl) hb⟩

/-- Behind an append of one owned row. -/
theorem OP.snoc {w w' : World} {base : Nat} {rt bt : TypeId} {v v' x : Value} {ls : List (List UInt8)} {vs : List Value} {l : List UInt8} (hrb : bt ≠ rt) (h1 : vs.length = ls.length)
    (h3 : ∀ (i : Nat) x l, vs[i]? = some x → ls[i]? = some l → w.ownsRow base bt 1 x l.length (bcs l)) (h2 : w.ownsRow base rt 1 v ls.length vs) (hx : w.ownsRow base bt 1 x l.length (bcs l))
    (hg : w.grownBy w' v.ownBlock) (hown : w'.ownsRow base rt 1 v' (ls.length + 1) (vs ++ [x])) : OP w' base rt bt v' (ls ++ [l]) := by
  refine ⟨vs ++ [x], by simp [h1], by simpa using hown, fun i y m hy hm => ?_⟩
  by_cases hi : i < ls.length
  · rw [List.getElem?_append_left (by omega)] at hy hm
    have o := h3 i y m hy hm
    exact o.kept hg (owns_apart o h2 hrb)
  · rw [List.getElem?_append_right (by omega)] at hy hm
    rw [h1] at hy
    obtain ⟨rfl, rfl⟩ : x = y ∧ l = m := by
      cases hj : i - ls.length with
      | zero => rw [hj] at hy hm; exact ⟨by simpa using hy, by simpa using hm⟩
      | succ j => rw [hj] at hm; simp at hm
    exact hx.kept hg (owns_apart hx h2 hrb)

end Go.Proofs.YtahfjemllkbpgaaGreatDoor
