/- What this text proves: texts.Number and the document's Number, as one plain function; literals of rows of bytes in new memory. -/
import Derived.Test.YtofchcheoanmdaaDoorHashC
import Derived.Test.YtofchcheoanmdaaDoorNumC
import Derived.Test.YtofchcheoanmdaaDoorNumber
namespace Go.Proofs.YtofchcheoanmdaaDoor
open Go.RowKit

theorem hid {p : Prop} (h : p) : Hid p := h

/-- A number in eight bytes. -/
def numB (n : Int) : List UInt8 := be64 (IntKind.u64.wrap n).toNat

theorem rnumber_to (n : Int) (w : World) :
    Calls Tryd.prog 49 #[.int .i64 n] w fun e w' => ∃ p c, e = .returned (.slice p 8 c) ∧ HB w' (.slice p 8 c) (numB n) ∧ Below w.heap.size w w' := by
  obtain ⟨U, hU, _⟩ := u64_nat n
  have e : numB n = be64 U := by unfold numB; rw [hU]; simp
  rw [e]
  exact rnumber_any n U hU w

theorem number_to (n : Int) (w : World) :
    Calls Tryd.prog 47 #[.int .i64 n] w fun e w' => ∃ p c, e = .returned (.slice p 8 c) ∧ HB w' (.slice p 8 c) (numB n) ∧ Below w.heap.size w w' := by
  obtain ⟨U, hU, _⟩ := u64_nat n
  have e : numB n = be64 U := by unfold numB; rw [hU]; simp
  rw [e]
  exact number_any n U hU w

/-- A literal of rows of bytes in a new block. -/
theorem PA.lit (w : World) (e : TypeId) (vs : List Value) (ls : List (List UInt8)) (n : Nat) (hn : n = ls.length) (hv : vs.length = ls.length) (hm : n ≤ maxLen)
    (h : ∀ (i : Nat) x l, vs[i]? = some x → ls[i]? = some l → HB w x l) : PA (w.alloc (.cells vs.toArray e)) (.slice (some ⟨w.heap.size, 0, none⟩) n n) ls := by
  subst hn
  refine ⟨_, ls.length, vs, rfl, Nat.le_refl _, hm, (fun h => by cases h), hv, fun _ => ⟨_, 0, rfl, fun i x hx => ?_⟩, fun i x l hx hl => ?_⟩
  · rw [Nat.zero_add, cell_of_row _ _ i _ _ _ (heap_alloc_new w _)]
    simp [hx]
  · exact (h i x l hx hl).later ((Below.refl _ w).alloc (Nat.le_refl _) _)

theorem four_hb {w : World} {a b c d : Value} {la lb lc ld : List UInt8} (ha : HB w a la) (hb : HB w b lb) (hc : HB w c lc) (hd : HB w d ld) :
    ∀ (i : Nat) x l, [a, b, c, d][i]? = some x → [la, lb, lc, ld][i]? = some l → HB w x l := by
  intro i x l h1 h2
  match i with
  | 0 => simp at h1 h2; subst h1; subst h2; exact ha
  | 1 => simp at h1 h2; subst h1; subst h2; exact hb
  | 2 => simp at h1 h2; subst h1; subst h2; exact hc
  | 3 => simp at h1 h2; subst h1; subst h2; exact hd
  | n + 4 => simp at h1

theorem three_hb {w : World} {a b c : Value} {la lb lc : List UInt8} (ha : HB w a la) (hb : HB w b lb) (hc : HB w c lc) :
    ∀ (i : Nat) x l, [a, b, c][i]? = some x → [la, lb, lc][i]? = some l → HB w x l := by
  intro i x l h1 h2
  match i with
  | 0 => simp at h1 h2; subst h1; subst h2; exact ha
  | 1 => simp at h1 h2; subst h1; subst h2; exact hb
  | 2 => simp at h1 h2; subst h1; subst h2; exact hc
  | n + 3 => simp at h1

theorem two_hb {w : World} {a b : Value} {la lb : List UInt8} (ha : HB w a la) (hb : HB w b lb) :
    ∀ (i : Nat) x l, [a, b][i]? = some x → [la, lb][i]? = some l → HB w x l := by
  intro i x l h1 h2
  match i with
  | 0 => simp at h1 h2; subst h1; subst h2; exact ha
  | 1 => simp at h1 h2; subst h1; subst h2; exact hb
  | n + 2 => simp at h1

theorem five_hb {w : World} {a b c d e : Value} {la lb lc ld le : List UInt8} (ha : HB w a la) (hb : HB w b lb) (hc : HB w c lc) (hd : HB w d ld) (he : HB w e le) :
    ∀ (i : Nat) x l, [a, b, c, d, e][i]? = some x → [la, lb, lc, ld, le][i]? = some l → HB w x l := by
  intro i x l h1 h2
  match i with
  | 0 => simp at h1 h2; subst h1; subst h2; exact ha
  | 1 => simp at h1 h2; subst h1; subst h2; exact hb
  | 2 => simp at h1 h2; subst h1; subst h2; exact hc
  | 3 => simp at h1 h2; subst h1; subst h2; exact hd
  | 4 => simp at h1 h2; subst h1; subst h2; exact he
  | n + 5 => simp at h1

end Go.Proofs.YtofchcheoanmdaaDoor
