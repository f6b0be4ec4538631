/- What this text holds: what an answer is read as, plainly: the first error stays; what is left is an end of what was there (no walk). -/
import Derived.Test.YtldmbfemoepfkaaTlVoc
import Derived.Test.YtldmbfemoepfkaaRcKeep
namespace Go.Proofs.Ytldmbfemoepfkaa
open Go.RowKit

def rdG (l : List UInt8) (e : Int) : Int × Bool × List UInt8 := if e = 0 then flagF l else (e, false, l)

theorem rdU_st {l : List UInt8} {e m : Int} (h : e ≠ 0) : rdU l e m = (e, 0, l) := if_neg h
theorem rdB_st {l : List UInt8} {e m : Int} (h : e ≠ 0) : rdB l e m = (e, [], l) := if_neg h
theorem rdG_st {l : List UInt8} {e : Int} (h : e ≠ 0) : rdG l e = (e, false, l) := if_neg h
theorem rdU_0 (l : List UInt8) (m : Int) : rdU l 0 m = uintF l m := if_pos rfl
theorem rdB_0 (l : List UInt8) (m : Int) : rdB l 0 m = bytesF l m := if_pos rfl
theorem rdG_0 (l : List UInt8) : rdG l 0 = flagF l := if_pos rfl

theorem uintF_suf (l : List UInt8) (m : Int) : (uintF l m).2.2 <:+ l := by
  unfold uintF
  split
  · exact List.suffix_refl _
  · rename_i c r
    split; · exact List.nil_suffix
    split; · exact List.nil_suffix
    split; · exact List.nil_suffix
    split; · exact List.nil_suffix
    split; · exact List.nil_suffix
    exact (List.drop_suffix _ r).trans (List.suffix_cons c r)
theorem bytesF_suf (l : List UInt8) (m : Int) : (bytesF l m).2.2 <:+ l := by
  unfold bytesF
  simp only
  split; · exact List.nil_suffix
  split; · exact List.nil_suffix
  exact (List.drop_suffix _ _).trans (uintF_suf l m)
theorem flagF_suf (l : List UInt8) : (flagF l).2.2 <:+ l := by
  unfold flagF
  split
  · exact List.suffix_refl _
  · rename_i x r
    split
    · exact List.nil_suffix
    · exact List.suffix_cons x r
theorem rdU_suf (l : List UInt8) (e m : Int) : (rdU l e m).2.2 <:+ l := by
  unfold rdU
  split
  · exact uintF_suf l m
  · exact List.suffix_refl _
theorem rdB_suf (l : List UInt8) (e m : Int) : (rdB l e m).2.2 <:+ l := by
  unfold rdB
  split
  · exact bytesF_suf l m
  · exact List.suffix_refl _
theorem rdG_suf (l : List UInt8) (e : Int) : (rdG l e).2.2 <:+ l := by
  unfold rdG
  split
  · exact flagF_suf l
  · exact List.suffix_refl _

/-- What an identity has; an item, an event; so many of them. -/
def rdS (l : List UInt8) (e : Int) (a : AA) : Int × List UInt8 × AA :=
  if (rdG l e).2.1 = true then
    ((rdU (rdB (rdG l e).2.2 (rdG l e).1 300).2.2 (rdB (rdG l e).2.2 (rdG l e).1 300).1 2147483648).1, (rdU (rdB (rdG l e).2.2 (rdG l e).1 300).2.2 (rdB (rdG l e).2.2 (rdG l e).1 300).1 2147483648).2.2, { a with pr := true, key := (rdB (rdG l e).2.2 (rdG l e).1 300).2.1, si := (rdU (rdB (rdG l e).2.2 (rdG l e).1 300).2.2 (rdB (rdG l e).2.2 (rdG l e).1 300).1 2147483648).2.1 })
  else ((rdG l e).1, (rdG l e).2.2, { a with pr := false })
def rdI1 (l : List UInt8) (e : Int) := rdB l e 300
def rdI2 (l : List UInt8) (e : Int) := rdB (rdI1 l e).2.2 (rdI1 l e).1 300
def rdI3 (l : List UInt8) (e : Int) := rdU (rdI2 l e).2.2 (rdI2 l e).1 2147483648
def rdI (l : List UInt8) (e : Int) : Int × List UInt8 × It := ((rdI3 l e).1, (rdI3 l e).2.2, ⟨(rdI1 l e).2.1, (rdI2 l e).2.1, (rdI3 l e).2.1⟩)
def rdV1 (l : List UInt8) (e : Int) := rdU l e 2147483648
def rdV2 (l : List UInt8) (e : Int) := rdU (rdV1 l e).2.2 (rdV1 l e).1 2147483648
def rdV3 (l : List UInt8) (e : Int) := rdB (rdV2 l e).2.2 (rdV2 l e).1 300
def rdV4 (l : List UInt8) (e : Int) := rdB (rdV3 l e).2.2 (rdV3 l e).1 300
def rdV (l : List UInt8) (e : Int) : Int × List UInt8 × Ev := ((rdV4 l e).1, (rdV4 l e).2.2, ⟨(rdV1 l e).2.1, (rdV2 l e).2.1, (rdV3 l e).2.1, (rdV4 l e).2.1⟩)
def itS (l : List UInt8) (e : Int) : Nat → Int × List UInt8 × List It
  | 0 => (e, l, [])
  | k + 1 => ((rdI (itS l e k).2.1 (itS l e k).1).1, (rdI (itS l e k).2.1 (itS l e k).1).2.1, (itS l e k).2.2 ++ [(rdI (itS l e k).2.1 (itS l e k).1).2.2])
def evS (l : List UInt8) (e : Int) : Nat → Int × List UInt8 × List Ev
  | 0 => (e, l, [])
  | k + 1 => ((rdV (evS l e k).2.1 (evS l e k).1).1, (rdV (evS l e k).2.1 (evS l e k).1).2.1, (evS l e k).2.2 ++ [(rdV (evS l e k).2.1 (evS l e k).1).2.2])
/-- A page of items, of events. -/
def rdDi (l : List UInt8) (e : Int) := itS (rdU l e 32).2.2 (rdU l e 32).1 (rdU l e 32).2.1
def rdD (l : List UInt8) (e : Int) (a : AA) : Int × List UInt8 × AA := ((rdG (rdDi l e).2.1 (rdDi l e).1).1, (rdG (rdDi l e).2.1 (rdDi l e).1).2.2, { a with its := (rdDi l e).2.2, mo := (rdG (rdDi l e).2.1 (rdDi l e).1).2.1 })
def rdFi (l : List UInt8) (e : Int) := evS (rdU l e 32).2.2 (rdU l e 32).1 (rdU l e 32).2.1
def rdFg (l : List UInt8) (e : Int) := rdG (rdFi l e).2.1 (rdFi l e).1
def rdF1 (l : List UInt8) (e : Int) := rdU (rdFg l e).2.2 (rdFg l e).1 2147483648
def rdF2 (l : List UInt8) (e : Int) := rdU (rdF1 l e).2.2 (rdF1 l e).1 2147483648
def rdFd (l : List UInt8) (e : Int) (a : AA) : Int × List UInt8 × AA :=
  if (rdFg l e).2.1 = true then ((rdF2 l e).1, (rdF2 l e).2.2, { a with evs := (rdFi l e).2.2, mo := true, ep := (rdF1 l e).2.1, si := (rdF2 l e).2.1 })
  else ((rdFg l e).1, (rdFg l e).2.2, { a with evs := (rdFi l e).2.2, mo := false })
/-- What a kind has. -/
def rdK (k : Int) (l : List UInt8) (e : Int) (a : AA) : Int × List UInt8 × AA :=
  if k = 1 then ((rdU l e 2147483648).1, (rdU l e 2147483648).2.2, { a with ep := (rdU l e 2147483648).2.1 })
  else if k = 3 then rdS l e a
  else if k = 4 then rdS (rdU l e 2147483648).2.2 (rdU l e 2147483648).1 { a with ep := (rdU l e 2147483648).2.1 }
  else if k = 5 then rdS (rdG l e).2.2 (rdG l e).1 { a with sa := (rdG l e).2.1 }
  else if k = 6 ∨ k = 10 then rdD l e a
  else if k = 7 then rdFd l e a
  else (e, l, a)
/-- The answer that bytes begin with. -/
def rdA (k : Int) (b : List UInt8) : Int × List UInt8 × AA :=
  if (rdU b 0 2147483648).1 = 0 ∧ (rdU b 0 2147483648).2.1 = 0 then rdK k (rdU b 0 2147483648).2.2 0 AA0
  else ((rdU b 0 2147483648).1, (rdU b 0 2147483648).2.2, { AA0 with code := (rdU b 0 2147483648).2.1 })

theorem rdS_st {l : List UInt8} {e : Int} (a : AA) (h : e ≠ 0) : (rdS l e a).1 = e := by unfold rdS; rw [rdG_st h]; rfl
theorem rdI_st {l : List UInt8} {e : Int} (h : e ≠ 0) : (rdI l e).1 = e := by
  have h1 : rdI1 l e = (e, [], l) := rdB_st h
  have h2 : rdI2 l e = (e, [], l) := by unfold rdI2; rw [h1]; exact rdB_st h
  show (rdI3 l e).1 = e
  unfold rdI3
  rw [h2]
  exact congrArg Prod.fst (rdU_st h)
theorem rdV_st {l : List UInt8} {e : Int} (h : e ≠ 0) : (rdV l e).1 = e := by
  have h1 : rdV1 l e = (e, 0, l) := rdU_st h
  have h2 : rdV2 l e = (e, 0, l) := by unfold rdV2; rw [h1]; exact rdU_st h
  have h3 : rdV3 l e = (e, [], l) := by unfold rdV3; rw [h2]; exact rdB_st h
  show (rdV4 l e).1 = e
  unfold rdV4
  rw [h3]
  exact congrArg Prod.fst (rdB_st h)
theorem itS_st {l : List UInt8} {e : Int} {j : Nat} (h : (itS l e j).1 ≠ 0) (n : Nat) : (itS l e (j + n)).1 = (itS l e j).1 := by
  induction n with
  | zero => rfl
  | succ n ih => exact (rdI_st (fun z => h (ih.symm.trans z))).trans ih
theorem evS_st {l : List UInt8} {e : Int} {j : Nat} (h : (evS l e j).1 ≠ 0) (n : Nat) : (evS l e (j + n)).1 = (evS l e j).1 := by
  induction n with
  | zero => rfl
  | succ n ih => exact (rdV_st (fun z => h (ih.symm.trans z))).trans ih
theorem rdD_st {l : List UInt8} {e : Int} (a : AA) (h : (rdDi l e).1 ≠ 0) : (rdD l e a).1 = (rdDi l e).1 := congrArg Prod.fst (rdG_st h)
theorem rdDi_st {l : List UInt8} {e : Int} (h : (rdU l e 32).1 ≠ 0) : (rdDi l e).1 = (rdU l e 32).1 := by
  have := itS_st (l := (rdU l e 32).2.2) (e := (rdU l e 32).1) (j := 0) h (rdU l e 32).2.1
  rw [Nat.zero_add] at this
  exact this
theorem rdFi_st {l : List UInt8} {e : Int} (h : (rdU l e 32).1 ≠ 0) : (rdFi l e).1 = (rdU l e 32).1 := by
  have := evS_st (l := (rdU l e 32).2.2) (e := (rdU l e 32).1) (j := 0) h (rdU l e 32).2.1
  rw [Nat.zero_add] at this
  exact this
theorem rdFd_st {l : List UInt8} {e : Int} (a : AA) (h : (rdFi l e).1 ≠ 0) : (rdFd l e a).1 = (rdFi l e).1 := by
  unfold rdFd rdFg
  rw [rdG_st h]
  rfl

theorem itS_suf (l : List UInt8) (e : Int) (k : Nat) : (itS l e k).2.1 <:+ l := by
  induction k with
  | zero => exact List.suffix_refl _
  | succ k ih => exact (((rdU_suf _ _ _).trans (rdB_suf _ _ _)).trans (rdB_suf _ _ _)).trans ih
theorem evS_suf (l : List UInt8) (e : Int) (k : Nat) : (evS l e k).2.1 <:+ l := by
  induction k with
  | zero => exact List.suffix_refl _
  | succ k ih => exact ((((rdB_suf _ _ _).trans (rdB_suf _ _ _)).trans (rdU_suf _ _ _)).trans (rdU_suf _ _ _)).trans ih
theorem itS_len (l : List UInt8) (e : Int) (k : Nat) : (itS l e k).2.2.length = k := by
  induction k with
  | zero => rfl
  | succ k ih => simp [itS, ih]
theorem evS_len (l : List UInt8) (e : Int) (k : Nat) : (evS l e k).2.2.length = k := by
  induction k with
  | zero => rfl
  | succ k ih => simp [evS, ih]
theorem rdS_suf (l : List UInt8) (e : Int) (a : AA) : (rdS l e a).2.1 <:+ l := by
  unfold rdS
  split
  · exact ((rdU_suf _ _ _).trans (rdB_suf _ _ _)).trans (rdG_suf _ _)
  · exact rdG_suf _ _
theorem rdK_suf (k : Int) (l : List UInt8) (e : Int) (a : AA) : (rdK k l e a).2.1 <:+ l := by
  unfold rdK
  split; · exact rdU_suf _ _ _
  split; · exact rdS_suf _ _ _
  split; · exact (rdS_suf _ _ _).trans (rdU_suf _ _ _)
  split; · exact (rdS_suf _ _ _).trans (rdG_suf _ _)
  split; · exact ((rdG_suf _ _).trans (itS_suf _ _ _)).trans (rdU_suf _ _ _)
  split
  · unfold rdFd
    split
    · exact ((((rdU_suf _ _ _).trans (rdU_suf _ _ _)).trans (rdG_suf _ _)).trans (evS_suf _ _ _)).trans (rdU_suf _ _ _)
    · exact ((rdG_suf _ _).trans (evS_suf _ _ _)).trans (rdU_suf _ _ _)
  · exact List.suffix_refl _
theorem rdA_suf (k : Int) (b : List UInt8) : (rdA k b).2.1 <:+ b := by
  unfold rdA
  split
  · exact (rdK_suf _ _ _ _).trans (rdU_suf _ _ _)
  · exact rdU_suf _ _ _
theorem suf_drop {l b : List UInt8} (h : l <:+ b) : b.drop (b.length - l.length) = l := (List.suffix_iff_eq_drop.1 h).symm

end Go.Proofs.Ytldmbfemoepfkaa
