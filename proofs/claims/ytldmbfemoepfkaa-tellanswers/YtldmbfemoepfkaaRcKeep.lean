/- What this text holds: blocks of unlike types part what lies apart; rows of texts that are read; a reader's calls, whatever came ahead; what is read of a record's bytes, plainly. -/
import Derived.Test.YtldmbfemoepfkaaRdText
namespace Go.Proofs.Ytldmbfemoepfkaa
open Go.RowKit

/-- Blocks of another type than T stay. -/
def TK (T : TypeId) (w w' : World) : Prop := ∀ (k : Nat) cur t fr, w.heap[k]? = some (.cells cur t fr) → t ≠ T → w'.heap[k]? = some (.cells cur t fr)

theorem TK.of_only {T : TypeId} {g : Nat} {w w' : World} {cs : Array Value} {f : Nat × Nat} (ho : Only g w w') (hg : w.heap[g]? = some (.cells cs T f)) : TK T w w' := by
  intro k cur t fr hk ht
  have hne : k ≠ g := by
    rintro rfl
    rw [hg] at hk
    simp only [Option.some.injEq, Obj.cells.injEq] at hk
    exact ht hk.2.1.symm
  exact (ho.block k hne (Array.getElem?_eq_some_iff.1 hk).1).trans hk

theorem TK.of_below {T : TypeId} {w w' : World} (hb : Below w.heap.size w w') : TK T w w' := fun k _ _ _ hk _ => (hb.block k (Array.getElem?_eq_some_iff.1 hk).1).trans hk

theorem TK.of_grown {T : TypeId} {w w' : World} {base s n : Nat} {v : Value} {xs : List Value} (h : w.ownsRow base T s v n xs) (hg : w.grownBy w' v.ownBlock) : TK T w w' := by
  intro k cur t fr hk ht
  have hne : some k ≠ v.ownBlock := by
    rcases h.2 with ⟨rfl, _⟩ | ⟨g, cap, cur', rfl, _, hg', _⟩
    · simp [Value.ownBlock]
    · simp only [Value.ownBlock, ne_eq, Option.some.injEq]
      intro e
      subst e
      rw [hg'] at hk
      simp only [Option.some.injEq, Obj.cells.injEq] at hk
      exact ht hk.2.1.symm
  exact (hg.block k (Array.getElem?_eq_some_iff.1 hk).1 hne).trans hk

theorem HBN.tk {T : TypeId} {g : Nat} {w w' : World} {v : Value} {l : List UInt8} (h : HBN w g v l) (t : TK T w w') (hT : 5 ≠ T) : HBN w' g v l := by
  obtain ⟨⟨p, cap, e, h1, h2, h3, h4⟩, h5⟩ := h
  refine ⟨⟨p, cap, e, h1, h2, h3, fun hn => ?_⟩, fun a n c ev => ?_⟩
  · obtain ⟨b, o, rfl, hc⟩ := h4 hn
    refine ⟨b, o, rfl, fun i x hx => ?_⟩
    obtain ⟨cur, fr, hb⟩ := (h5 _ _ _ e).2
    have hk : w'.heap[b]? = w.heap[b]? := (t b cur _ fr hb hT).trans hb.symm
    rw [World.cell?_of_block (w := w) hk]
    exact hc i x hx
  · obtain ⟨hne, cur, fr, hb⟩ := h5 a n c ev
    exact ⟨hne, cur, fr, t _ cur _ fr hb hT⟩

theorem RR.tk {T : TypeId} {g : Nat} {w w' : World} {l : List UInt8} {e : Int} (h : RR w g l e) (t : TK T w w') (hT : 5 ≠ T) (hR : 88 ≠ T) : RR w' g l e := by
  obtain ⟨p, c, h1, h2⟩ := h
  exact ⟨p, c, t g _ _ _ h1 hR, h2.tk t hT⟩

theorem RR.typed {g : Nat} {w : World} {l : List UInt8} {e : Int} (h : RR w g l e) : ∃ cs f, w.heap[g]? = some (.cells cs 88 f) := by
  obtain ⟨p, c, h1, h2⟩ := h
  exact ⟨_, _, h1⟩

theorem owns_tk {T e : TypeId} {w w' : World} {base n : Nat} {v : Value} {xs : List Value} (h : w.ownsRow base e 1 v n xs) (t : TK T w w') (hT : e ≠ T) : w'.ownsRow base e 1 v n xs := by
  refine ⟨h.1, ?_⟩
  rcases h.2 with hn | ⟨g, cap, cur, rfl, hbg, hg, rest⟩
  · exact .inl hn
  · exact .inr ⟨g, cap, cur, rfl, hbg, t g cur _ _ hg hT, rest⟩

/-- A row of texts that the call owns, none of them in block g. -/
def RW (w : World) (base g : Nat) (y : Value) (ls : List (List UInt8)) : Prop :=
  ∃ vs : List Value, vs.length = ls.length ∧ w.ownsRow base 22 1 y ls.length vs ∧ ∀ (j : Nat) u l, vs[j]? = some u → ls[j]? = some l → HBN w g u l

theorem RW.nil (w : World) (base g : Nat) : RW w base g (.slice none 0 0) [] := ⟨[], rfl, World.ownsRow_nil _ _ _ _, fun j u l h => by simp at h⟩
theorem RW.tk {T : TypeId} {w w' : World} {base g : Nat} {y : Value} {ls : List (List UInt8)} (h : RW w base g y ls) (t : TK T w w') (hT : 5 ≠ T) (hB : 22 ≠ T) : RW w' base g y ls := by
  obtain ⟨vs, h1, h2, h3⟩ := h
  exact ⟨vs, h1, owns_tk h2 t hB, fun j u l hu hl => (h3 j u l hu hl).tk t hT⟩

theorem RW.pa {w : World} {base g : Nat} {v : Value} {ls : List (List UInt8)} (h : RW w base g v ls) : PA w v ls := by
  obtain ⟨vs, h1, h2, h3⟩ := h
  obtain ⟨h4, h5⟩ := h2
  rcases h5 with ⟨rfl, h0⟩ | ⟨g', cap, cur, rfl, hb, hg, hl, hm, hs, ht⟩
  · obtain rfl : ls = [] := List.eq_nil_of_length_eq_zero h0
    exact PA.nil w
  · refine ⟨_, cap, vs, rfl, hl, hm, (fun h => by cases h), h1, fun _ => ⟨g', 0, rfl, fun i x hx => ?_⟩, fun i x l hx hl => (h3 i x l hx hl).1⟩
    rw [Nat.zero_add, cell_of_row w g' i cur 22 (0, 0) hg]
    have hi : i < vs.length := (List.getElem?_eq_some_iff.1 hx).1
    rw [← ht, List.getElem?_take, if_pos (by omega)] at hx
    simpa using hx

theorem RW.snoc {w wA w' : World} {base g : Nat} {y x v' : Value} {vs : List Value} {ls : List (List UInt8)} {l : List UInt8} (hl1 : vs.length = ls.length) (h2 : wA.ownsRow base 22 1 y ls.length vs) (h3 : ∀ (j : Nat) u l, vs[j]? = some u → ls[j]? = some l → HBN w g u l) (hx : HBN w g x l) (hb : Below w.heap.size w wA)
    (hg : wA.grownBy w' y.ownBlock) (ho : w'.ownsRow base 22 1 v' (ls.length + 1) (vs ++ [x])) : RW w' base g v' (ls ++ [l]) := by
  have t := TK.of_grown h2 hg
  refine ⟨vs ++ [x], by simp [hl1], by simpa using ho, fun j u m hu hm => ?_⟩
  by_cases hi : j < ls.length
  · rw [List.getElem?_append_left (by omega)] at hu hm
    exact ((h3 j u m hu hm).later hb).tk t (by decide)
  · rw [List.getElem?_append_right (by omega)] at hu hm
    rw [hl1] at hu
    obtain ⟨rfl, rfl⟩ : x = u ∧ l = m := by
      cases hj : j - ls.length with
      | zero => rw [hj] at hu hm; exact ⟨by simpa using hu, by simpa using hm⟩
      | succ j => rw [hj] at hm; simp at hm
    exact (hx.later hb).tk t (by decide)

/-- What a number, or a text, is read as behind what came ahead. -/
def rdU (l : List UInt8) (e : Int) (most : Int) : Int × Nat × List UInt8 := if e = 0 then uintF l most else (e, 0, l)
def rdB (l : List UInt8) (e : Int) (most : Int) : Int × List UInt8 × List UInt8 := if e = 0 then bytesF l most else (e, [], l)

theorem uintF_most (l : List UInt8) (most : Int) (hm : 0 ≤ most) : ((uintF l most).2.1 : Int) ≤ most := by
  unfold uintF
  split
  · simpa using hm
  · split
    · simpa using hm
    · split
      · simpa using hm
      · split
        · simpa using hm
        · split
          · simpa using hm
          · split
            · simpa using hm
            · simp; omega

theorem rdU_most (l : List UInt8) (e most : Int) (hm : 0 ≤ most) : ((rdU l e most).2.1 : Int) ≤ most := by
  unfold rdU
  split
  · exact uintF_most l most hm
  · simpa using hm

theorem bytesF_le (l : List UInt8) (most : Int) : (bytesF l most).2.2.length ≤ l.length := by
  have h := uintF_le l most
  unfold bytesF
  dsimp only
  split
  · simp
  · split
    · simp
    · simp; omega

theorem rdU_le (l : List UInt8) (e most : Int) : (rdU l e most).2.2.length ≤ l.length := by
  unfold rdU
  split
  · exact uintF_le l most
  · exact Nat.le_refl _
theorem rdB_le (l : List UInt8) (e most : Int) : (rdB l e most).2.2.length ≤ l.length := by
  unfold rdB
  split
  · exact bytesF_le l most
  · exact Nat.le_refl _

theorem ruint_all (g : Nat) (l : List UInt8) (e most : Int) (w : World) (h : RR w g l e) : Calls Try.prog 64 #[.pointer (some ⟨g, 0, none⟩), .int .i64 most] w fun x w' => x = .returned (.int .i64 ((rdU l e most).2.1 : Int)) ∧ RR w' g (rdU l e most).2.2 (rdU l e most).1 ∧ Only g w w' := by
  unfold rdU
  by_cases he : e = 0
  · subst he
    rw [if_pos rfl]
    exact uint_any g l most w h
  · rw [if_neg he]
    refine (uint_stays g l e most w h he).mono ?_
    rintro x w' ⟨rfl, rfl⟩
    exact ⟨rfl, h, Only.refl _ _⟩

theorem rbytes_all (g : Nat) (l : List UInt8) (e most : Int) (w : World) (h : RR w g l e) (hsz : l.length ≤ 140737488355328) : Calls Try.prog 65 #[.pointer (some ⟨g, 0, none⟩), .int .i64 most] w fun x w' => ∃ v, x = .returned v ∧ ∃ p c, v = .slice p (rdB l e most).2.1.length c ∧ HBN w' g (.slice p (rdB l e most).2.1.length c) (rdB l e most).2.1 ∧ RR w' g (rdB l e most).2.2 (rdB l e most).1 ∧ Only g w w' := by
  unfold rdB
  by_cases he : e = 0
  · subst he
    rw [if_pos rfl]
    exact (bytes_any g l most w h hsz).mono fun x w' ⟨p, c, h1, h2, h3, h4⟩ => ⟨_, h1, p, c, rfl, h2, h3, h4⟩
  · rw [if_neg he]
    refine (bytes_stays g l e most w h he).mono ?_
    rintro x w' ⟨rfl, rfl⟩
    exact ⟨_, rfl, none, 0, rfl, HBN.nil _ _, h, Only.refl _ _⟩

/-- The links, read one behind the other: they, what is left, the error. -/
def lkS (most : Int) (l : List UInt8) (e : Int) : Nat → List (List UInt8) × List UInt8 × Int
  | 0 => ([], l, e)
  | k + 1 => ((lkS most l e k).1 ++ [(rdB (lkS most l e k).2.1 (lkS most l e k).2.2 most).2.1], (rdB (lkS most l e k).2.1 (lkS most l e k).2.2 most).2.2, (rdB (lkS most l e k).2.1 (lkS most l e k).2.2 most).1)

theorem lkS_len (most : Int) (l : List UInt8) (e : Int) (k : Nat) : (lkS most l e k).1.length = k := by
  induction k with
  | zero => rfl
  | succ k ih => simp [lkS, ih]
theorem lkS_le (most : Int) (l : List UInt8) (e : Int) (k : Nat) : (lkS most l e k).2.1.length ≤ l.length := by
  induction k with
  | zero => exact Nat.le_refl _
  | succ k ih => exact Nat.le_trans (rdB_le _ _ _) ih

end Go.Proofs.Ytldmbfemoepfkaa
