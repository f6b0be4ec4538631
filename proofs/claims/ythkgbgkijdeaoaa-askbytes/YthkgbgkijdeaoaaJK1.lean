/- What this text holds: blocks of unlike types part what lies apart; rows of texts that are read; a reader's calls, whatever came ahead; what is read of a record's bytes, plainly. What this text proves: plain facts (no program): what was put is read, with anything behind; what was read, put, is the bytes that were read. What this text holds: what is read of a batch's bytes, plainly; what was written is read as it was (no walk). -/
import Derived.Test.YthkgbgkijdeaoaaJR2
namespace Go.Proofs.Ythkgbgkijdeaoaa
open Go.RowKit

/-- Blocks of another type than T stay. -/
def TK (T : TypeId) (w w' : World) : Prop := ∀ (k : Nat) cur t fr, w.heap[k]? = some (.cells cur t fr) → t ≠ T → w'.heap[k]? = some (.cells cur t fr)

theorem TK.of_only {T : TypeId} {g : Nat} {w w' : World} {cs : Array Value} {f : Nat × Nat} (ho : Only g w w') (hg : w.heap[g]? = some (.cells cs T f)) : TK T w w' := by
  intro k cur t fr hk ht
  have hne : k ≠ g := by
    rintro rfl
    rw [hg] at hk
    simp only [Option.some.injEq, Obj.cells.injEq] at hk
    exact ht hk.2.1.symm
  exact (ho.block k hne (Array.getElem?_eq_some_iff.1 hk).1).trans hk

theorem TK.of_below {T : TypeId} {w w' : World} (hb : Below w.heap.size w w') : TK T w w' := fun k _ _ _ hk _ => (hb.block k (Array.getElem?_eq_some_iff.1 hk).1).trans hk

theorem TK.of_grown {T : TypeId} {w w' : World} {base s n : Nat} {v : Value} {xs : List Value} (h : w.ownsRow base T s v n xs) (hg : w.grownBy w' v.ownBlock) : TK T w w' := by
  intro k cur t fr hk ht
  have hne : some k ≠ v.ownBlock := by
    rcases h.2 with ⟨rfl, _⟩ | ⟨g, cap, cur', rfl, _, hg', _⟩
    · simp [Value.ownBlock]
    · simp only [Value.ownBlock, ne_eq, Option.some.injEq]
      intro e
      subst e
      rw [hg'] at hk
      simp only [Option.some.injEq, Obj.cells.injEq] at hk
      exact ht hk.2.1.symm
  exact (hg.block k (Array.getElem?_eq_some_iff.1 hk).1 hne).trans hk

theorem HBN.tk {T : TypeId} {g : Nat} {w w' : World} {v : Value} {l : List UInt8} (h : HBN w g v l) (t : TK T w w') (hT : 5 ≠ T) : HBN w' g v l := by
  obtain ⟨⟨p, cap, e, h1, h2, h3, h4⟩, h5⟩ := h
  refine ⟨⟨p, cap, e, h1, h2, h3, fun hn => ?_⟩, fun a n c ev => ?_⟩
  · obtain ⟨b, o, rfl, hc⟩ := h4 hn
    refine ⟨b, o, rfl, fun i x hx => ?_⟩
    obtain ⟨cur, fr, hb⟩ := (h5 _ _ _ e).2
    have hk : w'.heap[b]? = w.heap[b]? := (t b cur _ fr hb hT).trans hb.symm
    rw [World.cell?_of_block (w := w) hk]
    exact hc i x hx
  · obtain ⟨hne, cur, fr, hb⟩ := h5 a n c ev
    exact ⟨hne, cur, fr, t _ cur _ fr hb hT⟩

theorem RR.tk {T : TypeId} {g : Nat} {w w' : World} {l : List UInt8} {e : Int} (h : RR w g l e) (t : TK T w w') (hT : 5 ≠ T) (hR : 106 ≠ T) : RR w' g l e := by
  obtain ⟨p, c, h1, h2⟩ := h
  exact ⟨p, c, t g _ _ _ h1 hR, h2.tk t hT⟩

theorem RR.typed {g : Nat} {w : World} {l : List UInt8} {e : Int} (h : RR w g l e) : ∃ cs f, w.heap[g]? = some (.cells cs 106 f) := by
  obtain ⟨p, c, h1, h2⟩ := h
  exact ⟨_, _, h1⟩

theorem owns_tk {T e : TypeId} {w w' : World} {base n : Nat} {v : Value} {xs : List Value} (h : w.ownsRow base e 1 v n xs) (t : TK T w w') (hT : e ≠ T) : w'.ownsRow base e 1 v n xs := by
  refine ⟨h.1, ?_⟩
  rcases h.2 with hn | ⟨g, cap, cur, rfl, hbg, hg, rest⟩
  · exact .inl hn
  · exact .inr ⟨g, cap, cur, rfl, hbg, t g cur _ _ hg hT, rest⟩

/-- A row of texts that the call owns, none of them in block g. -/
def RW (w : World) (base g : Nat) (y : Value) (ls : List (List UInt8)) : Prop :=
  ∃ vs : List Value, vs.length = ls.length ∧ w.ownsRow base 22 1 y ls.length vs ∧ ∀ (j : Nat) u l, vs[j]? = some u → ls[j]? = some l → HBN w g u l

theorem RW.nil (w : World) (base g : Nat) : RW w base g (.slice none 0 0) [] := ⟨[], rfl, World.ownsRow_nil _ _ _ _, fun j u l h => by simp at h⟩
theorem RW.tk {T : TypeId} {w w' : World} {base g : Nat} {y : Value} {ls : List (List UInt8)} (h : RW w base g y ls) (t : TK T w w') (hT : 5 ≠ T) (hB : 22 ≠ T) : RW w' base g y ls := by
  obtain ⟨vs, h1, h2, h3⟩ := h
  exact ⟨vs, h1, owns_tk h2 t hB, fun j u l hu hl => (h3 j u l hu hl).tk t hT⟩

theorem RW.pa {w : World} {base g : Nat} {v : Value} {ls : List (List UInt8)} (h : RW w base g v ls) : PA w v ls := by
  obtain ⟨vs, h1, h2, h3⟩ := h
  obtain ⟨h4, h5⟩ := h2
  rcases h5 with ⟨rfl, h0⟩ | ⟨g', cap, cur, rfl, hb, hg, hl, hm, hs, ht⟩
  · obtain rfl : ls = [] := List.eq_nil_of_length_eq_zero h0
    exact PA.nil w
  · refine ⟨_, cap, vs, rfl, hl, hm, (fun h => by cases h), h1, fun _ => ⟨g', 0, rfl, fun i x hx => ?_⟩, fun i x l hx hl => (h3 i x l hx hl).1⟩
    rw [Nat.zero_add, cell_of_row w g' i cur 22 (0, 0) hg]
    have hi : i < vs.length := (List.getElem?_eq_some_iff.1 hx).1
    rw [← ht, List.getElem?_take, if_pos (by omega)] at hx
    simpa using hx

theorem RW.snoc {w wA w' : World} {base g : Nat} {y x v' : Value} {vs : List Value} {ls : List (List UInt8)} {l : List UInt8} (hl1 : vs.length = ls.length) (h2 : wA.ownsRow base 22 1 y ls.length vs) (h3 : ∀ (j : Nat) u l, vs[j]? = some u → ls[j]? = some l → HBN w g u l) (hx : HBN w g x l) (hb : Below w.heap.size w wA)
    (hg : wA.grownBy w' y.ownBlock) (ho : w'.ownsRow base 22 1 v' (ls.length + 1) (vs ++ [x])) : RW w' base g v' (ls ++ [l]) := by
  have t := TK.of_grown h2 hg
  refine ⟨vs ++ [x], by simp [hl1], by simpa using ho, fun j u m hu hm => ?_⟩
  by_cases hi : j < ls.length
  · rw [List.getElem?_append_left (by omega)] at hu hm
    exact ((h3 j u m hu hm).later hb).tk t (by decide)
  · rw [List.getElem?_append_right (by omega)] at hu hm
    rw [hl1] at hu
    obtain ⟨rfl, rfl⟩ : x = u ∧ l = m := by
      cases hj : j - ls.length with
      | zero => rw [hj] at hu hm; exact ⟨by simpa using hu, by simpa using hm⟩
      | succ j => rw [hj] at hm; simp at hm
    exact (hx.later hb).tk t (by decide)

/-- What a number, or a text, is read as behind what came ahead. -/
def rdU (l : List UInt8) (e : Int) (most : Int) : Int × Nat × List UInt8 := if e = 0 then uintF l most else (e, 0, l)
def rdB (l : List UInt8) (e : Int) (most : Int) : Int × List UInt8 × List UInt8 := if e = 0 then bytesF l most else (e, [], l)

theorem uintF_most (l : List UInt8) (most : Int) (hm : 0 ≤ most) : ((uintF l most).2.1 : Int) ≤ most := by
  unfold uintF
  split
  · simpa using hm
  · split
    · simpa using hm
    · split
      · simpa using hm
      · split
        · simpa using hm
        · split
          · simpa using hm
          · split
            · simpa using hm
            · simp; omega

theorem rdU_most (l : List UInt8) (e most : Int) (hm : 0 ≤ most) : ((rdU l e most).2.1 : Int) ≤ most := by
  unfold rdU
  split
  · exact uintF_most l most hm
  · simpa using hm

theorem bytesF_le (l : List UInt8) (most : Int) : (bytesF l most).2.2.length ≤ l.length := by
  have h := uintF_le l most
  unfold bytesF
  dsimp only
  split
  · simp
  · split
    · simp
    · simp; omega

theorem rdU_le (l : List UInt8) (e most : Int) : (rdU l e most).2.2.length ≤ l.length := by
  unfold rdU
  split
  · exact uintF_le l most
  · exact Nat.le_refl _
theorem rdB_le (l : List UInt8) (e most : Int) : (rdB l e most).2.2.length ≤ l.length := by
  unfold rdB
  split
  · exact bytesF_le l most
  · exact Nat.le_refl _

theorem ruint_all (g : Nat) (l : List UInt8) (e most : Int) (w : World) (h : RR w g l e) : Calls Try.prog 45 #[.pointer (some ⟨g, 0, none⟩), .int .i64 most] w fun x w' => x = .returned (.int .i64 ((rdU l e most).2.1 : Int)) ∧ RR w' g (rdU l e most).2.2 (rdU l e most).1 ∧ Only g w w' := by
  unfold rdU
  by_cases he : e = 0
  · subst he
    rw [if_pos rfl]
    exact uint_any g l most w h
  · rw [if_neg he]
    refine (uint_stays g l e most w h he).mono ?_
    rintro x w' ⟨rfl, rfl⟩
    exact ⟨rfl, h, Only.refl _ _⟩

theorem rbytes_all (g : Nat) (l : List UInt8) (e most : Int) (w : World) (h : RR w g l e) (hsz : l.length ≤ 140737488355328) : Calls Try.prog 90 #[.pointer (some ⟨g, 0, none⟩), .int .i64 most] w fun x w' => ∃ v, x = .returned v ∧ ∃ p c, v = .slice p (rdB l e most).2.1.length c ∧ HBN w' g (.slice p (rdB l e most).2.1.length c) (rdB l e most).2.1 ∧ RR w' g (rdB l e most).2.2 (rdB l e most).1 ∧ Only g w w' := by
  unfold rdB
  by_cases he : e = 0
  · subst he
    rw [if_pos rfl]
    exact (bytes_any g l most w h hsz).mono fun x w' ⟨p, c, h1, h2, h3, h4⟩ => ⟨_, h1, p, c, rfl, h2, h3, h4⟩
  · rw [if_neg he]
    refine (bytes_stays g l e most w h he).mono ?_
    rintro x w' ⟨rfl, rfl⟩
    exact ⟨_, rfl, none, 0, rfl, HBN.nil _ _, h, Only.refl _ _⟩

/-- The links, read one behind the other: they, what is left, the error. -/
def lkS (most : Int) (l : List UInt8) (e : Int) : Nat → List (List UInt8) × List UInt8 × Int
  | 0 => ([], l, e)
  | k + 1 => ((lkS most l e k).1 ++ [(rdB (lkS most l e k).2.1 (lkS most l e k).2.2 most).2.1], (rdB (lkS most l e k).2.1 (lkS most l e k).2.2 most).2.2, (rdB (lkS most l e k).2.1 (lkS most l e k).2.2 most).1)

theorem lkS_len (most : Int) (l : List UInt8) (e : Int) (k : Nat) : (lkS most l e k).1.length = k := by
  induction k with
  | zero => rfl
  | succ k ih => simp [lkS, ih]
theorem lkS_le (most : Int) (l : List UInt8) (e : Int) (k : Nat) : (lkS most l e k).2.1.length ≤ l.length := by
  induction k with
  | zero => exact Nat.le_refl _
  | succ k ih => exact Nat.le_trans (rdB_le _ _ _) ih

end Go.Proofs.Ythkgbgkijdeaoaa

namespace Go.Proofs.Ythkgbgkijdeaoaa

theorem cnt_byte (n : Nat) (h : n < 2 ^ 64) : (UInt8.ofNat (cnt n)).toNat = cnt n := by
  have := cnt_le8 n h
  simp
  omega

theorem uintF_put (n : Nat) (more : List UInt8) (most : Int) (h : n ≤ 4611686018427387904) (hm : (n : Int) ≤ most) : uintF (numL n ++ more) most = (0, n, more) := by
  have h64 : n < 2 ^ 64 := by omega
  have hc := cnt_byte n h64
  have h8 := cnt_le8 n h64
  have hl := ndigs_length n
  unfold numL
  simp only [List.cons_append, uintF]
  rw [hc]
  have ht : (ndigs n ++ more).take (cnt n) = ndigs n := by rw [← hl, List.take_left]
  have hd : (ndigs n ++ more).drop (cnt n) = more := by rw [← hl, List.drop_left]
  have hv := valL_digs 8 n (by rw [show (256 : Nat) ^ 8 = 2 ^ 64 from rfl]; exact h64) (Nat.le_refl _)
  rw [ht, hd, hv, if_neg (by omega), if_neg (by rw [List.length_append]; omega), if_neg, if_neg (by omega), if_neg (by omega)]
  intro e
  cases hdg : ndigs n with
  | nil => rw [hdg] at e; cases e
  | cons d r =>
    rw [hdg] at e
    have := ndigs_head n h64 d r hdg
    simp at e
    exact this e

theorem bytesF_put (s more : List UInt8) (most : Int) (h : s.length ≤ 4611686018427387904) (hm : (s.length : Int) ≤ most) : bytesF (bytesL s ++ more) most = (0, s, more) := by
  unfold bytesF bytesL
  rw [List.append_assoc, uintF_put s.length (s ++ more) most h hm]
  simp only [ne_eq, not_true, if_false]
  rw [if_neg (by rw [List.length_append]; omega), List.take_left, List.drop_left]

theorem flagF_put (b : Bool) (more : List UInt8) : flagF (flagL b ++ more) = (0, b, more) := by
  cases b <;> simp [flagL, flagF]

theorem uintF_back (l : List UInt8) (most : Int) (h : (uintF l most).1 = 0) : l = numL (uintF l most).2.1 ++ (uintF l most).2.2 ∧ (uintF l most).2.1 ≤ 4611686018427387904 ∧ ((uintF l most).2.1 : Int) ≤ most := by
  cases l with
  | nil => simp [uintF] at h
  | cons c r =>
    by_cases h1 : 8 < c.toNat
    · simp only [uintF] at h; rw [if_pos h1] at h; simp at h
    by_cases h2 : r.length < c.toNat
    · simp only [uintF] at h; rw [if_neg h1, if_pos h2] at h; simp at h
    by_cases h3 : (r.take c.toNat).head? = some 0
    · simp only [uintF] at h; rw [if_neg h1, if_neg h2, if_pos h3] at h; simp at h
    by_cases h4 : 4611686018427387904 < valL (r.take c.toNat)
    · simp only [uintF] at h; rw [if_neg h1, if_neg h2, if_neg h3, if_pos h4] at h; simp at h
    by_cases h5 : most < (valL (r.take c.toNat) : Int)
    · simp only [uintF] at h; rw [if_neg h1, if_neg h2, if_neg h3, if_neg h4, if_pos h5] at h; simp at h
    have e : uintF (c :: r) most = (0, valL (r.take c.toNat), r.drop c.toNat) := by simp only [uintF]; rw [if_neg h1, if_neg h2, if_neg h3, if_neg h4, if_neg h5]
    rw [e]
    refine ⟨?_, by simp only; omega, by simp only; omega⟩
    simp only
    have hl : (r.take c.toNat).length = c.toNat := by rw [List.length_take]; omega
    have hh : ∀ d r', r.take c.toNat = d :: r' → d ≠ 0 := fun d r' e0 h0 => h3 (by rw [e0, h0]; rfl)
    have hc := cnt_val _ (by omega) hh
    have hd := ndigs_val _ (by omega) hh
    unfold numL
    rw [hd, hc, hl]
    rw [List.cons_append, List.take_append_drop]
    congr 1
    apply UInt8.toNat_inj.1
    simp

theorem bytesF_back (l : List UInt8) (most : Int) (h : (bytesF l most).1 = 0) : l = bytesL (bytesF l most).2.1 ++ (bytesF l most).2.2 ∧ ((bytesF l most).2.1.length : Int) ≤ most := by
  have hb := uintF_back l most
  unfold bytesF at h ⊢
  generalize hu : uintF l most = u at *
  obtain ⟨e, n, r⟩ := u
  simp only at h hb ⊢
  by_cases h1 : e ≠ 0
  · rw [if_pos h1] at h
    exact absurd h h1
  · rw [if_neg h1] at h ⊢
    by_cases h2 : r.length < n
    · rw [if_pos h2] at h
      simp at h
    · rw [if_neg h2]
      have := hb (by omega)
      have hl : (r.take n).length = n := by rw [List.length_take]; omega
      refine ⟨?_, by simp only; omega⟩
      simp only
      unfold bytesL
      rw [hl, List.append_assoc, List.take_append_drop]
      exact this.1

theorem flagF_back (l : List UInt8) (h : (flagF l).1 = 0) : l = flagL (flagF l).2.1 ++ (flagF l).2.2 := by
  cases l with
  | nil => simp [flagF] at h
  | cons x r =>
    by_cases h1 : 1 < x.toNat
    · simp only [flagF] at h; rw [if_pos h1] at h; simp at h
    · have e : flagF (x :: r) = (0, x == 1, r) := by simp only [flagF]; rw [if_neg h1]
      rw [e]
      simp only [flagL]
      rcases Nat.eq_zero_or_pos x.toNat with h0 | h0
      · obtain rfl : x = 0 := UInt8.toNat_inj.1 (by simpa using h0)
        rfl
      · obtain rfl : x = 1 := UInt8.toNat_inj.1 (by simp; omega)
        rfl

end Go.Proofs.Ythkgbgkijdeaoaa

namespace Go.Proofs.Ythkgbgkijdeaoaa
open Go.RowKit

/-- The bindings as bytes, one behind the other; and a batch. -/
def binL (bs : List (List UInt8 × List UInt8)) : List UInt8 := (bs.map fun x => bytesL x.1 ++ bytesL x.2).flatten
def wrL (bs : List (List UInt8 × List UInt8)) : List UInt8 := numL bs.length ++ binL bs
theorem binL_snoc (bs : List (List UInt8 × List UInt8)) (x : List UInt8 × List UInt8) : binL (bs ++ [x]) = binL bs ++ (bytesL x.1 ++ bytesL x.2) := by simp [binL]
theorem binL_cons (bs : List (List UInt8 × List UInt8)) (x : List UInt8 × List UInt8) : binL (x :: bs) = bytesL x.1 ++ (bytesL x.2 ++ binL bs) := by simp [binL]

/-- How many bytes they hold. -/
def bulkB (bs : List (List UInt8 × List UInt8)) : Nat := (bs.map fun x => x.1.length + x.2.length).sum
theorem bulkB_take (bs : List (List UInt8 × List UInt8)) (k : Nat) : bulkB (bs.take k) ≤ bulkB bs := by
  induction bs generalizing k with
  | nil => simp
  | cons a t ih =>
    cases k with
    | zero => simp [bulkB]
    | succ k =>
      have := ih k
      simp only [bulkB, List.take_succ_cons, List.map_cons, List.sum_cons] at this ⊢
      omega
theorem bulkB_mem {bs : List (List UInt8 × List UInt8)} {x : List UInt8 × List UInt8} (h : x ∈ bs) : x.1.length + x.2.length ≤ bulkB bs := by
  induction bs with
  | nil => cases h
  | cons a t ih =>
    have e : bulkB (a :: t) = (a.1.length + a.2.length) + bulkB t := by simp [bulkB]
    rw [e]
    rcases List.mem_cons.1 h with rfl | h
    · omega
    · have := ih h
      omega

theorem bytesL_big (l : List UInt8) (h : l.length ≤ 4611686018427387904) : (bytesL l).length ≤ l.length + 9 := by
  unfold bytesL
  rw [List.length_append, numL_length]
  have := cnt_le8 l.length (by omega)
  omega

theorem binL_len (bs : List (List UInt8 × List UInt8)) (h : bulkB bs ≤ 1048576) : (binL bs).length ≤ bulkB bs + 18 * bs.length := by
  induction bs with
  | nil => simp [binL]
  | cons a t ih =>
    have e : bulkB (a :: t) = (a.1.length + a.2.length) + bulkB t := by simp [bulkB]
    rw [e] at h ⊢
    have h1 := bytesL_big a.1 (by omega)
    have h2 := bytesL_big a.2 (by omega)
    have h3 := ih (by omega)
    rw [binL_cons, List.length_append, List.length_append, List.length_cons]
    omega

/-- The bindings, read one behind the other: they, what is left, the error. -/
def bdS (mi mk : Int) (l : List UInt8) (e : Int) : Nat → List (List UInt8 × List UInt8) × List UInt8 × Int
  | 0 => ([], l, e)
  | k + 1 => ((bdS mi mk l e k).1 ++ [((rdB (bdS mi mk l e k).2.1 (bdS mi mk l e k).2.2 mi).2.1, (rdB (rdB (bdS mi mk l e k).2.1 (bdS mi mk l e k).2.2 mi).2.2 (rdB (bdS mi mk l e k).2.1 (bdS mi mk l e k).2.2 mi).1 mk).2.1)],
    (rdB (rdB (bdS mi mk l e k).2.1 (bdS mi mk l e k).2.2 mi).2.2 (rdB (bdS mi mk l e k).2.1 (bdS mi mk l e k).2.2 mi).1 mk).2.2, (rdB (rdB (bdS mi mk l e k).2.1 (bdS mi mk l e k).2.2 mi).2.2 (rdB (bdS mi mk l e k).2.1 (bdS mi mk l e k).2.2 mi).1 mk).1)

theorem bdS_len (mi mk : Int) (l : List UInt8) (e : Int) (k : Nat) : (bdS mi mk l e k).1.length = k := by
  induction k with
  | zero => rfl
  | succ k ih => simp [bdS, ih]
theorem bdS_le (mi mk : Int) (l : List UInt8) (e : Int) (k : Nat) : (bdS mi mk l e k).2.1.length ≤ l.length := by
  induction k with
  | zero => exact Nat.le_refl _
  | succ k ih => exact Nat.le_trans (rdB_le _ _ _) (Nat.le_trans (rdB_le _ _ _) ih)

theorem rdBz {l : List UInt8} {e most : Int} (h : (rdB l e most).1 = 0) : e = 0 ∧ l = bytesL (rdB l e most).2.1 ++ (rdB l e most).2.2 := by
  unfold rdB at h ⊢
  by_cases he : e = 0
  · rw [if_pos he] at h ⊢
    exact ⟨he, (bytesF_back l most h).1⟩
  · rw [if_neg he] at h
    exact absurd h he
theorem rdUz {l : List UInt8} {e most : Int} (h : (rdU l e most).1 = 0) : e = 0 ∧ l = numL (rdU l e most).2.1 ++ (rdU l e most).2.2 := by
  unfold rdU at h ⊢
  by_cases he : e = 0
  · rw [if_pos he] at h ⊢
    exact ⟨he, (uintF_back l most h).1⟩
  · rw [if_neg he] at h
    exact absurd h he

theorem bdS_zero (mi mk : Int) (l : List UInt8) (e : Int) : ∀ k, (bdS mi mk l e k).2.2 = 0 → e = 0 ∧ ∃ pre, l = pre ++ (bdS mi mk l e k).2.1 := by
  intro k
  induction k with
  | zero => intro h; exact ⟨h, [], rfl⟩
  | succ k ih =>
    intro h
    simp only [bdS] at h ⊢
    obtain ⟨h1, h2⟩ := rdBz h
    obtain ⟨h3, h4⟩ := rdBz h1
    obtain ⟨h5, pre, h6⟩ := ih h3
    refine ⟨h5, pre ++ (bytesL (rdB (bdS mi mk l e k).2.1 (bdS mi mk l e k).2.2 mi).2.1 ++ bytesL (rdB (rdB (bdS mi mk l e k).2.1 (bdS mi mk l e k).2.2 mi).2.2 (rdB (bdS mi mk l e k).2.1 (bdS mi mk l e k).2.2 mi).1 mk).2.1), ?_⟩
    rw [List.append_assoc, List.append_assoc, ← h2, ← h4]
    exact h6

/-- What is read of a batch's bytes. -/
def crU (b : List UInt8) : Int × Nat × List UInt8 := rdU b 0 32
def crS (mi mk : Int) (b : List UInt8) : List (List UInt8 × List UInt8) × List UInt8 × Int := bdS mi mk (crU b).2.2 (crU b).1 (crU b).2.1

theorem cr_rest (mi mk : Int) (b : List UInt8) (h : (crS mi mk b).2.2 = 0) : (crS mi mk b).2.1 = b.drop (b.length - (crS mi mk b).2.1.length) ∧ (crS mi mk b).2.1.length ≤ b.length := by
  obtain ⟨h1, pre, h2⟩ := bdS_zero mi mk _ _ _ h
  obtain ⟨_, h3⟩ := rdUz (show (rdU b 0 32).1 = 0 from h1)
  change b = numL (crU b).2.1 ++ (crU b).2.2 at h3
  change (crU b).2.2 = pre ++ (crS mi mk b).2.1 at h2
  have h4 : ∃ A, b = A ++ (crS mi mk b).2.1 := by
    refine ⟨numL (crU b).2.1 ++ pre, ?_⟩
    conv => lhs; rw [h3, h2]
    simp
  obtain ⟨A, h4⟩ := h4
  clear h1 h2 h3 h
  generalize (crS mi mk b).2.1 = R at *
  subst h4
  constructor
  · simp
  · simp

theorem rdBp (s more : List UInt8) (most : Int) (h : s.length ≤ 4611686018427387904) (hm : (s.length : Int) ≤ most) : rdB (bytesL s ++ more) 0 most = (0, s, more) := by
  unfold rdB
  rw [if_pos rfl]
  exact bytesF_put s more most h hm

theorem bdS_put (mi mk : Int) (more : List UInt8) (bs : List (List UInt8 × List UInt8)) (hz : ∀ x ∈ bs, (x.1.length : Int) ≤ mi ∧ (x.2.length : Int) ≤ mk) (hb : bulkB bs ≤ 1048576) : ∀ k, k ≤ bs.length → bdS mi mk (binL bs ++ more) 0 k = (bs.take k, binL (bs.drop k) ++ more, 0) := by
  intro k
  induction k with
  | zero => intro _; simp [bdS]
  | succ k ih =>
    intro hk
    have e := ih (by omega)
    have hlt : k < bs.length := by omega
    obtain ⟨z1, z2⟩ := hz bs[k] (List.getElem_mem hlt)
    have hm := bulkB_mem (List.getElem_mem hlt)
    simp only [bdS, e]
    rw [List.drop_eq_getElem_cons hlt, binL_cons, List.append_assoc, List.append_assoc, rdBp _ _ mi (by omega) z1]
    simp only
    rw [rdBp _ _ mk (by omega) z2]
    simp only
    rw [List.take_add_one, List.getElem?_eq_getElem hlt]
    rfl

/-- What was written is read, with anything behind. -/
theorem cr_back (mi mk : Int) (bs : List (List UInt8 × List UInt8)) (more : List UInt8) (hz : ∀ x ∈ bs, (x.1.length : Int) ≤ mi ∧ (x.2.length : Int) ≤ mk) (hb : bulkB bs ≤ 1048576) (hn : bs.length ≤ 32) : crS mi mk (wrL bs ++ more) = (bs, more, 0) := by
  have hU : crU (wrL bs ++ more) = (0, bs.length, binL bs ++ more) := by
    unfold crU rdU
    rw [if_pos rfl]
    unfold wrL
    rw [List.append_assoc]
    exact uintF_put bs.length _ 32 (by omega) (by omega)
  unfold crS
  rw [hU]
  simp only
  rw [bdS_put mi mk more bs hz hb _ (Nat.le_refl _)]
  simp [binL]

end Go.Proofs.Ythkgbgkijdeaoaa
