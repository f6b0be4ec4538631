/- What this text holds: what is read of a batch's bytes, plainly; what was written is read as it was (no walk). -/
import Derived.Test.YthkgbgkijdeaoaaRcKeep
import Derived.Test.YthkgbgkijdeaoaaRdBackPlain
namespace Go.Proofs.Ythkgbgkijdeaoaa
open Go.RowKit

/-- The bindings as bytes, one behind the other; and a batch. -/
def binL (bs : List (List UInt8 × List UInt8)) : List UInt8 := (bs.map fun x => bytesL x.1 ++ bytesL x.2).flatten
def wrL (bs : List (List UInt8 × List UInt8)) : List UInt8 := numL bs.length ++ binL bs
theorem binL_snoc (bs : List (List UInt8 × List UInt8)) (x : List UInt8 × List UInt8) : binL (bs ++ [x]) = binL bs ++ (bytesL x.1 ++ bytesL x.2) := by simp [binL]
theorem binL_cons (bs : List (List UInt8 × List UInt8)) (x : List UInt8 × List UInt8) : binL (x :: bs) = bytesL x.1 ++ (bytesL x.2 ++ binL bs) := by simp [binL]

/-- How many bytes they hold. -/
def bulkB (bs : List (List UInt8 × List UInt8)) : Nat := (bs.map fun x => x.1.length + x.2.length).sum
theorem bulkB_take (bs : List (List UInt8 × List UInt8)) (k : Nat) : bulkB (bs.take k) ≤ bulkB bs := by
  induction bs generalizing k with
  | nil => simp
  | cons a t ih =>
    cases k with
    | zero => simp [bulkB]
    | succ k =>
      have := ih k
      simp only [bulkB, List.take_succ_cons, List.map_cons, List.sum_cons] at this ⊢
      omega
theorem bulkB_mem {bs : List (List UInt8 × List UInt8)} {x : List UInt8 × List UInt8} (h : x ∈ bs) : x.1.length + x.2.length ≤ bulkB bs := by
  induction bs with
  | nil => cases h
  | cons a t ih =>
    have e : bulkB (a :: t) = (a.1.length + a.2.length) + bulkB t := by simp [bulkB]
    rw [e]
    rcases List.mem_cons.1 h with rfl | h
    · omega
    · have := ih h
      omega

theorem bytesL_big (l : List UInt8) (h : l.length ≤ 4611686018427387904) : (bytesL l).length ≤ l.length + 9 := by
  unfold bytesL
  rw [List.length_append, numL_length]
  have := cnt_le8 l.length (by omega)
  omega

theorem binL_len (bs : List (List UInt8 × List UInt8)) (h : bulkB bs ≤ 1048576) : (binL bs).length ≤ bulkB bs + 18 * bs.length := by
  induction bs with
  | nil => simp [binL]
  | cons a t ih =>
    have e : bulkB (a :: t) = (a.1.length + a.2.length) + bulkB t := by simp [bulkB]
    rw [e] at h ⊢
    have h1 := bytesL_big a.1 (by omega)
    have h2 := bytesL_big a.2 (by omega)
    have h3 := ih (by omega)
    rw [binL_cons, List.length_append, List.length_append, List.length_cons]
    omega

/-- The bindings, read one behind the other: they, what is left, the error. -/
def bdS (mi mk : Int) (l : List UInt8) (e : Int) : Nat → List (List UInt8 × List UInt8) × List UInt8 × Int
  | 0 => ([], l, e)
  | k + 1 => ((bdS mi mk l e k).1 ++ [((rdB (bdS mi mk l e k).2.1 (bdS mi mk l e k).2.2 mi).2.1, (rdB (rdB (bdS mi mk l e k).2.1 (bdS mi mk l e k).2.2 mi).2.2 (rdB (bdS mi mk l e k).2.1 (bdS mi mk l e k).2.2 mi).1 mk).2.1)],
    (rdB (rdB (bdS mi mk l e k).2.1 (bdS mi mk l e k).2.2 mi).2.2 (rdB (bdS mi mk l e k).2.1 (bdS mi mk l e k).2.2 mi).1 mk).2.2, (rdB (rdB (bdS mi mk l e k).2.1 (bdS mi mk l e k).2.2 mi).2.2 (rdB (bdS mi mk l e k).2.1 (bdS mi mk l e k).2.2 mi).1 mk).1)

theorem bdS_len (mi mk : Int) (l : List UInt8) (e : Int) (k : Nat) : (bdS mi mk l e k).1.length = k := by
  induction k with
  | zero => rfl
  | succ k ih => simp [bdS, ih]
theorem bdS_le (mi mk : Int) (l : List UInt8) (e : Int) (k : Nat) : (bdS mi mk l e k).2.1.length ≤ l.length := by
  induction k with
  | zero => exact Nat.le_refl _
  | succ k ih => exact Nat.le_trans (rdB_le _ _ _) (Nat.le_trans (rdB_le _ _ _) ih)

theorem rdBz {l : List UInt8} {e most : Int} (h : (rdB l e most).1 = 0) : e = 0 ∧ l = bytesL (rdB l e most).2.1 ++ (rdB l e most).2.2 := by
  unfold rdB at h ⊢
  by_cases he : e = 0
  · rw [if_pos he] at h ⊢
    exact ⟨he, (bytesF_back l most h).1⟩
  · rw [if_neg he] at h
    exact absurd h he
theorem rdUz {l : List UInt8} {e most : Int} (h : (rdU l e most).1 = 0) : e = 0 ∧ l = numL (rdU l e most).2.1 ++ (rdU l e most).2.2 := by
  unfold rdU at h ⊢
  by_cases he : e = 0
  · rw [if_pos he] at h ⊢
    exact ⟨he, (uintF_back l most h).1⟩
  · rw [if_neg he] at h
    exact absurd h he

theorem bdS_zero (mi mk : Int) (l : List UInt8) (e : Int) : ∀ k, (bdS mi mk l e k).2.2 = 0 → e = 0 ∧ ∃ pre, l = pre ++ (bdS mi mk l e k).2.1 := by
  intro k
  induction k with
  | zero => intro h; exact ⟨h, [], rfl⟩
  | succ k ih =>
    intro h
    simp only [bdS] at h ⊢
    obtain ⟨h1, h2⟩ := rdBz h
    obtain ⟨h3, h4⟩ := rdBz h1
    obtain ⟨h5, pre, h6⟩ := ih h3
    refine ⟨h5, pre ++ (bytesL (rdB (bdS mi mk l e k).2.1 (bdS mi mk l e k).2.2 mi).2.1 ++ bytesL (rdB (rdB (bdS mi mk l e k).2.1 (bdS mi mk l e k).2.2 mi).2.2 (rdB (bdS mi mk l e k).2.1 (bdS mi mk l e k).2.2 mi).1 mk).2.1), ?_⟩
    rw [List.append_assoc, List.append_assoc, ← h2, ← h4]
    exact h6

/-- What is read of a batch's bytes. -/
def crU (b : List UInt8) : Int × Nat × List UInt8 := rdU b 0 32
def crS (mi mk : Int) (b : List UInt8) : List (List UInt8 × List UInt8) × List UInt8 × Int := bdS mi mk (crU b).2.2 (crU b).1 (crU b).2.1

theorem cr_rest (mi mk : Int) (b : List UInt8) (h : (crS mi mk b).2.2 = 0) : (crS mi mk b).2.1 = b.drop (b.length - (crS mi mk b).2.1.length) ∧ (crS mi mk b).2.1.length ≤ b.length := by
  obtain ⟨h1, pre, h2⟩ := bdS_zero mi mk _ _ _ h
  obtain ⟨_, h3⟩ := rdUz (show (rdU b 0 32).1 = 0 from h1)
  change b = numL (crU b).2.1 ++ (crU b).2.2 at h3
  change (crU b).2.2 = pre ++ (crS mi mk b).2.1 at h2
  have h4 : ∃ A, b = A ++ (crS mi mk b).2.1 := by
    refine ⟨numL (crU b).2.1 ++ pre, ?_⟩
    conv => lhs; rw [h3, h2]
    simp
  obtain ⟨A, h4⟩ := h4
  clear h1 h2 h3 h
  generalize (crS mi mk b).2.1 = R at *
  subst h4
  constructor
  · simp
  · simp

theorem rdBp (s more : List UInt8) (most : Int) (h : s.length ≤ 4611686018427387904) (hm : (s.length : Int) ≤ most) : rdB (bytesL s ++ more) 0 most = (0, s, more) := by
  unfold rdB
  rw [if_pos rfl]
  exact bytesF_put s more most h hm

theorem bdS_put (mi mk : Int) (more : List UInt8) (bs : List (List UInt8 × List UInt8)) (hz : ∀ x ∈ bs, (x.1.length : Int) ≤ mi ∧ (x.2.length : Int) ≤ mk) (hb : bulkB bs ≤ 1048576) : ∀ k, k ≤ bs.length → bdS mi mk (binL bs ++ more) 0 k = (bs.take k, binL (bs.drop k) ++ more, 0) := by
  intro k
  induction k with
  | zero => intro _; simp [bdS]
  | succ k ih =>
    intro hk
    have e := ih (by omega)
    have hlt : k < bs.length := by omega
    obtain ⟨z1, z2⟩ := hz bs[k] (List.getElem_mem hlt)
    have hm := bulkB_mem (List.getElem_mem hlt)
    simp only [bdS, e]
    rw [List.drop_eq_getElem_cons hlt, binL_cons, List.append_assoc, List.append_assoc, rdBp _ _ mi (by omega) z1]
    simp only
    rw [rdBp _ _ mk (by omega) z2]
    simp only
    rw [List.take_add_one, List.getElem?_eq_getElem hlt]
    rfl

/-- What was written is read, with anything behind. -/
theorem cr_back (mi mk : Int) (bs : List (List UInt8 × List UInt8)) (more : List UInt8) (hz : ∀ x ∈ bs, (x.1.length : Int) ≤ mi ∧ (x.2.length : Int) ≤ mk) (hb : bulkB bs ≤ 1048576) (hn : bs.length ≤ 32) : crS mi mk (wrL bs ++ more) = (bs, more, 0) := by
  have hU : crU (wrL bs ++ more) = (0, bs.length, binL bs ++ more) := by
    unfold crU rdU
    rw [if_pos rfl]
    unfold wrL
    rw [List.append_assoc]
    exact uintF_put bs.length _ 32 (by omega) (by omega)
  unfold crS
  rw [hU]
  simp only
  rw [bdS_put mi mk more bs hz hb _ (Nat.le_refl _)]
  simp [binL]

end Go.Proofs.Ythkgbgkijdeaoaa
