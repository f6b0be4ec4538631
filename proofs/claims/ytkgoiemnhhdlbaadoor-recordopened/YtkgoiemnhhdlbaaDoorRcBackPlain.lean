/- What this text holds: plain facts (and Decode's contract in one row): what was written of a record is read as it was; what was read, written, is what was read. -/
import Derived.Test.YtkgoiemnhhdlbaaDoorRcDecode
import Derived.Test.YtkgoiemnhhdlbaaDoorRcEncode
import Derived.Test.YtkgoiemnhhdlbaaDoorRdBackPlain
namespace Go.Proofs.YtkgoiemnhhdlbaaDoor
open Go.RowKit

theorem decode_any (size : Int) (v : Value) (b : List UInt8) (w : World) (hv : HB w v b) (hsz : b.length ≤ 140737488355000) (hTD : TD w) :
    Calls Tryd.prog 20 #[.int .i64 size, v] w (DecTold (dcOk size b) (dcR size b) w) := by
  have l1 : (dcE b).2.2.length ≤ b.length := rdU_le b 0 255
  have l2 : (dcT b).2.2.length ≤ (dcE b).2.2.length := rdU_le _ _ _
  have l3 : (dcTr size b).2.2.length ≤ (dcT b).2.2.length := rdB_le _ _ _
  have l4 : (dcC size b).2.2.length ≤ (dcTr size b).2.2.length := rdU_le _ _ _
  have l5 : (dcLi size b).2.2.length ≤ (dcC size b).2.2.length := rdB_le _ _ _
  have m1 : ((dcE b).2.1 : Int) ≤ 255 := rdU_most b 0 255 (by omega)
  exact decode_core size v b w hv hsz hTD (dcE b).1 (dcT b).1 (dcTr size b).1 (dcC size b).1 (dcLi size b).1 (dcE b).2.1 (dcT b).2.1 (dcC size b).2.1 (linksL (dcE b).2.1).length
    (dcE b).2.2 (dcT b).2.2 (dcTr size b).2.2 (dcTr size b).2.1 (dcC size b).2.2 (dcLi size b).2.2 (dcLi size b).2.1
    (fun k => (lkS size (dcLi size b).2.2 (dcLi size b).1 k).1) (fun k => (lkS size (dcLi size b).2.2 (dcLi size b).1 k).2.1) (fun k => (lkS size (dcLi size b).2.2 (dcLi size b).1 k).2.2) (fun k => (rdB (lkS size (dcLi size b).2.2 (dcLi size b).1 k).2.1 (lkS size (dcLi size b).2.2 (dcLi size b).1 k).2.2 size).2.1)
    (fun g w h => ruint_all g b 0 255 w h)
    (fun g w h => ruint_all g _ _ _ w h)
    (fun g w h => rbytes_all g _ _ _ w h (by omega))
    (fun g w h => ruint_all g _ _ _ w h)
    (fun g w h => rbytes_all g _ _ _ w h (by omega))
    (fun k g w h => rbytes_all g _ _ _ w h (by have := lkS_le size (dcLi size b).2.2 (dcLi size b).1 k; omega))
    ⟨rfl, rfl, rfl⟩ (fun _ => rfl) (fun k => lkS_len _ _ _ k) rfl (by omega) (linksL_len _ (by omega))

theorem rdU_put (n : Nat) (more : List UInt8) (most : Int) (h : n ≤ 4611686018427387904) (hm : (n : Int) ≤ most) : rdU (numL n ++ more) 0 most = (0, n, more) := by
  unfold rdU
  rw [if_pos rfl]
  exact uintF_put n more most h hm
theorem rdB_put (s more : List UInt8) (most : Int) (h : s.length ≤ 4611686018427387904) (hm : (s.length : Int) ≤ most) : rdB (bytesL s ++ more) 0 most = (0, s, more) := by
  unfold rdB
  rw [if_pos rfl]
  exact bytesF_put s more most h hm

theorem putL_cons (l : List UInt8) (ls : List (List UInt8)) : putL (l :: ls) = bytesL l ++ putL ls := by simp [putL]

theorem lkS_put (size : Int) (more : List UInt8) (ls : List (List UInt8)) (hz : ∀ x ∈ ls, (x.length : Int) ≤ size ∧ x.length ≤ 32) : ∀ k, k ≤ ls.length → lkS size (putL ls ++ more) 0 k = (ls.take k, putL (ls.drop k) ++ more, 0) := by
  intro k
  induction k with
  | zero => intro _; simp [lkS]
  | succ k ih =>
    intro hk
    have e := ih (by omega)
    have hlt : k < ls.length := by omega
    have hx := hz ls[k] (List.getElem_mem hlt)
    simp only [lkS, e]
    rw [List.drop_eq_getElem_cons hlt, putL_cons, List.append_assoc, rdB_put _ _ size (by omega) (by omega)]
    simp only
    rw [List.take_add_one, List.getElem?_eq_getElem hlt]
    rfl

theorem clampN_int (n : Int) (h0 : 0 ≤ n) (h : n ≤ 4611686018427387904) : ((clampN n : Nat) : Int) = n := by unfold clampN; omega

theorem sized_all {size : Int} {ls : List (List UInt8)} (h : sizedB size ls = true) : ∀ x ∈ ls, (x.length : Int) = size := by
  intro x hx
  unfold sizedB at h
  simpa using List.all_eq_true.1 h x hx

/-- Whether bytes, texts of so many read at most, are a record's. -/
def dcOkM (most size : Int) (b : List UInt8) : Bool := decide (endF (dcLk most b).2.1.length (dcLk most b).2.2 = 0) && canB size (dcR most b)

/-- What was written is read. -/
theorem dec_encM (most size : Int) (r : Rc) (h : canB size r = true) (hmo : size ≤ most) : dcOkM most size (encL r) = true ∧ dcR most (encL r) = r := by
  obtain ⟨q1, q2, q3, q4, q5, q6, q7, q8, q9, q10, q11, q12⟩ := (canB_iff size r).1 h
  have a1 := clampN_int r.e q3 (by omega)
  have a2 := clampN_int r.t q5 (by omega)
  have a3 := clampN_int r.c q7 (by omega)
  have hE : encL r = numL (clampN r.e) ++ (numL (clampN r.t) ++ (bytesL r.tr ++ (numL (clampN r.c) ++ (bytesL r.li ++ (putL r.lk ++ []))))) := by simp [encL]
  have e1 : dcE (encL r) = (0, clampN r.e, numL (clampN r.t) ++ (bytesL r.tr ++ (numL (clampN r.c) ++ (bytesL r.li ++ (putL r.lk ++ []))))) := by
    unfold dcE
    rw [hE]
    exact rdU_put _ _ _ (by omega) (by omega)
  have e2 : dcT (encL r) = (0, clampN r.t, bytesL r.tr ++ (numL (clampN r.c) ++ (bytesL r.li ++ (putL r.lk ++ [])))) := by
    unfold dcT
    rw [e1]
    exact rdU_put _ _ _ (by omega) (by omega)
  have e3 : dcTr most (encL r) = (0, r.tr, numL (clampN r.c) ++ (bytesL r.li ++ (putL r.lk ++ []))) := by
    unfold dcTr
    rw [e2]
    exact rdB_put _ _ _ (by omega) (by omega)
  have e4 : dcC most (encL r) = (0, clampN r.c, bytesL r.li ++ (putL r.lk ++ [])) := by
    unfold dcC
    rw [e3]
    exact rdU_put _ _ _ (by omega) (by omega)
  have e5 : dcLi most (encL r) = (0, r.li, putL r.lk ++ []) := by
    unfold dcLi
    rw [e4]
    exact rdB_put _ _ _ (by omega) (by omega)
  have hte : (clampN r.e) = r.e.toNat := by omega
  have e6 : dcLk most (encL r) = (r.lk, [], 0) := by
    unfold dcLk
    rw [e5, e1]
    simp only
    rw [hte, ← q9, lkS_put most [] r.lk (fun x hx => ⟨by have := sized_all q12 x hx; omega, sized_le q12 q2 x hx⟩) _ (Nat.le_refl _)]
    simp [putL]
  have hR : dcR most (encL r) = r := by
    unfold dcR
    rw [e1, e2, e3, e4, e5, e6]
    simp only [a1, a2, a3]
  refine ⟨?_, hR⟩
  unfold dcOkM
  rw [hR, h, e6]
  simp [endF]

theorem dec_enc (size : Int) (r : Rc) (h : canB size r = true) : dcOk size (encL r) = true ∧ dcR size (encL r) = r := dec_encM size size r h (Int.le_refl _)

theorem rdB_zero {l : List UInt8} {e most : Int} (h : (rdB l e most).1 = 0) : e = 0 ∧ l = bytesL (rdB l e most).2.1 ++ (rdB l e most).2.2 := by
  unfold rdB at h ⊢
  by_cases he : e = 0
  · rw [if_pos he] at h ⊢
    exact ⟨he, (bytesF_back l most h).1⟩
  · rw [if_neg he] at h
    exact absurd h he
theorem rdU_zero {l : List UInt8} {e most : Int} (h : (rdU l e most).1 = 0) : e = 0 ∧ l = numL (rdU l e most).2.1 ++ (rdU l e most).2.2 ∧ (rdU l e most).2.1 ≤ 4611686018427387904 := by
  unfold rdU at h ⊢
  by_cases he : e = 0
  · rw [if_pos he] at h ⊢
    have := uintF_back l most h
    exact ⟨he, this.1, this.2.1⟩
  · rw [if_neg he] at h
    exact absurd h he

theorem lkS_zero (size : Int) (l : List UInt8) (e : Int) : ∀ k, (lkS size l e k).2.2 = 0 → e = 0 ∧ l = putL (lkS size l e k).1 ++ (lkS size l e k).2.1 := by
  intro k
  induction k with
  | zero => intro h; exact ⟨h, by simp [lkS, putL]⟩
  | succ k ih =>
    intro h
    simp only [lkS] at h ⊢
    obtain ⟨h1, h2⟩ := rdB_zero h
    obtain ⟨h3, h4⟩ := ih h1
    refine ⟨h3, ?_⟩
    rw [putL_snoc, List.append_assoc, ← h2]
    exact h4

/-- What was read, written, is what was read. -/
theorem enc_decM (most size : Int) (b : List UInt8) (h : dcOkM most size b = true) : canB size (dcR most b) = true ∧ encL (dcR most b) = b := by
  unfold dcOkM at h
  simp only [Bool.and_eq_true, decide_eq_true_eq] at h
  obtain ⟨h1, h2⟩ := h
  refine ⟨h2, ?_⟩
  unfold endF at h1
  have he : (dcLk most b).2.2 = 0 := by
    split at h1
    · omega
    · exact h1
  have hl : (dcLk most b).2.1 = [] := by
    rcases Nat.eq_zero_or_pos (dcLk most b).2.1.length with h | h
    · exact List.eq_nil_of_length_eq_zero h
    · rw [if_pos ⟨he, h⟩] at h1
      omega
  obtain ⟨k5, p5⟩ := lkS_zero most _ _ _ he
  obtain ⟨k4, p4⟩ := rdB_zero (show (dcLi most b).1 = 0 from k5)
  obtain ⟨k3, p3, u3⟩ := rdU_zero (show (dcC most b).1 = 0 from k4)
  obtain ⟨k2, p2⟩ := rdB_zero (show (dcTr most b).1 = 0 from k3)
  obtain ⟨k1, p1, u1⟩ := rdU_zero (show (dcT b).1 = 0 from k2)
  obtain ⟨_, p0, u0⟩ := rdU_zero (show (dcE b).1 = 0 from k1)
  change (dcLi most b).2.2 = putL (dcLk most b).1 ++ (dcLk most b).2.1 at p5
  change (dcC most b).2.2 = bytesL (dcLi most b).2.1 ++ (dcLi most b).2.2 at p4
  change (dcTr most b).2.2 = numL (dcC most b).2.1 ++ (dcC most b).2.2 at p3
  change (dcT b).2.2 = bytesL (dcTr most b).2.1 ++ (dcTr most b).2.2 at p2
  change (dcE b).2.2 = numL (dcT b).2.1 ++ (dcT b).2.2 at p1
  change b = numL (dcE b).2.1 ++ (dcE b).2.2 at p0
  change (dcC most b).2.1 ≤ _ at u3
  change (dcT b).2.1 ≤ _ at u1
  change (dcE b).2.1 ≤ _ at u0
  have hb : b = encL (dcR most b) := by
    conv => lhs; rw [p0, p1, p2, p3, p4, p5, hl]
    unfold encL dcR
    simp only
    rw [clampN_nat _ u0, clampN_nat _ u1, clampN_nat _ u3]
    simp
  exact hb.symm

theorem enc_dec (size : Int) (b : List UInt8) (h : dcOk size b = true) : canB size (dcR size b) = true ∧ encL (dcR size b) = b := enc_decM size size b h

end Go.Proofs.YtkgoiemnhhdlbaaDoor
