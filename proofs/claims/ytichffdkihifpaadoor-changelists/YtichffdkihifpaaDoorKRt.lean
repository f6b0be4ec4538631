/- What this text holds: plain facts about the root over digests: by halves; how long it is (no program). -/
import Derived.Test.YtichffdkihifpaaDoorKRoot
namespace Go.Proofs.YtichffdkihifpaaDoor
open Go.RowKit

/-- The root over one digest or more, by halves. -/
def rtF (size : Int) : Nat → List (List UInt8) → List UInt8
  | 0, ls => ls.headD []
  | f + 1, ls => if ls.length ≤ 1 then ls.headD [] else pairF size (rtF size f (ls.take (half ls.length))) (rtF size f (ls.drop (half ls.length)))

theorem rtF_one (size : Int) (f : Nat) {ls : List (List UInt8)} (h : ls.length ≤ 1) : rtF size f ls = ls.headD [] := by cases f <;> simp [rtF, h]
theorem rtF_more (size : Int) (f : Nat) {ls : List (List UInt8)} (h : 2 ≤ ls.length) : rtF size (f + 1) ls = pairF size (rtF size f (ls.take (half ls.length))) (rtF size f (ls.drop (half ls.length))) := by
  simp only [rtF]
  rw [if_neg (by omega)]

/-- The digests from b on up to e. -/
def seg (ls : List (List UInt8)) (b e : Nat) : List (List UInt8) := (ls.drop b).take (e - b)
theorem seg_length {ls : List (List UInt8)} {b e : Nat} (he : e ≤ ls.length) : (seg ls b e).length = e - b := by simp [seg]; omega
theorem seg_take {ls : List (List UInt8)} {b e k : Nat} (hk : k ≤ e - b) : (seg ls b e).take k = seg ls b (b + k) := by
  unfold seg
  rw [List.take_take, show min k (e - b) = b + k - b by omega]
theorem seg_drop {ls : List (List UInt8)} {b e k : Nat} : (seg ls b e).drop k = seg ls (b + k) e := by
  unfold seg
  rw [List.drop_take, List.drop_drop, show e - (b + k) = e - b - k by omega]
theorem seg_head {ls : List (List UInt8)} {b e : Nat} (h : b < e) : (seg ls b e).headD [] = ls.getD b [] := by
  unfold seg
  rw [List.headD_eq_head?_getD, List.head?_take, if_neg (by omega), List.head?_drop, List.getD_eq_getElem?_getD]
theorem seg_all {ls : List (List UInt8)} : seg ls 0 ls.length = ls := by simp [seg]

theorem rtF_fuel (size : Int) : ∀ (f g : Nat) (ls : List (List UInt8)), ls.length ≤ 2 ^ f → ls.length ≤ 2 ^ g → ls.length ≤ 4611686018427387904 → rtF size f ls = rtF size g ls := by
  intro f
  induction f with
  | zero => intro g ls h1 h2 _; simp at h1; rw [rtF_one size 0 h1, rtF_one size g h1]
  | succ f ih =>
    intro g ls h1 h2 h3
    by_cases hc : ls.length ≤ 1
    · rw [rtF_one size _ hc, rtF_one size g hc]
    · cases g with
      | zero => simp at h2; omega
      | succ g =>
        have hn : 2 ≤ ls.length := by omega
        obtain ⟨q1, q2, q3⟩ := half_bounds hn h3
        obtain ⟨r1, r2⟩ := half_le hn h3 h1
        obtain ⟨t1, t2⟩ := half_le hn h3 h2
        rw [rtF_more size f hn, rtF_more size g hn, ih g _ (by simp; omega) (by simp; omega) (by simp; omega), ih g (ls.drop _) (by simp; omega) (by simp; omega) (by simp; omega)]

theorem ovF_root (size : Int) (ls : List (List UInt8)) (hb : ls.length ≤ 4611686018427387904) : ∀ (f b e s : Nat), b < e → e ≤ ls.length → e - b ≤ 2 ^ f → ovF size (knR ls) f b e s = (rtF size f (seg ls b e), s) := by
  intro f
  induction f with
  | zero =>
    intro b e s h1 h2 h3
    simp at h3
    rw [ovF_some (l := ls.getD b []) (by simp [knR]; omega), rtF_one size 0 (by rw [seg_length h2]; omega), seg_head h1]
    simp [knR]
  | succ f ih =>
    intro b e s h1 h2 h3
    by_cases hc : b + 1 < e
    · have hn : 2 ≤ e - b := by omega
      obtain ⟨q1, q2, q3⟩ := half_bounds hn (by omega)
      obtain ⟨r1, r2⟩ := half_le hn (by omega) h3
      have hs : (knR ls s b e).2 = s := rfl
      rw [ovF_none (by simp [knR, hc]), hs, ih b _ s (by omega) (by omega) (by omega), ih _ e s (by omega) h2 (by omega)]
      rw [rtF_more size f (by rw [seg_length h2]; exact hn), seg_length h2, seg_take (by omega), seg_drop]
    · rw [ovF_some (l := ls.getD b []) (by simp [knR]; omega), rtF_one size _ (by rw [seg_length h2]; omega), seg_head h1]
      simp [knR]

theorem rootF_rt (size : Int) (f : Nat) (ls : List (List UInt8)) (hn : ls ≠ []) (hb : ls.length ≤ 140737488355328) (hf : ls.length ≤ 2 ^ f) : rootF size ls = rtF size f ls := by
  have h0 : 0 < ls.length := List.length_pos_iff.2 hn
  unfold rootF
  rw [if_neg hn, ovF_root size ls (by omega) 47 0 ls.length 0 h0 (Nat.le_refl _) (by omega), seg_all]
  exact rtF_fuel size 47 f ls (by omega) hf (by omega)

theorem hashF_le32 (size : Int) (tag : Nat) (ls : List (List UInt8)) : (hashF size tag ls).length ≤ 32 := by
  unfold hashF
  have := cutLen_le size
  split
  · rw [List.length_take]; omega
  · simp

theorem rtF_len (size : Int) (M : Nat) (hM : 32 ≤ M) : ∀ (f : Nat) (ls : List (List UInt8)), (∀ l ∈ ls, l.length ≤ M) → (rtF size f ls).length ≤ M := by
  have one : ∀ ls : List (List UInt8), (∀ l ∈ ls, l.length ≤ M) → (ls.headD []).length ≤ M := by
    intro ls h
    cases ls with
    | nil => simp
    | cons x r => exact h x (by simp)
  intro f
  induction f with
  | zero => intro ls h; exact one ls h
  | succ f ih =>
    intro ls h
    by_cases hc : ls.length ≤ 1
    · rw [rtF_one size _ hc]; exact one ls h
    · rw [rtF_more size f (by omega)]
      exact Nat.le_trans (hashF_le32 _ _ _) hM

theorem rootF_len (size : Int) (M : Nat) (hM : 32 ≤ M) (ls : List (List UInt8)) (hb : ls.length ≤ 140737488355328) (h : ∀ l ∈ ls, l.length ≤ M) : (rootF size ls).length ≤ M := by
  by_cases hn : ls = []
  · subst hn
    unfold rootF
    rw [if_pos rfl]
    exact Nat.le_trans (hashF_le32 _ _ _) hM
  · rw [rootF_rt size 47 ls hn hb (by omega)]
    exact rtF_len size M hM 47 ls h

theorem seg_mem {ls : List (List UInt8)} {b e : Nat} {l : List UInt8} (h : l ∈ seg ls b e) : l ∈ ls := List.mem_of_mem_drop (List.mem_of_mem_take h)

end Go.Proofs.YtichffdkihifpaaDoor
