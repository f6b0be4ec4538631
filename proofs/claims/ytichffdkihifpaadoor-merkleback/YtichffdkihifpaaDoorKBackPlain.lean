/- What this text holds: plain facts: digests inside a range, and the roots that show it, come to the root (no program). -/
import Derived.Test.YtichffdkihifpaaDoorKSmall
namespace Go.Proofs.YtichffdkihifpaaDoor
open Go.RowKit

theorem fix4_len (l : List UInt8) : (fix4 l).length = 4 := by
  unfold fix4 zero4
  simp
  omega

theorem cut4 : cutLen 4 = 4 := by unfold cutLen; omega

theorem hashF_4 (tag : Nat) (ls : List (List UInt8)) (h : ∀ p ∈ ls, p.length ≤ 65535) : (hashF 4 tag ls).length = 4 := by
  unfold hashF
  rw [if_pos h, List.length_take, sha_length, cut4]
  rfl

theorem rtF_4 : ∀ (f : Nat) (ls : List (List UInt8)), ls ≠ [] → ls.length ≤ 4611686018427387904 → (∀ l ∈ ls, l.length = 4) → (rtF 4 f ls).length = 4 := by
  have one : ∀ ls : List (List UInt8), ls ≠ [] → (∀ l ∈ ls, l.length = 4) → (ls.headD []).length = 4 := by
    intro ls hn h
    cases ls with
    | nil => exact absurd rfl hn
    | cons x r => exact h x (by simp)
  intro f
  induction f with
  | zero => intro ls hn _ h; exact one ls hn h
  | succ f ih =>
    intro ls hn hb h
    by_cases hc : ls.length ≤ 1
    · rw [rtF_one 4 _ hc]; exact one ls hn h
    · have h2 : 2 ≤ ls.length := by omega
      obtain ⟨q1, q2, q3⟩ := half_bounds h2 hb
      rw [rtF_more 4 f h2]
      refine hashF_4 4 _ ?_
      intro p hp
      simp only [List.mem_cons, List.not_mem_nil, or_false] at hp
      rcases hp with rfl | rfl
      · rw [ih _ (fun e => by have := congrArg List.length e; rw [List.length_take, List.length_nil] at this; omega) (by simp; omega) (fun l hl => h l (List.mem_of_mem_take hl))]
        omega
      · rw [ih _ (fun e => by have := congrArg List.length e; simp at this; omega) (by simp; omega) (fun l hl => h l (List.mem_of_mem_drop hl))]
        omega

theorem rootF_4 (ls : List (List UInt8)) (hb : ls.length ≤ 140737488355328) (h : ∀ l ∈ ls, l.length = 4) : (rootF 4 ls).length = 4 := by
  by_cases hn : ls = []
  · subst hn
    unfold rootF
    rw [if_pos rfl]
    exact hashF_4 0 _ (by simp)
  · rw [rootF_rt 4 47 ls hn hb (by omega)]
    exact rtF_4 47 ls hn (by omega) h

/-- What is folded of a part is the part's root. -/
theorem ovF_show (size : Int) (ls : List (List UInt8)) (lo hi : Nat) (outs : List (List UInt8)) (hh : hi ≤ ls.length) (hb : ls.length ≤ 140737488355328) : ∀ (f b e s : Nat), b < e → e ≤ ls.length → e - b ≤ 2 ^ f →
    (∀ i q, (wo lo hi f b e)[i]? = some q → outs[s + i]? = some (partF size ls q)) → (ovF size (knF lo hi (seg ls lo hi) outs) f b e s).1 = rtF size f (seg ls b e) := by
  have apart : ∀ (f b e s : Nat), b < e → e ≤ ls.length → e - b ≤ 2 ^ f → (∀ i q, (wo lo hi f b e)[i]? = some q → outs[s + i]? = some (partF size ls q)) → (lo = hi ∨ e ≤ lo ∨ hi ≤ b) → (ovF size (knF lo hi (seg ls lo hi) outs) f b e s).1 = rtF size f (seg ls b e) := by
    intro f b e s h1 h2 h3 h4 ho
    rw [ovF_some (l := outs.getD s []) (by simp [knF, ho])]
    rw [wo_apart ho h1] at h4
    have := h4 0 (b, e) rfl
    rw [Nat.add_zero] at this
    show outs.getD s [] = _
    rw [List.getD_eq_getElem?_getD, this, Option.getD_some]
    have hl := seg_length (b := b) h2
    exact rootF_rt size f (seg ls b e) (fun e0 => by rw [e0] at hl; simp at hl; omega) (by omega) (by omega)
  have inner : ∀ (f b e s : Nat), b < e → e ≤ ls.length → ¬ (lo = hi ∨ e ≤ lo ∨ hi ≤ b) → e ≤ b + 1 → (ovF size (knF lo hi (seg ls lo hi) outs) f b e s).1 = rtF size f (seg ls b e) := by
    intro f b e s h1 h2 ho h1e
    rw [ovF_some (l := (seg ls lo hi).getD (b - lo) []) (by simp only [knF, if_neg ho, if_pos h1e])]
    rw [rtF_one size f (by rw [seg_length h2]; omega), seg_head h1]
    show (seg ls lo hi).getD (b - lo) [] = ls.getD b []
    unfold seg
    rw [List.getD_eq_getElem?_getD, List.getD_eq_getElem?_getD, List.getElem?_take, if_pos (by omega), List.getElem?_drop, show lo + (b - lo) = b by omega]
  intro f
  induction f with
  | zero =>
    intro b e s h1 h2 h3 h4
    by_cases ho : lo = hi ∨ e ≤ lo ∨ hi ≤ b
    · exact apart 0 b e s h1 h2 h3 h4 ho
    · simp at h3
      exact inner 0 b e s h1 h2 ho (by omega)
  | succ f ih =>
    intro b e s h1 h2 h3 h4
    by_cases ho : lo = hi ∨ e ≤ lo ∨ hi ≤ b
    · exact apart (f + 1) b e s h1 h2 h3 h4 ho
    · by_cases h1e : e ≤ b + 1
      · exact inner (f + 1) b e s h1 h2 ho h1e
      · have hn : 2 ≤ e - b := by omega
        obtain ⟨q1, q2, q3⟩ := half_bounds hn (by omega)
        obtain ⟨r1, r2⟩ := half_le hn (by omega) h3
        have hk : knF lo hi (seg ls lo hi) outs s b e = (none, s) := by simp only [knF, if_neg ho, if_neg h1e]
        rw [wo_split ho hn (by omega)] at h4
        have i1 := ih b (b + half (e - b)) s (by omega) (by omega) (by omega) (fun i q hq => h4 i q (by
          rw [List.getElem?_append_left (List.getElem?_eq_some_iff.1 hq).1]; exact hq))
        have i2 := ih (b + half (e - b)) e (s + (wo lo hi f b (b + half (e - b))).length) (by omega) h2 (by omega) (fun i q hq => by
          have := h4 ((wo lo hi f b (b + half (e - b))).length + i) q (by rw [List.getElem?_append_right (by omega), Nat.add_sub_cancel_left]; exact hq)
          rw [← Nat.add_assoc] at this
          exact this)
        rw [ovF_none (by rw [hk]), hk]
        show pairF size (ovF size (knF lo hi (seg ls lo hi) outs) f b (b + half (e - b)) s).1 (ovF size (knF lo hi (seg ls lo hi) outs) f (b + half (e - b)) e (ovF size (knF lo hi (seg ls lo hi) outs) f b (b + half (e - b)) s).2).1 = _
        rw [ovF_next size lo hi _ outs f b _ s (by omega) (by omega) (by omega), i1, i2]
        rw [rtF_more size f (by rw [seg_length h2]; exact hn), seg_length h2, seg_take (by omega), seg_drop]

theorem seg_len2 {ls : List (List UInt8)} {b e : Nat} (he : e ≤ ls.length) (hbe : b ≤ e) : (b + (seg ls b e).length : Nat) = e := by
  rw [seg_length he]
  omega

theorem rng_len (size : Int) (ls : List (List UInt8)) (lo hi : Int) (hb : ls.length ≤ 1048576) : (rngF size ls lo hi).length = cntF (ls.length : Int) lo hi := by
  unfold rngF cntF
  by_cases h : 0 ≤ lo ∧ lo ≤ hi ∧ hi ≤ (ls.length : Int) ∧ 0 < ls.length
  · rw [if_pos h, if_pos ⟨by omega, h.1, h.2.1, h.2.2.1, by omega⟩, List.length_map, Int.toNat_natCast]
  · rw [if_neg h, if_neg (fun h' => h ⟨h'.2.1, h'.2.2.1, h'.2.2.2.1, by omega⟩)]
    rfl

theorem allLen_of {ls : List (List UInt8)} (h : ∀ l ∈ ls, l.length = 4) : allLen 4 ls = true := by
  unfold allLen
  rw [List.all_eq_true]
  intro l hl
  simp [h l hl]

theorem back_fold (ls : List (List UInt8)) (lo hi : Nat) (h : ∀ l ∈ ls, l.length = 4) (hb : ls.length ≤ 1048576) (h1 : lo ≤ hi) (h2 : hi ≤ ls.length) : foldR 4 (ls.length : Int) (lo : Int) (seg ls lo hi) (rngF 4 ls (lo : Int) (hi : Int)) = (rootF 4 ls, 0) := by
  have hl := seg_length (b := lo) h2
  have hs := seg_len2 h2 h1
  have hsum : (lo : Int) + ((seg ls lo hi).length : Int) = (hi : Int) := by omega
  have hall : ∀ l ∈ rngF 4 ls (lo : Int) (hi : Int), l.length = 4 := by
    intro l hl
    unfold rngF at hl
    split at hl
    · obtain ⟨q, _, rfl⟩ := List.mem_map.1 hl
      have hle : (seg ls q.1 q.2).length ≤ ls.length := by unfold seg; simp; omega
      exact rootF_4 _ (by omega) fun l hl => h l (seg_mem hl)
    · cases hl
  unfold foldR
  rw [if_pos ⟨by omega, by omega, by omega, by omega, by omega⟩, hsum, if_pos ⟨rng_len 4 ls _ _ hb, allLen_of fun l hl => h l (seg_mem hl), allLen_of hall⟩]
  by_cases hc : ((seg ls lo hi).length : Int) = (ls.length : Int)
  · rw [if_pos hc]
    obtain rfl : lo = 0 := by omega
    obtain rfl : hi = ls.length := by omega
    rw [seg_all]
  · rw [if_neg hc]
    have h0 : 0 < ls.length := by omega
    have e : fldF 4 ((ls.length : Int)).toNat ((lo : Int)).toNat (((lo : Int)).toNat + (seg ls lo hi).length) (seg ls lo hi) (rngF 4 ls (lo : Int) (hi : Int)) = rootF 4 ls := by
      simp only [Int.toNat_natCast]
      rw [hs, rootF_rt 4 20 ls (List.length_pos_iff.1 h0) (by omega) (by omega)]
      unfold fldF
      rw [ovF_show 4 ls lo hi _ h2 (by omega) 20 0 ls.length 0 h0 (Nat.le_refl _) (by omega) ?_, seg_all]
      intro i q hq
      unfold rngF
      rw [if_pos ⟨by omega, by omega, by omega, h0⟩]
      simp only [Int.toNat_natCast, Nat.zero_add]
      rw [List.getElem?_map, hq]
      rfl
    rw [e]

theorem back_all (ls : List (List UInt8)) (h : ∀ l ∈ ls, l.length = 4) (hb : ls.length ≤ 1048576) : foldR 4 (ls.length : Int) 0 ls [] = (rootF 4 ls, 0) := by
  have hc : cntF (ls.length : Int) 0 (ls.length : Int) = 0 := by
    unfold cntF
    split
    · rw [wo_in ⟨by omega, by omega⟩]; rfl
    · rfl
  unfold foldR
  rw [if_pos ⟨by omega, by omega, by omega, by omega, by omega⟩, Int.zero_add, hc, if_pos ⟨rfl, allLen_of h, rfl⟩, if_pos rfl]

theorem rng_all (ls : List (List UInt8)) (hb : ls.length ≤ 1048576) : rngF 4 ls 0 (ls.length : Int) = [] := by
  refine List.eq_nil_of_length_eq_zero ?_
  rw [rng_len 4 ls _ _ hb]
  unfold cntF
  split
  · rw [wo_in ⟨by omega, by omega⟩]; rfl
  · rfl

end Go.Proofs.YtichffdkihifpaaDoor
