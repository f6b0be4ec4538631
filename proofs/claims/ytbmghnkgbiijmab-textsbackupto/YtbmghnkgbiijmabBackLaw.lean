/- What this text proves: the walk of the statement TextsBack over this program: it answers true for any tag, any parts and any bytes (no more than 1048576 of these), and writes nothing that was there. -/
import Derived.Test.YtbmghnkgbiijmabFew
import Derived.Test.YtbmghnkgbiijmabSplit
import Derived.Test.YtbmghnkgbiijmabAwake
namespace Go.Proofs.Ytbmghnkgbiijmab
open Go.RowKit

theorem split_body (t : UInt8) (ls : List (List UInt8)) (h : fits ls) : splitF (t :: body ls) = some (t, ls) := by
  simp [splitF, parts_body ls h]

theorem parts_count : ∀ (n : Nat) (l : List UInt8) (ls : List (List UInt8)), l.length ≤ n → parts l = some ls → ls.length ≤ l.length := by
  intro n l ls hn h
  obtain ⟨e, _⟩ := parts_back n l ls hn h
  have : ∀ ls : List (List UInt8), ls.length ≤ (body ls).length := by
    intro ls
    induction ls with
    | nil => simp [body]
    | cons p r ih =>
      have e : body (p :: r) = part p ++ body r := by simp [body]
      rw [e, List.length_append, part_length, List.length_cons]
      omega
  have h2 := this ls
  rw [e] at h2
  exact h2

theorem split_back {l : List UInt8} {t : UInt8} {ps : List (List UInt8)} (h : splitF l = some (t, ps)) : ps.length ≤ l.length ∧ UInt8.ofNat (t.toNat : Int).toNat :: body ps = l ∧ fits ps := by
  cases l with
  | nil => cases h
  | cons a r =>
    simp only [splitF, Option.map_eq_some_iff, Prod.mk.injEq] at h
    obtain ⟨qs, hq, rfl, rfl⟩ := h
    obtain ⟨e1, e2⟩ := parts_back _ r qs (Nat.le_refl _) hq
    refine ⟨?_, ?_, e2⟩
    · have := parts_count _ r qs (Nat.le_refl _) hq
      simp
      omega
    · rw [e1]
      simp

theorem split_err (v : Value) (l : List UInt8) (w : World) (h : HB w v l) (hsz : l.length ≤ 1048576) (hn : splitF l = none) :
    Calls Try.prog 7 #[v] w fun e w' => e = .returned (.tuple #[.int .i64 0, .slice none 0 0, .int .i64 3]) ∧ Below w.heap.size w w' := (split_any v l w h (by omega)).mono fun _ _ s => s.err hn
theorem split_fine (v : Value) (l : List UInt8) (w : World) (h : HB w v l) (hsz : l.length ≤ 1048576) {t : UInt8} {ps : List (List UInt8)} (hs : splitF l = some (t, ps)) :
    Calls Try.prog 7 #[v] w fun e w' => ∃ p n c, e = .returned (.tuple #[.int .i64 (t.toNat : Int), .slice p n c, .int .i64 0]) ∧ PA w' (.slice p n c) ps ∧ Below w.heap.size w w' := (split_any v l w h (by omega)).mono fun _ _ s => by
  obtain ⟨p, c, q⟩ := s.fine hs
  exact ⟨p, _, c, q⟩

set_option maxHeartbeats 2000000 in
theorem back_bb (tag : Int) (v u : Value) (ls : List (List UInt8)) (l : List UInt8) (w : World) (h : PA w v ls) (k : HB w u l) (hsz : l.length ≤ 1048576) (ha : ¬ texty tag (ls.take 10)) (hs : splitF l = none) :
    Calls Try.prog 3 #[.int .i64 tag, v, u] w fun e w' => e = .returned (.bool true) ∧ Below w.heap.size w w' := by
  obtain ⟨p, c, rfl⟩ := h.shape
  obtain ⟨q, d, rfl⟩ := k.shape
  have hl : (ls.take 10).length ≤ 1048576 := by simp; omega
  have hl10 : (ls.take 10).length ≤ 10 := by simp; omega
  have HA : Hid (¬ texty tag (ls.take 10)) := ha
  have HS : Hid (splitF l = none) := hs
  clear ha hs
  go_enter Try.func3, Try.ntmps3
  go_wp2_with fail
  refine (few_any _ ls _ h).mono ?_
  rintro e w1 ⟨p1, n1, c1, rfl, hp1, hw1⟩
  subst hw1
  go_wp2_with fail
  refine (text_bad tag _ (ls.take 10) _ hp1 hl HA.out).mono ?_
  rintro e w3 ⟨er, rfl, _, her, hb03⟩
  go_wp2_with fail
  refine (split_err _ l _ (k.later hb03) hsz HS.out).mono ?_
  rintro e w6 ⟨rfl, hb6⟩
  have hb06 := hb03.trans (hb6.mono hb03.size)
  go_wp2_with fail
  refine (awake_any _).mono ?_
  rintro e w7 ⟨rfl, hb7⟩
  have hb07 := hb06.trans (hb7.mono hb06.size)
  go_wp2
  go_ret
  exact ⟨rfl, hb07⟩

set_option maxHeartbeats 2000000 in
theorem back_bg (tag : Int) (v u : Value) (ls : List (List UInt8)) (l : List UInt8) (w : World) (h : PA w v ls) (k : HB w u l) (hsz : l.length ≤ 1048576) (ha : ¬ texty tag (ls.take 10)) (t : UInt8) (ps : List (List UInt8)) (hs : splitF l = some (t, ps)) :
    Calls Try.prog 3 #[.int .i64 tag, v, u] w fun e w' => e = .returned (.bool true) ∧ Below w.heap.size w w' := by
  obtain ⟨p, c, rfl⟩ := h.shape
  obtain ⟨q, d, rfl⟩ := k.shape
  have hl : (ls.take 10).length ≤ 1048576 := by simp; omega
  have hl10 : (ls.take 10).length ≤ 10 := by simp; omega
  have HA : Hid (¬ texty tag (ls.take 10)) := ha
  have HS : Hid (splitF l = some (t, ps)) := hs
  obtain ⟨hpl, hE, hF⟩ := split_back hs
  have HE : Hid (UInt8.ofNat (t.toNat : Int).toNat :: body ps = l) := hE
  have HT : Hid (texty (t.toNat : Int) ps) := ⟨⟨by omega, by have := t.toNat_lt; omega⟩, hF⟩
  replace hpl : ps.length ≤ 1048576 := by omega
  clear hE hF
  clear ha hs
  go_enter Try.func3, Try.ntmps3
  go_wp2_with fail
  refine (few_any _ ls _ h).mono ?_
  rintro e w1 ⟨p1, n1, c1, rfl, hp1, hw1⟩
  subst hw1
  go_wp2_with fail
  refine (text_bad tag _ (ls.take 10) _ hp1 hl HA.out).mono ?_
  rintro e w3 ⟨er, rfl, _, her, hb03⟩
  go_wp2_with fail
  refine (split_fine _ l _ (k.later hb03) hsz HS.out).mono ?_
  rintro e w4 ⟨p4, n4, c4, rfl, hp4, hb4⟩
  have hb04 := hb03.trans (hb4.mono hb03.size)
  go_wp2_with fail
  refine (text_good _ _ ps _ hp4 hpl HT.out).mono ?_
  rintro e w6 ⟨p6, n6, c6, rfl, hh6, hb6⟩
  have hb06 := hb04.trans (hb6.mono hb04.size)
  go_wp2_with fail
  refine (equal_t _ _ _ l _ hh6 (k.later hb06) HE.out).mono ?_
  rintro e w6' ⟨rfl, hw6⟩
  subst hw6
  go_wp2_with fail
  refine (awake_any _).mono ?_
  rintro e w7 ⟨rfl, hb7⟩
  have hb07 := hb06.trans (hb7.mono hb06.size)
  go_wp2
  go_ret
  exact ⟨rfl, hb07⟩

set_option maxHeartbeats 2000000 in
theorem back_gb (tag : Int) (v u : Value) (ls : List (List UInt8)) (l : List UInt8) (w : World) (h : PA w v ls) (k : HB w u l) (hsz : l.length ≤ 1048576) (ha : texty tag (ls.take 10)) (hs : splitF l = none) :
    Calls Try.prog 3 #[.int .i64 tag, v, u] w fun e w' => e = .returned (.bool true) ∧ Below w.heap.size w w' := by
  obtain ⟨p, c, rfl⟩ := h.shape
  obtain ⟨q, d, rfl⟩ := k.shape
  have hl : (ls.take 10).length ≤ 1048576 := by simp; omega
  have hl10 : (ls.take 10).length ≤ 10 := by simp; omega
  have HA : Hid (texty tag (ls.take 10)) := ha
  have hbl := body_le _ ha.2
  have HX : Hid (splitF (UInt8.ofNat tag.toNat :: body (ls.take 10)) = some (UInt8.ofNat tag.toNat, ls.take 10)) := split_body _ _ ha.2
  have hxl : (UInt8.ofNat tag.toNat :: body (ls.take 10)).length ≤ 1048576 := by simp only [List.length_cons]; omega
  have ht1 := ha.1.1
  have ht2 := ha.1.2
  have hq4 : (max tag 0 % 256 != tag) = false := by simp; omega
  have HS : Hid (splitF l = none) := hs
  clear ha hs
  go_enter Try.func3, Try.ntmps3
  go_wp2_with fail
  refine (few_any _ ls _ h).mono ?_
  rintro e w1 ⟨p1, n1, c1, rfl, hp1, hw1⟩
  subst hw1
  go_wp2_with fail
  refine (text_good tag _ (ls.take 10) _ hp1 hl HA.out).mono ?_
  rintro e w2 ⟨p2, n2, c2, rfl, hh2, hb2⟩
  go_wp2_with fail
  refine (split_fine _ _ _ hh2 hxl HX.out).mono ?_
  rintro e w3 ⟨p3, n3, c3, rfl, hp3, hb3⟩
  have hb03 := hb2.trans (hb3.mono hb2.size)
  go_wp2_with fail
  refine (same_t _ _ (ls.take 10) (ls.take 10) _ (hp1.later hb03) hp3 rfl).mono ?_
  rintro e w3' ⟨rfl, hw3⟩
  subst hw3
  go_wp2_with fail
  refine (split_err _ l _ (k.later hb03) hsz HS.out).mono ?_
  rintro e w6 ⟨rfl, hb6⟩
  have hb06 := hb03.trans (hb6.mono hb03.size)
  go_wp2_with fail
  refine (awake_any _).mono ?_
  rintro e w7 ⟨rfl, hb7⟩
  have hb07 := hb06.trans (hb7.mono hb06.size)
  go_wp2
  go_ret
  exact ⟨rfl, hb07⟩

set_option maxHeartbeats 2000000 in
theorem back_gg (tag : Int) (v u : Value) (ls : List (List UInt8)) (l : List UInt8) (w : World) (h : PA w v ls) (k : HB w u l) (hsz : l.length ≤ 1048576) (ha : texty tag (ls.take 10)) (t : UInt8) (ps : List (List UInt8)) (hs : splitF l = some (t, ps)) :
    Calls Try.prog 3 #[.int .i64 tag, v, u] w fun e w' => e = .returned (.bool true) ∧ Below w.heap.size w w' := by
  obtain ⟨p, c, rfl⟩ := h.shape
  obtain ⟨q, d, rfl⟩ := k.shape
  have hl : (ls.take 10).length ≤ 1048576 := by simp; omega
  have hl10 : (ls.take 10).length ≤ 10 := by simp; omega
  have HA : Hid (texty tag (ls.take 10)) := ha
  have hbl := body_le _ ha.2
  have HX : Hid (splitF (UInt8.ofNat tag.toNat :: body (ls.take 10)) = some (UInt8.ofNat tag.toNat, ls.take 10)) := split_body _ _ ha.2
  have hxl : (UInt8.ofNat tag.toNat :: body (ls.take 10)).length ≤ 1048576 := by simp only [List.length_cons]; omega
  have ht1 := ha.1.1
  have ht2 := ha.1.2
  have hq4 : (max tag 0 % 256 != tag) = false := by simp; omega
  have HS : Hid (splitF l = some (t, ps)) := hs
  obtain ⟨hpl, hE, hF⟩ := split_back hs
  have HE : Hid (UInt8.ofNat (t.toNat : Int).toNat :: body ps = l) := hE
  have HT : Hid (texty (t.toNat : Int) ps) := ⟨⟨by omega, by have := t.toNat_lt; omega⟩, hF⟩
  replace hpl : ps.length ≤ 1048576 := by omega
  clear hE hF
  clear ha hs
  go_enter Try.func3, Try.ntmps3
  go_wp2_with fail
  refine (few_any _ ls _ h).mono ?_
  rintro e w1 ⟨p1, n1, c1, rfl, hp1, hw1⟩
  subst hw1
  go_wp2_with fail
  refine (text_good tag _ (ls.take 10) _ hp1 hl HA.out).mono ?_
  rintro e w2 ⟨p2, n2, c2, rfl, hh2, hb2⟩
  go_wp2_with fail
  refine (split_fine _ _ _ hh2 hxl HX.out).mono ?_
  rintro e w3 ⟨p3, n3, c3, rfl, hp3, hb3⟩
  have hb03 := hb2.trans (hb3.mono hb2.size)
  go_wp2_with fail
  refine (same_t _ _ (ls.take 10) (ls.take 10) _ (hp1.later hb03) hp3 rfl).mono ?_
  rintro e w3' ⟨rfl, hw3⟩
  subst hw3
  go_wp2_with fail
  refine (split_fine _ l _ (k.later hb03) hsz HS.out).mono ?_
  rintro e w4 ⟨p4, n4, c4, rfl, hp4, hb4⟩
  have hb04 := hb03.trans (hb4.mono hb03.size)
  go_wp2_with fail
  refine (text_good _ _ ps _ hp4 hpl HT.out).mono ?_
  rintro e w6 ⟨p6, n6, c6, rfl, hh6, hb6⟩
  have hb06 := hb04.trans (hb6.mono hb04.size)
  go_wp2_with fail
  refine (equal_t _ _ _ l _ hh6 (k.later hb06) HE.out).mono ?_
  rintro e w6' ⟨rfl, hw6⟩
  subst hw6
  go_wp2_with fail
  refine (awake_any _).mono ?_
  rintro e w7 ⟨rfl, hb7⟩
  have hb07 := hb06.trans (hb7.mono hb06.size)
  go_wp2
  go_ret
  exact ⟨rfl, hb07⟩

theorem backWalk (tag : Int) (v u : Value) (ls : List (List UInt8)) (l : List UInt8) (w : World) (h : PA w v ls) (k : HB w u l) (hsz : l.length ≤ 1048576) :
    Calls Try.prog 3 #[.int .i64 tag, v, u] w fun e w' => e = .returned (.bool true) ∧ Below w.heap.size w w' := by
  by_cases ha : texty tag (ls.take 10)
  · match hs : splitF l with
    | none => exact back_gb tag v u ls l w h k hsz ha hs
    | some (t, ps) => exact back_gg tag v u ls l w h k hsz ha t ps hs
  · match hs : splitF l with
    | none => exact back_bb tag v u ls l w h k hsz ha hs
    | some (t, ps) => exact back_bg tag v u ls l w h k hsz ha t ps hs

end Go.Proofs.Ytbmghnkgbiijmab
