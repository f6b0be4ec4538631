/- What this text proves: the walk of the statement TextsApart over this program: it answers true for any two tags and lists of parts, and writes nothing that was there. -/
import Derived.Test.YtbmghnkgbiijmabFew
import Derived.Test.YtbmghnkgbiijmabAwake
namespace Go.Proofs.Ytbmghnkgbiijmab
open Go.RowKit

theorem tag_eq {a b : Int} (ha : 0 ≤ a ∧ a ≤ 255) (hb : 0 ≤ b ∧ b ≤ 255) (h : UInt8.ofNat a.toNat = UInt8.ofNat b.toNat) : a = b := by
  have h1 := congrArg UInt8.toNat h
  simp at h1
  omega

set_option maxHeartbeats 2000000 in
theorem apart_bad (tag other : Int) (v u : Value) (ls ms : List (List UInt8)) (w : World) (h : PA w v ls) (k : PA w u ms) (hb : ¬ texty tag (ls.take 10)) :
    Calls Try.prog 4 #[.int .i64 tag, .int .i64 other, v, u] w fun e w' => e = .returned (.bool true) ∧ Below w.heap.size w w' := by
  obtain ⟨p, c, rfl⟩ := h.shape
  obtain ⟨q, d, rfl⟩ := k.shape
  have hl : (ls.take 10).length ≤ 1048576 := by simp; omega
  have hm : (ms.take 10).length ≤ 1048576 := by simp; omega
  have HB : Hid (¬ texty tag (ls.take 10)) := hb
  clear hb
  go_enter Try.func4, Try.ntmps4
  go_wp2_with fail
  refine (few_any _ ls _ h).mono ?_
  rintro e w1 ⟨p1, n1, c1, rfl, hp1, hw1⟩
  subst hw1
  go_wp2_with fail
  refine (few_any _ ms _ k).mono ?_
  rintro e w2 ⟨p2, n2, c2, rfl, hp2, hw2⟩
  subst hw2
  go_wp2_with fail
  refine (text_bad tag _ (ls.take 10) _ hp1 hl HB.out).mono ?_
  rintro e w3 ⟨er, rfl, her, _, hb3⟩
  go_wp2_with fail
  refine (text_gen other _ (ms.take 10) _ (hp2.later hb3) hm).mono ?_
  rintro e w4 ⟨p4, n4, c4, er4, rfl, hb4⟩
  have hb04 := hb3.trans (hb4.mono hb3.size)
  go_wp2_with fail
  refine (awake_any _).mono ?_
  rintro e w5 ⟨rfl, hb5⟩
  have hb05 := hb04.trans (hb5.mono hb04.size)
  go_wp2
  go_ret
  exact ⟨rfl, hb05⟩

set_option maxHeartbeats 2000000 in
theorem apart_half (tag other : Int) (v u : Value) (ls ms : List (List UInt8)) (w : World) (h : PA w v ls) (k : PA w u ms) (ha : texty tag (ls.take 10)) (hb : ¬ texty other (ms.take 10)) :
    Calls Try.prog 4 #[.int .i64 tag, .int .i64 other, v, u] w fun e w' => e = .returned (.bool true) ∧ Below w.heap.size w w' := by
  obtain ⟨p, c, rfl⟩ := h.shape
  obtain ⟨q, d, rfl⟩ := k.shape
  have hl : (ls.take 10).length ≤ 1048576 := by simp; omega
  have hm : (ms.take 10).length ≤ 1048576 := by simp; omega
  have HA : Hid (texty tag (ls.take 10)) := ha
  have HB : Hid (¬ texty other (ms.take 10)) := hb
  clear ha hb
  go_enter Try.func4, Try.ntmps4
  go_wp2_with fail
  refine (few_any _ ls _ h).mono ?_
  rintro e w1 ⟨p1, n1, c1, rfl, hp1, hw1⟩
  subst hw1
  go_wp2_with fail
  refine (few_any _ ms _ k).mono ?_
  rintro e w2 ⟨p2, n2, c2, rfl, hp2, hw2⟩
  subst hw2
  go_wp2_with fail
  refine (text_good tag _ (ls.take 10) _ hp1 hl HA.out).mono ?_
  rintro e w3 ⟨p3, n3, c3, rfl, _, hb3⟩
  go_wp2_with fail
  refine (text_bad other _ (ms.take 10) _ (hp2.later hb3) hm HB.out).mono ?_
  rintro e w4 ⟨er4, rfl, her4, _, hb4⟩
  have hb04 := hb3.trans (hb4.mono hb3.size)
  go_wp2_with fail
  refine (awake_any _).mono ?_
  rintro e w5 ⟨rfl, hb5⟩
  have hb05 := hb04.trans (hb5.mono hb04.size)
  go_wp2
  go_ret
  exact ⟨rfl, hb05⟩

set_option maxHeartbeats 2000000 in
theorem apart_tags (tag other : Int) (v u : Value) (ls ms : List (List UInt8)) (w : World) (h : PA w v ls) (k : PA w u ms) (ha : texty tag (ls.take 10)) (hb : texty other (ms.take 10)) (hne : tag ≠ other) :
    Calls Try.prog 4 #[.int .i64 tag, .int .i64 other, v, u] w fun e w' => e = .returned (.bool true) ∧ Below w.heap.size w w' := by
  obtain ⟨p, c, rfl⟩ := h.shape
  obtain ⟨q, d, rfl⟩ := k.shape
  have hl : (ls.take 10).length ≤ 1048576 := by simp; omega
  have hm : (ms.take 10).length ≤ 1048576 := by simp; omega
  have HA : Hid (texty tag (ls.take 10)) := ha
  have HB : Hid (texty other (ms.take 10)) := hb
  have HN : Hid (UInt8.ofNat tag.toNat :: body (ls.take 10) ≠ UInt8.ofNat other.toNat :: body (ms.take 10)) := by
    intro e
    simp only [List.cons.injEq] at e
    exact hne (tag_eq ha.1 hb.1 e.1)
  have hq : (tag == other) = false := by simpa using hne
  clear ha hb hne
  go_enter Try.func4, Try.ntmps4
  go_wp2_with fail
  refine (few_any _ ls _ h).mono ?_
  rintro e w1 ⟨p1, n1, c1, rfl, hp1, hw1⟩
  subst hw1
  go_wp2_with fail
  refine (few_any _ ms _ k).mono ?_
  rintro e w2 ⟨p2, n2, c2, rfl, hp2, hw2⟩
  subst hw2
  go_wp2_with fail
  refine (text_good tag _ (ls.take 10) _ hp1 hl HA.out).mono ?_
  rintro e w3 ⟨p3, n3, c3, rfl, hh3, hb3⟩
  go_wp2_with fail
  refine (text_good other _ (ms.take 10) _ (hp2.later hb3) hm HB.out).mono ?_
  rintro e w4 ⟨p4, n4, c4, rfl, hh4, hb4⟩
  have hb04 := hb3.trans (hb4.mono hb3.size)
  have hh34 := hh3.later hb4
  go_wp2_with fail
  refine (equal_f _ _ _ _ _ hh34 hh4 HN.out).mono ?_
  rintro e w5 ⟨rfl, hw5⟩
  subst hw5
  go_wp2_with fail
  refine (awake_any _).mono ?_
  rintro e w6 ⟨rfl, hb6⟩
  have hb06 := hb04.trans (hb6.mono hb04.size)
  go_wp2
  go_ret
  exact ⟨rfl, hb06⟩

set_option maxHeartbeats 2000000 in
theorem apart_parts (tag : Int) (v u : Value) (ls ms : List (List UInt8)) (w : World) (h : PA w v ls) (k : PA w u ms) (ha : texty tag (ls.take 10)) (hb : texty tag (ms.take 10)) (hne : ls.take 10 ≠ ms.take 10) :
    Calls Try.prog 4 #[.int .i64 tag, .int .i64 tag, v, u] w fun e w' => e = .returned (.bool true) ∧ Below w.heap.size w w' := by
  obtain ⟨p, c, rfl⟩ := h.shape
  obtain ⟨q, d, rfl⟩ := k.shape
  have hl : (ls.take 10).length ≤ 1048576 := by simp; omega
  have hm : (ms.take 10).length ≤ 1048576 := by simp; omega
  have HA : Hid (texty tag (ls.take 10)) := ha
  have HB : Hid (texty tag (ms.take 10)) := hb
  have HN : Hid (UInt8.ofNat tag.toNat :: body (ls.take 10) ≠ UInt8.ofNat tag.toNat :: body (ms.take 10)) := by
    intro e
    simp only [List.cons.injEq, true_and] at e
    exact hne (body_inj _ _ ha.2 hb.2 e)
  have HM : Hid (ls.take 10 ≠ ms.take 10) := hne
  clear ha hb hne
  go_enter Try.func4, Try.ntmps4
  go_wp2_with fail
  refine (few_any _ ls _ h).mono ?_
  rintro e w1 ⟨p1, n1, c1, rfl, hp1, hw1⟩
  subst hw1
  go_wp2_with fail
  refine (few_any _ ms _ k).mono ?_
  rintro e w2 ⟨p2, n2, c2, rfl, hp2, hw2⟩
  subst hw2
  go_wp2_with fail
  refine (text_good tag _ (ls.take 10) _ hp1 hl HA.out).mono ?_
  rintro e w3 ⟨p3, n3, c3, rfl, hh3, hb3⟩
  go_wp2_with fail
  refine (text_good tag _ (ms.take 10) _ (hp2.later hb3) hm HB.out).mono ?_
  rintro e w4 ⟨p4, n4, c4, rfl, hh4, hb4⟩
  have hb04 := hb3.trans (hb4.mono hb3.size)
  have hh34 := hh3.later hb4
  go_wp2_with fail
  refine (equal_f _ _ _ _ _ hh34 hh4 HN.out).mono ?_
  rintro e w5 ⟨rfl, hw5⟩
  subst hw5
  go_wp2_with fail
  refine (same_f _ _ (ls.take 10) (ms.take 10) _ (hp1.later hb04) (hp2.later hb04) HM.out).mono ?_
  rintro e w5 ⟨rfl, hw5⟩
  subst hw5
  go_wp2_with fail
  refine (awake_any _).mono ?_
  rintro e w6 ⟨rfl, hb6⟩
  have hb06 := hb04.trans (hb6.mono hb04.size)
  go_wp2
  go_ret
  exact ⟨rfl, hb06⟩

set_option maxHeartbeats 2000000 in
theorem apart_same (tag : Int) (v u : Value) (ls ms : List (List UInt8)) (w : World) (h : PA w v ls) (k : PA w u ms) (ha : texty tag (ls.take 10)) (hb : texty tag (ms.take 10)) (he : ls.take 10 = ms.take 10) :
    Calls Try.prog 4 #[.int .i64 tag, .int .i64 tag, v, u] w fun e w' => e = .returned (.bool true) ∧ Below w.heap.size w w' := by
  obtain ⟨p, c, rfl⟩ := h.shape
  obtain ⟨q, d, rfl⟩ := k.shape
  have hl : (ls.take 10).length ≤ 1048576 := by simp; omega
  have hm : (ms.take 10).length ≤ 1048576 := by simp; omega
  have HA : Hid (texty tag (ls.take 10)) := ha
  have HB : Hid (texty tag (ms.take 10)) := hb
  have HN : Hid (UInt8.ofNat tag.toNat :: body (ls.take 10) = UInt8.ofNat tag.toNat :: body (ms.take 10)) := by
    show UInt8.ofNat tag.toNat :: body (ls.take 10) = UInt8.ofNat tag.toNat :: body (ms.take 10)
    rw [he]
  have HM : Hid (ls.take 10 = ms.take 10) := he
  clear ha hb he
  go_enter Try.func4, Try.ntmps4
  go_wp2_with fail
  refine (few_any _ ls _ h).mono ?_
  rintro e w1 ⟨p1, n1, c1, rfl, hp1, hw1⟩
  subst hw1
  go_wp2_with fail
  refine (few_any _ ms _ k).mono ?_
  rintro e w2 ⟨p2, n2, c2, rfl, hp2, hw2⟩
  subst hw2
  go_wp2_with fail
  refine (text_good tag _ (ls.take 10) _ hp1 hl HA.out).mono ?_
  rintro e w3 ⟨p3, n3, c3, rfl, hh3, hb3⟩
  go_wp2_with fail
  refine (text_good tag _ (ms.take 10) _ (hp2.later hb3) hm HB.out).mono ?_
  rintro e w4 ⟨p4, n4, c4, rfl, hh4, hb4⟩
  have hb04 := hb3.trans (hb4.mono hb3.size)
  have hh34 := hh3.later hb4
  go_wp2_with fail
  refine (equal_t _ _ _ _ _ hh34 hh4 HN.out).mono ?_
  rintro e w5 ⟨rfl, hw5⟩
  subst hw5
  go_wp2_with fail
  refine (same_t _ _ (ls.take 10) (ms.take 10) _ (hp1.later hb04) (hp2.later hb04) HM.out).mono ?_
  rintro e w5 ⟨rfl, hw5⟩
  subst hw5
  go_wp2_with fail
  refine (awake_any _).mono ?_
  rintro e w6 ⟨rfl, hb6⟩
  have hb06 := hb04.trans (hb6.mono hb04.size)
  go_wp2
  go_ret
  exact ⟨rfl, hb06⟩

theorem walk (tag other : Int) (v u : Value) (ls ms : List (List UInt8)) (w : World) (h : PA w v ls) (k : PA w u ms) :
    Calls Try.prog 4 #[.int .i64 tag, .int .i64 other, v, u] w fun e w' => e = .returned (.bool true) ∧ Below w.heap.size w w' := by
  by_cases ha : texty tag (ls.take 10)
  · by_cases hb : texty other (ms.take 10)
    · by_cases ht : tag = other
      · subst ht
        by_cases he : ls.take 10 = ms.take 10
        · exact apart_same tag v u ls ms w h k ha hb he
        · exact apart_parts tag v u ls ms w h k ha hb he
      · exact apart_tags tag other v u ls ms w h k ha hb ht
    · exact apart_half tag other v u ls ms w h k ha hb
  · exact apart_bad tag other v u ls ms w h k ha

end Go.Proofs.Ytbmghnkgbiijmab
