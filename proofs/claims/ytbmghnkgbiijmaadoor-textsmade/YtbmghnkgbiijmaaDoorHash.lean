/- What this text proves: texts.Text and the document's Text answer alike; the walks of texts.Hash and of the document's Hash over this program. -/
import Derived.Test.YtbmghnkgbiijmaaDoorRText
import Derived.Test.YtbmghnkgbiijmaaDoorCutsLaw
namespace Go.Proofs.YtbmghnkgbiijmaaDoor
open Go.RowKit

theorem texts_both (tag : Int) (ls : List (List UInt8)) (hn : ls.length ≤ 10) : ∃ (er : Int) (L : List UInt8), L.length ≤ 1000000 ∧
    (∀ v w, PA w v ls → Calls Tryd.prog 19 #[.int .i64 tag, v] w fun e w' => ∃ p c, e = .returned (.tuple #[.slice p L.length c, .int .i64 er]) ∧ HB w' (.slice p L.length c) L ∧ Below w.heap.size w w') ∧
    (∀ v w, PA w v ls → Calls Tryd.prog 20 #[.int .i64 tag, v] w fun e w' => ∃ p c, e = .returned (.tuple #[.slice p L.length c, .int .i64 er]) ∧ HB w' (.slice p L.length c) L ∧ Below w.heap.size w w') := by
  by_cases ht : 0 ≤ tag ∧ tag ≤ 255
  · by_cases hf : fits ls
    · have hle := body_le ls hf
      refine ⟨0, UInt8.ofNat tag.toNat :: body ls, by simp; omega, fun v w h => ?_, fun v w h => ?_⟩
      · refine (text_ok tag v ls w ht.1 ht.2 h (by omega) hf).mono fun e w' ⟨v', he, ho, hb⟩ => ?_
        have hh := HB.of_owns ho
        obtain ⟨p, c, hv⟩ := hh.shape
        subst hv
        exact ⟨p, c, he, hh, hb⟩
      · refine (rtext_in tag v ls w ht.1 ht.2 h (by omega)).mono fun e w' ⟨h1, _, hb⟩ => ?_
        obtain ⟨v', he, ho⟩ := h1 hf
        have hh := HB.of_owns ho
        obtain ⟨p, c, hv⟩ := hh.shape
        subst hv
        exact ⟨p, c, he, hh, hb⟩
    · refine ⟨4, [], by simp, fun v w h => ?_, fun v w h => ?_⟩
      · exact (text_full tag v ls w ht.1 ht.2 h (by omega) hf).mono fun e w' ⟨he, hw⟩ => ⟨none, 0, he, HB.nil _, by subst hw; exact Below.refl _ _⟩
      · exact (rtext_in tag v ls w ht.1 ht.2 h (by omega)).mono fun e w' ⟨_, h2, hb⟩ => ⟨none, 0, h2 hf, HB.nil _, hb⟩
  · refine ⟨1, [], by simp, fun v w h => ?_, fun v w h => ?_⟩
    · obtain ⟨p, c, e⟩ := h.shape
      exact (text_arg tag v w p _ c e (by omega)).mono fun e w' ⟨he, hw⟩ => ⟨none, 0, he, HB.nil _, by subst hw; exact Below.refl _ _⟩
    · obtain ⟨p, c, e⟩ := h.shape
      exact (rtext_arg tag v w p _ c e (by omega)).mono fun e w' ⟨he, hw⟩ => ⟨none, 0, he, HB.nil _, by subst hw; exact Below.refl _ _⟩

/-- The bytes of a digest. -/
def hashL (size er : Int) (D : List UInt8) : List UInt8 := if er = 0 then D.take (cutLen size) else []

set_option maxHeartbeats 1000000 in
theorem hash_any (size tag er : Int) (v : Value) (L D : List UInt8) (w : World) (hv : ∃ p n c, v = .slice p n c) (hD : D.length = 32)
    (ht : Calls Tryd.prog 19 #[.int .i64 tag, v] w fun e w' => ∃ p c, e = .returned (.tuple #[.slice p L.length c, .int .i64 er]) ∧ HB w' (.slice p L.length c) L ∧ Below w.heap.size w w')
    (hs : ∀ v w', HB w' v L → Below w.heap.size w w' → Calls Tryd.prog 10 #[v] w' fun e w'' => ∃ v', e = .returned v' ∧ w''.ownsRow w'.heap.size 5 1 v' 32 (bcs D) ∧ Below w'.heap.size w' w'') :
    Calls Tryd.prog 21 #[.int .i64 size, .int .i64 tag, v] w fun e w' => ∃ p c, e = .returned (.slice p (hashL size er D).length c) ∧ HB w' (.slice p (hashL size er D).length c) (hashL size er D) ∧ Below w.heap.size w w' := by
  obtain ⟨p, n, c, rfl⟩ := hv
  have HT : Hid (Calls Tryd.prog 19 #[.int .i64 tag, .slice p n c] w fun e w' => ∃ p c, e = .returned (.tuple #[.slice p L.length c, .int .i64 er]) ∧ HB w' (.slice p L.length c) L ∧ Below w.heap.size w w') := ht
  have HS : Hid _ := hs
  have HD : Hid (D.length = 32) := hD
  clear ht hs hD
  by_cases h0 : er = 0
  · subst h0
    have hl : hashL size 0 D = D.take (cutLen size) := by simp [hashL]
    rw [hl]
    clear hl
    have HL : Hid ((D.take (cutLen size)).length = cutLen size) := by
      have := cutLen_le size
      show _ = _
      rw [List.length_take, HD.out]
      omega
    go_enter Tryd.func21, Tryd.ntmps21
    go_wp2_with fail
    refine HT.out.mono ?_
    rintro e w1 ⟨p1, c1, rfl, h1, hb1⟩
    go_wp2_with fail
    refine (cut_any _ _ _ _ HD.out (HS.out _ _ h1 hb1)).mono ?_
    rintro e w2 ⟨p2, c2, rfl, h2, hb2⟩
    have HH : Hid (HB w2 (.slice p2 (cutLen size) c2) (D.take (cutLen size))) := h2
    clear h1 h2 HT HS
    go_wp2
    go_ret
    refine ⟨p2, c2, ?_, ?_, hb1.trans (hb2.mono hb1.size)⟩
    · rw [HL.out]; rfl
    · rw [HL.out]; exact HH.out
  · have hl : hashL size er D = [] := by simp [hashL, h0]
    rw [hl]
    clear hl HS HD
    go_enter Tryd.func21, Tryd.ntmps21
    go_wp2_with fail
    refine HT.out.mono ?_
    rintro e w1 ⟨p1, c1, rfl, h1, hb1⟩
    clear HT h1
    go_wp2
    go_ret
    exact ⟨none, 0, rfl, HB.nil _, hb1⟩

set_option maxHeartbeats 1000000 in
theorem rhash_any (size tag er : Int) (v : Value) (L D : List UInt8) (w : World) (hv : ∃ p n c, v = .slice p n c) (hD : D.length = 32)
    (ht : Calls Tryd.prog 20 #[.int .i64 tag, v] w fun e w' => ∃ p c, e = .returned (.tuple #[.slice p L.length c, .int .i64 er]) ∧ HB w' (.slice p L.length c) L ∧ Below w.heap.size w w')
    (hs : ∀ v w', HB w' v L → Below w.heap.size w w' → Calls Tryd.prog 11 #[v] w' fun e w'' => ∃ v', e = .returned v' ∧ w''.ownsRow w'.heap.size 5 1 v' 32 (bcs D) ∧ Below w'.heap.size w' w'') :
    Calls Tryd.prog 22 #[.int .i64 size, .int .i64 tag, v] w fun e w' => ∃ p c, e = .returned (.slice p (hashL size er D).length c) ∧ HB w' (.slice p (hashL size er D).length c) (hashL size er D) ∧ Below w.heap.size w w' := by
  obtain ⟨p, n, c, rfl⟩ := hv
  have HT : Hid (Calls Tryd.prog 20 #[.int .i64 tag, .slice p n c] w fun e w' => ∃ p c, e = .returned (.tuple #[.slice p L.length c, .int .i64 er]) ∧ HB w' (.slice p L.length c) L ∧ Below w.heap.size w w') := ht
  have HS : Hid _ := hs
  have HD : Hid (D.length = 32) := hD
  clear ht hs hD
  by_cases h0 : er = 0
  · subst h0
    have hl : hashL size 0 D = D.take (cutLen size) := by simp [hashL]
    rw [hl]
    clear hl
    have HL : Hid ((D.take (cutLen size)).length = cutLen size) := by
      have := cutLen_le size
      show _ = _
      rw [List.length_take, HD.out]
      omega
    go_enter Tryd.func22, Tryd.ntmps22
    go_wp2_with fail
    refine HT.out.mono ?_
    rintro e w1 ⟨p1, c1, rfl, h1, hb1⟩
    go_wp2_with fail
    refine (rcut_any _ _ _ _ HD.out (HS.out _ _ h1 hb1)).mono ?_
    rintro e w2 ⟨p2, c2, rfl, h2, hb2⟩
    have HH : Hid (HB w2 (.slice p2 (cutLen size) c2) (D.take (cutLen size))) := h2
    clear h1 h2 HT HS
    go_wp2
    go_ret
    refine ⟨p2, c2, ?_, ?_, hb1.trans (hb2.mono hb1.size)⟩
    · rw [HL.out]; rfl
    · rw [HL.out]; exact HH.out
  · have hl : hashL size er D = [] := by simp [hashL, h0]
    rw [hl]
    clear hl HS HD
    go_enter Tryd.func22, Tryd.ntmps22
    go_wp2_with fail
    refine HT.out.mono ?_
    rintro e w1 ⟨p1, c1, rfl, h1, hb1⟩
    clear HT h1
    go_wp2
    go_ret
    exact ⟨none, 0, rfl, HB.nil _, hb1⟩

end Go.Proofs.YtbmghnkgbiijmaaDoor
