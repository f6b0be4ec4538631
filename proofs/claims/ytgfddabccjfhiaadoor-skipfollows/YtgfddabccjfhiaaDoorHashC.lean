/- What this text proves: the walk of texts.Hash over this program. -/
import Derived.Test.YtgfddabccjfhiaaDoorText
import Derived.Test.YtgfddabccjfhiaaDoorCutC
namespace Go.Proofs.YtgfddabccjfhiaaDoor
open Go.RowKit

/-- The bytes of a digest. -/
def hashL (size er : Int) (D : List UInt8) : List UInt8 := if er = 0 then D.take (cutLen size) else []

set_option maxRecDepth 100000 in
set_option maxHeartbeats 1000000 in
theorem hash_any (size tag er : Int) (v : Value) (L D : List UInt8) (w : World) (hv : ∃ p n c, v = .slice p n c) (hD : D.length = 32)
    (ht : Calls Tryd.prog 73 #[.int .i64 tag, v] w fun e w' => ∃ p c, e = .returned (.tuple #[.slice p L.length c, .int .i64 er]) ∧ HB w' (.slice p L.length c) L ∧ Below w.heap.size w w')
    (hs : ∀ v w', HB w' v L → Below w.heap.size w w' → Calls Tryd.prog 87 #[v] w' fun e w'' => ∃ v', e = .returned v' ∧ w''.ownsRow w'.heap.size 5 1 v' 32 (bcs D) ∧ Below w'.heap.size w' w'') :
    Calls Tryd.prog 49 #[.int .i64 size, .int .i64 tag, v] w fun e w' => ∃ p c, e = .returned (.slice p (hashL size er D).length c) ∧ HB w' (.slice p (hashL size er D).length c) (hashL size er D) ∧ Below w.heap.size w w' := by
  obtain ⟨p, n, c, rfl⟩ := hv
  have HT : Hid (Calls Tryd.prog 73 #[.int .i64 tag, .slice p n c] w fun e w' => ∃ p c, e = .returned (.tuple #[.slice p L.length c, .int .i64 er]) ∧ HB w' (.slice p L.length c) L ∧ Below w.heap.size w w') := ht
  have HS : Hid _ := hs
  have HD : Hid (D.length = 32) := hD
  clear ht hs hD
  by_cases h0 : er = 0
  · subst h0
    have hl : hashL size 0 D = D.take (cutLen size) := by simp [hashL]
    rw [hl]
    clear hl
    have HL : Hid ((D.take (cutLen size)).length = cutLen size) := by
      have := cutLen_le size
      show _ = _
      rw [List.length_take, HD.out]
      omega
    go_enter Tryd.func49, Tryd.ntmps49
    go_wp2_with fail
    refine HT.out.mono ?_
    rintro e w1 ⟨p1, c1, rfl, h1, hb1⟩
    go_wp2_with fail
    refine (cut_any _ _ _ _ HD.out (HS.out _ _ h1 hb1)).mono ?_
    rintro e w2 ⟨p2, c2, rfl, h2, hb2⟩
    have HH : Hid (HB w2 (.slice p2 (cutLen size) c2) (D.take (cutLen size))) := h2
    clear h1 h2 HT HS
    go_wp2
    go_ret
    refine ⟨p2, c2, ?_, ?_, hb1.trans (hb2.mono hb1.size)⟩
    · rw [HL.out]; rfl
    · rw [HL.out]; exact HH.out
  · have hl : hashL size er D = [] := by simp [hashL, h0]
    rw [hl]
    clear hl HS HD
    go_enter Tryd.func49, Tryd.ntmps49
    go_wp2_with fail
    refine HT.out.mono ?_
    rintro e w1 ⟨p1, c1, rfl, h1, hb1⟩
    clear HT h1
    go_wp2
    go_ret
    exact ⟨none, 0, rfl, HB.nil _, hb1⟩

/-- The digest of a text of a tag and parts, cut to size bytes; none, if a part is too long. -/
def hashF (size : Int) (tag : Nat) (ls : List (List UInt8)) : List UInt8 := if ∀ p ∈ ls, p.length ≤ 65535 then (sha (UInt8.ofNat tag :: body ls)).take (cutLen size) else []

theorem hash_to (size : Int) (tag : Nat) (v : Value) (ls : List (List UInt8)) (w : World) (hn : ls.length ≤ 10) (ht : tag ≤ 255) (h : PA w v ls) (hT : Tabs w) :
    Calls Tryd.prog 49 #[.int .i64 size, .int .i64 (tag : Int), v] w fun e w' => ∃ p c, e = .returned (.slice p (hashF size tag ls).length c) ∧ HB w' (.slice p (hashF size tag ls).length c) (hashF size tag ls) ∧ Below w.heap.size w w' := by
  obtain ⟨p, c, hv⟩ := h.shape
  by_cases hf : fits ls
  · have hle := body_le ls hf
    have e1 : hashF size tag ls = hashL size 0 (sha (UInt8.ofNat tag :: body ls)) := by
      unfold hashF hashL
      rw [if_pos (show ∀ p ∈ ls, p.length ≤ 65535 from hf), if_pos rfl]
    rw [e1]
    have hl : (UInt8.ofNat tag :: body ls).length ≤ 140737488355328 := by simp; omega
    refine hash_any size tag 0 v (UInt8.ofNat tag :: body ls) _ w ⟨p, _, c, hv⟩ (sha_length _) ?_ ?_
    · refine (text_ok tag v ls w (by omega) (by omega) h (by omega) hf).mono fun e w' ⟨v', he, ho, hb⟩ => ?_
      have hh := HB.of_owns ho
      obtain ⟨p, c, hv⟩ := hh.shape
      subst hv
      exact ⟨p, c, he, hh, hb⟩
    · intro v w' hv hb
      exact sum_any v _ w' hv hl (hT.later hb)
  · have e1 : hashF size tag ls = hashL size 4 (sha []) := by
      unfold hashF hashL
      rw [if_neg (show ¬ ∀ p ∈ ls, p.length ≤ 65535 from hf), if_neg (by decide)]
    rw [e1]
    refine hash_any size tag 4 v [] _ w ⟨p, _, c, hv⟩ (sha_length _) ?_ ?_
    · exact (text_full tag v ls w (by omega) (by omega) h (by omega) hf).mono fun e w' ⟨he, hw⟩ => ⟨none, 0, he, HB.nil _, by subst hw; exact Below.refl _ _⟩
    · intro v w' hv hb
      exact sum_any v _ w' hv (by simp) (hT.later hb)

end Go.Proofs.YtgfddabccjfhiaaDoor
