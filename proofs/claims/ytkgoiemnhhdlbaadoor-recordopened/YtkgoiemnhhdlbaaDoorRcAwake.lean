/- What this text proves: the walk of annalslaw13.awake over this program: it answers true. -/
import Derived.Test.YtkgoiemnhhdlbaaDoorRcEncode
import Derived.Test.YtkgoiemnhhdlbaaDoorEqual
namespace Go.Proofs.YtkgoiemnhhdlbaaDoor
open Go.RowKit

theorem awakeCan : canB 1 ⟨0, 0, 0, [1], [2], []⟩ = true := by decide +kernel
theorem awakeEnc : encL ⟨0, 0, 0, [1], [2], []⟩ = [0, 0, 1, 1, 1, 0, 1, 1, 2] := by decide +kernel

set_option maxHeartbeats 2000000 in
theorem rcAwake_any (w : World) (hTD : TD w) :
    Calls Tryd.prog 6 #[] w fun x w' => x = .returned (.bool true) ∧ Below w.heap.size w w' := by
  have b1 := (Below.refl w.heap.size w).alloc (Nat.le_refl _) (.cells #[.int .u8 1] 5)
  have l1 : HB (w.alloc (.cells #[.int .u8 1] 5)) (.slice (some ⟨w.heap.size, 0, none⟩) 1 1) [1] := HB.lit w 5 [1] _ 1 rfl rfl (by decide)
  have s1 : (w.alloc (.cells #[.int .u8 1] 5)).heap.size = w.heap.size + 1 := by simp
  have b2 := (Below.refl (w.heap.size + 1) (w.alloc (.cells #[.int .u8 1] 5))).alloc (by simp) (.cells #[.int .u8 2] 5)
  have l2 : HB ((w.alloc (.cells #[.int .u8 1] 5)).alloc (.cells #[.int .u8 2] 5)) (.slice (some ⟨w.heap.size + 1, 0, none⟩) 1 1) [2] := by
    have := HB.lit (w.alloc (.cells #[.int .u8 1] 5)) 5 [2] _ 1 rfl rfl (by decide)
    rw [s1] at this
    exact this
  have k1 := l1.later (by rw [s1]; exact b2)
  have bA := b1.trans (b2.mono (by omega))
  have hE := encode_yes 1 0 0 0 _ _ (.slice none 0 0) [1] [2] [] _ k1 l2 (PA.nil _) (hTD.later bA) awakeCan
  rw [awakeEnc] at hE
  have lit9 : ∀ u : World, HB (u.alloc (.cells #[.int .u8 0, .int .u8 0, .int .u8 1, .int .u8 1, .int .u8 1, .int .u8 0, .int .u8 1, .int .u8 1, .int .u8 2] 5)) (.slice (some ⟨u.heap.size, 0, none⟩) 9 9) [0, 0, 1, 1, 1, 0, 1, 1, 2] := fun u => HB.lit u 5 [0, 0, 1, 1, 1, 0, 1, 1, 2] _ 9 rfl rfl (by decide)
  obtain ⟨L, hL⟩ : ∃ L : List UInt8, L = [0, 0, 1, 1, 1, 0, 1, 1, 2] := ⟨_, rfl⟩
  rw [← hL] at hE
  simp only [← hL] at lit9
  clear l1 l2 s1 b1 b2 k1 hL hTD
  go_enter Tryd.func6, Tryd.ntmps6
  go_wp2_with fail
  refine hE.mono ?_
  rintro x w1 ⟨v1, rfl, h1, hb1⟩
  have bB := bA.trans (hb1.mono bA.size)
  clear hE bA hb1
  have bC := (Below.refl w1.heap.size w1).alloc (Nat.le_refl _) (.cells #[.int .u8 0, .int .u8 0, .int .u8 1, .int .u8 1, .int .u8 1, .int .u8 0, .int .u8 1, .int .u8 1, .int .u8 2] 5)
  have hQ := equal_t _ _ L L _ (h1.later bC) (lit9 w1) rfl
  have bD := bB.trans (bC.mono bB.size)
  obtain ⟨p1, c1, rfl⟩ := h1.shape
  clear h1 lit9 bB bC
  go_wp2_with fail
  refine hQ.mono ?_
  rintro x w2 ⟨rfl, hw⟩
  subst hw
  clear hQ
  go_wp2
  go_ret
  exact ⟨rfl, bD⟩

end Go.Proofs.YtkgoiemnhhdlbaaDoor
