/- What this text proves: the walk of annalslaw09.awake over this program: it answers true. -/
import Derived.Test.YtofchcheoanmdaaDoorALeafW
import Derived.Test.YtofchcheoanmdaaDoorAHashW
import Derived.Lib.SlBytesConst
namespace Go.Proofs.YtofchcheoanmdaaDoor
open Go.RowKit

theorem leaf_four : (leafS 4 [97] [] 1).hash.length = 4 := by
  have h8 : (numB 1).length = 8 := be64_length _
  show (hashF 4 1 [[97], [], numB 1]).length = 4
  unfold hashF
  rw [if_pos]
  · rw [List.length_take, sha_length]
    decide
  · intro p hp
    simp only [List.mem_cons, List.not_mem_nil, or_false] at hp
    rcases hp with rfl | rfl | rfl
    · decide
    · decide
    · omega

set_option maxRecDepth 100000 in
set_option maxHeartbeats 1000000 in
theorem arenaAwake_any (w : World) (hT : Tabs w) : Calls Tryd.prog 11 #[] w fun e w' => e = .returned (.bool true) ∧ Below w.heap.size w w' := by
  have hN := anew_ok 4 5 w (by decide) (by decide) (by decide) (by decide)
  have kc := fun (w : World) (C : Array Value) (n c : Nat) => Lib.run_convert_bytes_const (P := Tryd.prog) w 31 5 C n c Tryd.underlying31 Tryd.underlying5
  go_enter Tryd.func11, Tryd.ntmps11
  go_wp2_with (first | (go_at_call 9; refine hN.mono ?_; rintro e w1 ⟨rfl, h1, hb1⟩))
  have bL := (Below.refl _ w1).alloc (Nat.le_refl _) (.cells #[.int .u8 97] 5 (1, 2))
  have hb2 := hb1.trans (bL.mono hb1.size)
  refine (leaf_ok w.heap.size 0 0 w.heap.size 4 5 1 none [] _ _ [97] [] _ (h1.later bL) (World.ownsRow_nil _ _ _ _) hb2.size (by decide) (by decide) (by decide) (HB.litF w1 5 _ _ 1 _ rfl rfl (by unfold maxLen; omega)) (HB.nil _) (hT.later hb2) (by decide) (by decide) (by decide)).mono ?_
  rintro e w3 ⟨p3, c3, nb, rfl, h3, o3, n3, _, f3⟩
  have hb3 : Below w.heap.size w w3 := hb2.trans (f3.1 _ (Nat.le_refl _) (fun k hk => by cases hk) hb2.size)
  have hU := used_any w.heap.size 4 5 p3 1 c3 w3 h3 (by decide) (by decide)
  clear f3 h1 bL hb1 hb2
  go_wp2_with (first | (go_at_call 21; refine hU.mono ?_; rintro e w4 ⟨rfl, hb4⟩))
  have hl : (leafS 4 [97] [] 1).hash.length = 4 := leaf_four
  refine (hash_at w.heap.size 1 c3 w.heap.size 0 nb 4 5 p3 _ _ w4 (h3.later hb4) (owns_later o3 hb4) (by decide) rfl (n3.later hb4) (by rw [hl]; decide)).mono ?_
  rintro e w5 ⟨p5, c5, rfl, k5, hb5⟩
  rw [hl]
  have hb04 := hb3.trans (hb4.mono hb3.size)
  have hb05 := hb04.trans (hb5.mono hb04.size)
  clear k5 o3 n3 h3 hU hl
  go_wp2
  go_ret
  exact ⟨rfl, hb05⟩

end Go.Proofs.YtofchcheoanmdaaDoor
