/- What this text proves: the walk of the document's Number over this program: a number in eight bytes. -/
import Derived.Test.YtofchcheoanmdaaDoorRSum
import Derived.Test.YtofchcheoanmdaaDoorNumC
namespace Go.Proofs.YtofchcheoanmdaaDoor
open Go.RowKit

set_option maxRecDepth 100000 in
set_option maxHeartbeats 1000000 in
theorem rnumber_any (n : Int) (U : Nat) (hU : IntKind.u64.wrap n = (U : Int)) (w : World) :
    Calls Tryd.prog 49 #[.int .i64 n] w fun e w' => ∃ p c, e = .returned (.slice p 8 c) ∧ HB w' (.slice p 8 c) (be64 U) ∧ Below w.heap.size w w' := by
  obtain ⟨i0, hi, hz0, hz1, hz2⟩ := info_parts i_u8
  go_enter Tryd.func49, Tryd.ntmps49
  have h0 : w.ownsRow w.heap.size 5 1 (.slice none 0 0) 0 (bcs ((be64 U).take 0)) := World.ownsRow_nil w _ _ _
  go_wp2
  go_loopw [3, 4] (fun v i wr => ∃ (k : Nat) (p5 : Option Addr) (c5 : Nat), k ≤ 8 ∧ i = .int .i64 (56 - 8 * (k : Int)) ∧ v = .slice p5 k c5 ∧ wr.ownsRow w.heap.size 5 1 (.slice p5 k c5) k (bcs ((be64 U).take k)) ∧ Below w.heap.size w wr)
    (fun v _ _ => 8 - lenS v)
  case atStart => exact ⟨0, none, 0, by omega, rfl, rfl, h0, Below.refl _ _⟩
  case round =>
    clear h0
    obtain ⟨k, p5, c5, hk, rfl, rfl, hown, hbe⟩ := hrel
    have hsz := hbe.size
    by_cases hlt : k < 8
    · have HNV : Hid (Value.int .u8 ((U : Int) / 2 ^ (56 - 8 * k) % 256) = bc (UInt8.ofNat (U / 2 ^ (8 * (7 - k))))) := numV U k hlt
      have HST : Hid (bcs ((be64 U).take k) ++ [bc (UInt8.ofNat (U / 2 ^ (8 * (7 - k))))] = bcs ((be64 U).take (k + 1))) := by
        show _ = _
        rw [List.take_add_one, be64_get _ _ hlt]
        simp [bcs]
      go_wp2_with (first | (at_builtin; refine wpList_append_own _ rfl (.tmp 9) (.tmp 15) 31 rfl w.heap.size 5 i0 (.int .u8 0) 1 1 Tryd.underlying31 hi hz0 hz1 hz2 rfl (by decide) _ _ _ rfl (hown.alloc _) ⟨wr.heap.size, 0, none⟩ 1 1 [.int .u8 ((U : Int) / 2 ^ (56 - 8 * k) % 256)] rfl rfl ?ua ?ub ?uc ?ud ?ue ?_))
      case ua => exact cell_one_new _ _ _
      case ub => intro u hu; simp at hu; subst hu; rfl
      case uc => unfold maxLen; omega
      case ud => omega
      case ue => simp; omega
      intro v6 w6 hown6 hgrow6 _
      have hb6 : Below w.heap.size w w6 := (hbe.alloc hsz _).grown hgrow6 (by simp; omega) (fun k hk => (hown.lt k hk).1)
      rw [HNV.out, HST.out] at hown6
      obtain ⟨p6, c6, hv6⟩ := owns_shape hown6
      rw [hv6] at hown6 ⊢
      clear hv6 hgrow6 hown hbe HNV HST
      go_wp2
      go_roundw
      case rel => first | exact ⟨k + 1, p6, c6, by omega, by go_num, rfl, hown6, hb6⟩ | ((repeat apply Exists.intro); exact ⟨⟨k + 1, p6, c6, by omega, by go_num, rfl, hown6, hb6⟩, rfl⟩)
      case measure => simp [lenS]; omega
    · have hk8 : k = 8 := by omega
      subst hk8
      rw [List.take_of_length_le (by rw [be64_length]; omega)] at hown
      have hh := HB.of_owns hown
      have HH : Hid (HB wr (.slice p5 8 c5) (be64 U)) := hh
      clear hh hown
      go_wp2
      go_ret
      exact ⟨_, _, rfl, HH.out, hbe⟩

end Go.Proofs.YtofchcheoanmdaaDoor
