/- What this text proves: the walk of the statements' 'awake' over this program: it answers true. -/
import Derived.Test.YtbmghnkgbiijmaaDoorText
import Derived.Lib.SlBytesConst
namespace Go.Proofs.YtbmghnkgbiijmaaDoor
open Go.RowKit

/-- The world in which awake calls Text. -/
def awakeW (w : World) : World := (w.alloc (.cells #[.int .u8 97, .int .u8 98] 5 (2, 3))).alloc (.cells #[.slice (some ⟨w.heap.size, 0, none⟩) 2 2, .slice none 0 0] 22)

theorem awakeB (w : World) : Below w.heap.size w (awakeW w) := ((Below.refl _ w).alloc (Nat.le_refl _) _).alloc (by simp) _

theorem heap_old (w : World) (o : Obj) (k : Nat) (h : k < w.heap.size) : (w.alloc o).heap[k]? = w.heap[k]? := Below.heap_alloc w o k h

theorem awakeH (w : World) : HB (awakeW w) (.slice (some ⟨w.heap.size, 0, none⟩) 2 2) [97, 98] := by
  have hg : (awakeW w).heap[w.heap.size]? = some (.cells #[.int .u8 97, .int .u8 98] 5 (2, 3)) := by
    unfold awakeW
    rw [heap_old _ _ _ (by simp)]
    exact heap_alloc_new w _
  refine ⟨_, 2, rfl, by simp, by unfold maxLen; omega, (fun h => by cases h), fun _ => ⟨_, 0, rfl, fun i x hx => ?_⟩⟩
  rw [Nat.zero_add, cell_of_row _ _ i _ _ _ hg]
  match i, hx with
  | 0, hx => simp at hx; subst hx; rfl
  | 1, hx => simp at hx; subst hx; rfl

theorem awakePA (w : World) : PA (awakeW w) (.slice (some ⟨w.heap.size + 1, 0, none⟩) 2 2) [[97, 98], []] := by
  have hg : (awakeW w).heap[w.heap.size + 1]? = some (.cells #[.slice (some ⟨w.heap.size, 0, none⟩) 2 2, .slice none 0 0] 22) := by
    have := heap_alloc_new (w.alloc (.cells #[.int .u8 97, .int .u8 98] 5 (2, 3))) (.cells #[.slice (some ⟨w.heap.size, 0, none⟩) 2 2, .slice none 0 0] 22)
    rwa [World.size_alloc] at this
  refine ⟨_, 2, [.slice (some ⟨w.heap.size, 0, none⟩) 2 2, .slice none 0 0], rfl, by simp, by unfold maxLen; omega, (fun h => by cases h), rfl, fun _ => ⟨_, 0, rfl, fun i x hx => ?_⟩, fun i x l hx hl => ?_⟩
  · rw [Nat.zero_add, cell_of_row _ _ i _ _ _ hg]
    match i, hx with
    | 0, hx => simp at hx; subst hx; rfl
    | 1, hx => simp at hx; subst hx; rfl
  · match i, hx, hl with
    | 0, hx, hl => simp at hx hl; subst hx; subst hl; exact awakeH w
    | 1, hx, hl => simp at hx hl; subst hx; subst hl; exact HB.nil _

set_option maxHeartbeats 1000000 in
theorem awake_any (w : World) : Calls Tryd.prog 25 #[] w fun e w' => e = .returned (.bool true) ∧ Below w.heap.size w w' := by
  have kc := fun (w : World) (C : Array Value) (n c : Nat) => Lib.run_convert_bytes_const (P := Tryd.prog) w 22 5 C n c Tryd.underlying22 Tryd.underlying5
  go_enter Tryd.func25, Tryd.ntmps25
  go_wp2_with (go_at_call 19; refine (text_ok 1 _ _ (awakeW w) (by decide) (by decide) (awakePA w) (by simp) (by intro p hp; simp at hp; rcases hp with rfl | rfl <;> simp)).mono ?_; rintro e w1 ⟨v1, rfl, hown1, hb1⟩)
  have ha : HB w1 v1 [1, 0, 2, 97, 98, 0, 0] := HB.of_owns hown1
  refine (equal_any _ _ [1, 0, 2, 97, 98, 0, 0] [1, 0, 2, 97, 98, 0, 0] _ (ha.later ((Below.refl _ w1).alloc (Nat.le_refl _) _)) (HB.lit w1 5 _ _ 7 rfl rfl (by unfold maxLen; omega))).mono ?_
  rintro e w2 ⟨rfl, hw⟩
  have hb2 : Below w.heap.size w w2 := by
    rw [hw]
    have h0 := (awakeB w).size
    have h1 := hb1.size
    exact ((awakeB w).trans (hb1.mono h0)).alloc (by omega) _
  clear hw hown1 ha hb1
  go_wp2
  go_ret
  exact ⟨rfl, hb2⟩

end Go.Proofs.YtbmghnkgbiijmaaDoor
