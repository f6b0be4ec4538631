/- What this text proves: the walk of bits.copied over this program: the same bytes in new memory. -/
import Derived.Test.YtofchcheoanmdaaDoorEqual
namespace Go.Proofs.YtofchcheoanmdaaDoor
open Go.RowKit

set_option maxRecDepth 100000 in
set_option maxHeartbeats 1000000 in
theorem copied_any (v : Value) (l : List UInt8) (w : World) (h : HB w v l) (hbig : l.length ≤ 140737488355328) :
    Calls Tryd.prog 86 #[v] w fun e w' => e = .returned (.slice (some ⟨w.heap.size, 0, none⟩) l.length l.length) ∧ w'.ownsRow w.heap.size 5 1 (.slice (some ⟨w.heap.size, 0, none⟩) l.length l.length) l.length (bcs l) ∧ Below w.heap.size w w' := by
  obtain ⟨p, c, rfl⟩ := h.shape
  obtain ⟨i0, hi, hz0, hz1, hz2⟩ := info_parts i_u8
  go_enter Tryd.func86, Tryd.ntmps86
  go_wp2_with (first | (at_make; refine wpList_make_full _ rfl _ _ 31 rfl w.heap.size 5 i0 (.int .u8 0) 1 Tryd.underlying31 hi hz0 hz1 .i64 .i64 _ _ l.length rfl rfl ?qa ?qb ?qc ?qd ?qe ?_))
  case qa => rfl
  case qb => rfl
  case qc => rw [hz2]; omega
  case qd => unfold maxLen; omega
  case qe => exact Nat.le_refl _
  intro w1 hown1 hgrow1
  have hb1 : Below w.heap.size w w1 := (Below.refl _ w).grown hgrow1 (Nat.le_refl _) (by intro k hk; cases hk)
  have hs1 := h.later hb1
  clear h hgrow1
  go_wp2_with (refine wpList_copy_hb rfl (.tmp 7) (.tmp 8) 31 31 rfl 5 Tryd.underlying31 s_u8 w.heap.size l.length _ _ _ rfl rfl w.heap.size _ hown1 l hs1 rfl ?_)
  intro w2 hown2 hgrow2
  have hb2 : Below w.heap.size w w2 := hb1.grown hgrow2 hb1.size (by intro k hk; cases hk; exact Nat.le_refl _)
  clear hs1 hown1 hgrow2 hb1
  go_wp2
  go_ret
  exact ⟨rfl, hown2, hb2⟩

end Go.Proofs.YtofchcheoanmdaaDoor
