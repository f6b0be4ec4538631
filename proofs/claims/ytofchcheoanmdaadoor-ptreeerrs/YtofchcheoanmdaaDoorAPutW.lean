/- What this text proves: the walk of an arena's put over this program, of an arena with no free places and with room: behind the last node. -/
import Derived.Test.YtofchcheoanmdaaDoorAOne
import Derived.Test.YtofchcheoanmdaaDoorOwn
import Derived.Deep.AppendLies
namespace Go.Proofs.YtofchcheoanmdaaDoor
open Go.RowKit

theorem i_pnode : (Tryd.prog.info? 91).map (fun i => (i.zero, i.size, i.bytes)) = some (some (.pointer none), 1, 8) := by kernel_rfl

/-- Nothing that was there is changed but block g and perhaps one more. -/
def Fr (g : Nat) (o : Option Nat) (w w' : World) : Prop := (∀ B, B ≤ g → (∀ k, o = some k → B ≤ k) → B ≤ w.heap.size → Below B w w') ∧ ∀ k, k < w.heap.size → k ≠ g → some k ≠ o → w'.heap[k]? = w.heap[k]?

set_option maxRecDepth 100000 in
set_option maxHeartbeats 1000000 in
theorem put_new (g n c base : Nat) (s r : Int) (p : Option Addr) (xs : List Value) (ad : Addr) (w : World) (h : AG w g s r p n c) (ho : w.ownsRow base 91 1 (.slice p n c) n xs) (hbase : base ≤ w.heap.size) (hs : s ≠ 0) (hr : (n : Int) < r) (hr2 : r ≤ 4194304) :
    Calls Tryd.prog 61 #[.pointer (some ⟨g, 0, none⟩), .pointer (some ad)] w fun e w' => ∃ p' c', e = .returned (.tuple #[.int .i64 (n : Int), .int .i64 0]) ∧ AG w' g s r p' (n + 1) c' ∧ w'.ownsRow base 91 1 (.slice p' (n + 1) c') (n + 1) (xs ++ [.pointer (some ad)]) ∧ Fr g (Value.slice p n c).ownBlock w w' := by
  have hn : n ≤ 4194304 := by omega
  have hR := room_any g s r p n c w h hs hn (by omega) hr2
  have hrn : ¬ (r - (n : Int)) = 0 := by omega
  go_enter Tryd.func61, Tryd.ntmps61
  go_wp2_with fail
  refine hR.mono ?_
  rintro e w1 ⟨rfl, hb1⟩
  have h1 := h.later hb1
  obtain ⟨c0, c1, c2, c3⟩ := h1.cells
  obtain ⟨i0, hi, hz0, hz1, hz2⟩ := info_parts i_pnode
  have bA := (Below.refl _ w1).alloc (Nat.le_refl _) (.cells #[.pointer (some ad)] 91)
  have o1 := owns_later (owns_later ho hb1) bA
  have hsz := hb1.size
  go_wp2_with (first | (go_at_call 56; refine (isLen_any _ _ _ _).mono ?_; rintro e w2 ⟨rfl, hw⟩; have hw2 := hw.symm; clear hw; subst hw2) | (at_builtin; go_loud (refine wpList_append_own _ rfl (.tmp 35) (.tmp 37) 51 rfl base 91 i0 (.pointer none) 1 8 Tryd.underlying51 hi hz0 hz1 hz2 rfl (by decide) _ _ _ rfl o1 ⟨w1.heap.size, 0, none⟩ 1 1 [.pointer (some ad)] rfl rfl (World.news_of_block (cs := #[.pointer (some ad)]) (t := 91) (fr := (0, 0)) (heap_alloc_new w1 _)) (by simp [Value.oneCell']) ?sa ?sb ?sc ?_)))
  case sa => unfold maxLen; omega
  case sb => omega
  case sc => simp; omega
  intro v2 w2 o2 hg2 _
  have hgo : some g ≠ (Value.slice p n c).ownBlock := by
    intro e
    rcases (owns_later ho hb1).2 with ⟨e1, _⟩ | ⟨g', cap, cur, e1, _, e2, _⟩
    · rw [e1] at e; cases e
    · rw [e1] at e
      have e3 : g = g' := by simpa [Value.ownBlock] using e
      subst e3
      have h2 : w1.heap[g]? = some (.cells #[.int .i64 s, .int .i64 r, .slice p n c, .slice none 0 0] 56 (0, 0)) := h1
      rw [h2] at e2
      simp at e2
  have h1A : AG (w1.alloc (.cells #[.pointer (some ad)] 91)) g s r p n c := h1.later bA
  have h2 : AG w2 g s r p n c := (hg2.block g h1A.lt hgo).trans h1A
  obtain ⟨d0, d1, d2, d3⟩ := h2.cells
  have f2 := h2.free 2
  obtain ⟨p2, q2, rfl⟩ := owns_shape o2
  have h3 : AG (w2.setCell ⟨g, 2, none⟩ (.slice p2 (n + 1) q2)) g s r p2 (n + 1) q2 := by
    show _ = _
    rw [heap_setCell_same w2 g 2 _ _ _ h2]
    rfl
  have hA0 : w1.heap.size ≤ (w1.alloc (.cells #[.pointer (some ad)] 91)).heap.size := bA.size
  have o3 : (w2.setCell ⟨g, 2, none⟩ (.slice p2 (n + 1) q2)).ownsRow base 91 1 (.slice p2 (n + 1) q2) (n + 1) (xs ++ [.pointer (some ad)]) := by
    refine ⟨o2.1, ?_⟩
    rcases o2.2 with hn | ⟨g', cap, cur, e1, hbg, e2, rest⟩
    · exact .inl hn
    · refine .inr ⟨g', cap, cur, e1, hbg, ?_, rest⟩
      have hne : g' ≠ g := by
        rintro rfl
        have h2' : w2.heap[g']? = some (.cells #[.int .i64 s, .int .i64 r, .slice p n c, .slice none 0 0] 56 (0, 0)) := h2
        rw [h2'] at e2
        simp at e2
      rw [heap_setCell_other w2 ⟨g, 2, none⟩ g' _ hne]
      exact e2
  have fr : Fr g (Value.slice p n c).ownBlock w (w2.setCell ⟨g, 2, none⟩ (.slice p2 (n + 1) q2)) := by
    refine ⟨fun B hBg hBo hBw => ?_, fun k hk hkg hko => ?_⟩
    · exact ((((hb1.mono hBw).trans ((Below.refl B w1).alloc (by omega) (.cells #[.pointer (some ad)] 91))).grown hg2 (by omega) hBo).setCell (p := ⟨g, 2, none⟩) hBg _)
    · rw [heap_setCell_other w2 ⟨g, 2, none⟩ k _ hkg, hg2.block k (by omega) hko, bA.block k (by omega), hb1.block k hk]
  clear h h1 h1A h2 hg2 o2 o1 ho hgo hA0 c0 c1 c2 c3 hR
  go_wp2
  go_ret2
  exact ⟨_, _, rfl, h3, o3, fr⟩

end Go.Proofs.YtofchcheoanmdaaDoor
