/- What this text proves: the walk of seglog's take over this program. -/
import Derived.Test.YtcdikkgkjjopmaaGreatDoorJSgSmall
import Derived.Test.YtcdikkgkjjopmaaGreatDoorOwn
import Derived.Deep.AppendLies
import Derived.Deep.RegionHeld3
namespace Go.Proofs.YtcdikkgkjjopmaaGreatDoor
open Go.RowKit

set_option maxRecDepth 100000 in
set_option maxHeartbeats 1600000 in
theorem take_any {g bd base k r : Nat} {n : Int} {rs : Value} {st : Bool} {vs : List Value} {pb : Option Addr} {m cb : Nat} {w : World} (h : LB w g bd n (k : Int) rs st) (ho : w.ownsRow base 27 1 rs r vs) (hbase : base ≤ w.heap.size) (hr : r ≤ 1000000) (hm : m ≤ 4000) (hk : k ≤ 16384) :
    Calls Tryz.prog 65 #[.pointer (some ⟨g, 0, none⟩), .slice pb m cb] w fun e w' => e = .returned (.tuple #[]) ∧ ∃ rs' w1, w1.ownsRow base 27 1 rs' (r + 1) (vs ++ [.slice pb m cb]) ∧ LB w' g bd n ((k + (tsec m + 1) : Nat) : Int) rs' st ∧ Part (fun q => q = g ∨ some q = rs.ownBlock) w w' ∧ (w.alloc (.cells #[.slice pb m cb] 27)).grownBy w1 rs.ownBlock ∧ Part (fun q => q = g) w1 w' := by
  obtain ⟨c0, c1, c2, c3, c4⟩ := h.cells
  obtain ⟨i0, hi0, hz0, hz1, hz2⟩ := info_parts i_byt
  have hTk := fun W => taken_any m (by omega) W
  have ht : tsec m + 1 ≤ 100 := by unfold tsec; omega
  generalize tsec m + 1 = t at *
  have bB := (Below.refl _ w).alloc (Nat.le_refl _) (.cells #[.slice pb m cb] 27)
  have oB := owns_later ho bB
  have lB := h.same (bB.block _ h.lt)
  have hfr := fun i => lB.free i
  have hnews : ∀ j u, [Value.slice pb m cb][j]? = some u → (w.alloc (.cells #[.slice pb m cb] 27)).cell? ((⟨w.heap.size, 0, none⟩ : Addr).add j) = some u := World.news_of_block (cs := #[.slice pb m cb]) (t := 27) (fr := (0, 0)) (heap_alloc_new w _)
  have hsB : (w.alloc (.cells #[.slice pb m cb] 27)).heap.size = w.heap.size + 1 := by simp
  have hnb : some g ≠ rs.ownBlock := by
    rcases oB.2 with ⟨rfl, _⟩ | ⟨g', cap, cur', rfl, _, hg', _⟩
    · simp [Value.ownBlock]
    · simp only [Value.ownBlock, ne_eq, Option.some.injEq]
      intro e
      subst e
      unfold LB at lB
      rw [hg'] at lB
      simp at lB
  have hwk : IntKind.i64.wrap ((k : Int) + (t : Int)) = (k : Int) + (t : Int) := wrapM _ (by omega) (by omega)
  go_enter Tryz.func65, Tryz.ntmps65
  go_wp2_with (refine wpList_append_lies _ rfl _ _ 90 rfl base 27 i0 _ 1 24 Tryz.underlying90 hi0 hz0 hz1 hz2 rfl (by omega) _ r vs rfl oB ⟨w.heap.size, 0, none⟩ 1 1 [.slice pb m cb] rfl rfl hnews (by simp [Value.oneCell']) (by omega) (by unfold maxLen; omega) (by omega) (by rw [hsB]; omega) (w.heap.size + 1) hsB ?_; intro g1 cap1 w1 hown1 hgrow1 hat1 hlt1; have l1 := lB.same (hgrow1.block _ lB.lt hnb); have e3 := l1.cells.2.2.2.1; have f3 := l1.free 3)
  have l2 := l1.put3 (.slice (some ⟨g1, 0, none⟩) (r + 1) cap1)
  have p2 : Part (fun q => q = g) w1 (w1.setCell ⟨g, 3, none⟩ (.slice (some ⟨g1, 0, none⟩) (r + 1) cap1)) := (Part.refl _ w1).setCell _ _ rfl
  generalize w1.setCell ⟨g, 3, none⟩ (.slice (some ⟨g1, 0, none⟩) (r + 1) cap1) = w2 at *
  have d2 := l2.cells.2.2.1
  have d2d : w2.drew.cell? ⟨g, 2, none⟩ = some (.int .i64 (k : Int)) := cell_later ((Below.refl _ _).drew) d2
  have f2 : w2.drew.frozen? ⟨g, 2, none⟩ = false := (l2.same (w' := w2.drew) rfl).free 2
  go_region_with (go_at_call 71; refine (hTk _).mono ?_; rintro e w3 ⟨rfl, rfl⟩)
  all_goals
    go_wp2
    go_end0
    have l3 := l2.put2 ((k + t : Nat) : Int)
    rw [show ((k + t : Nat) : Int) = (k : Int) + (t : Int) by omega] at l3 ⊢
    have p3 : Part (fun q => q = g) w1 (w2.setCell ⟨g, 2, none⟩ (.int .i64 ((k : Int) + (t : Int)))).drew := (p2.setCell ⟨g, 2, none⟩ _ rfl).drew
    have pg : Part (fun q => q = g ∨ some q = rs.ownBlock) w w1 := ((Part.refl _ w).alloc (.cells #[.slice pb m cb] 27)).grown hgrow1 (fun b e => .inr e.symm)
    exact ⟨rfl, _, w1, hown1, l3, pg.trans p3 (fun q _ e => .inl e), hgrow1, p3⟩

end Go.Proofs.YtcdikkgkjjopmaaGreatDoor
