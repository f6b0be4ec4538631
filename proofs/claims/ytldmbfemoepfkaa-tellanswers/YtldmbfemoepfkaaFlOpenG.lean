/- What this text proves: the walks of fields' Open and of fields.Reader's Left and GoOn over this program. -/
import Derived.Test.YtldmbfemoepfkaaFlReadG
import Derived.Deep.RegionHeld3
namespace Go.Proofs.Ytldmbfemoepfkaa
open Go.RowKit

set_option maxHeartbeats 1000000 in
theorem flopen_any (v : Value) (l : List UInt8) (w : World) (h : HB w v l) (hsz : l.length ≤ 140737488355328) :
    Calls Try.prog 14 #[v] w fun x w' => ∃ gc, w.heap.size ≤ gc ∧ x = .returned (.agg #[v, .pointer (some ⟨gc, 0, none⟩)]) ∧ RR w' gc l 0 ∧ Below w.heap.size w w' := by
  have bA := (Below.refl w.heap.size w).alloc (Nat.le_refl _) (.cells #[.slice none 0 0, .pointer none] 39)
  have aA := heap_alloc_new w (.cells #[.slice none 0 0, .pointer none] 39)
  have hO := open_any v l _ (h.later bA) hsz
  obtain ⟨p, c, rfl⟩ := h.shape
  go_enter Try.func14, Try.ntmps14
  go_wp2_with fail
  refine hO.mono ?_
  rintro x w1 ⟨gc, hg, rfl, hr, hb⟩
  have hs : w.heap.size < (w.alloc (.cells #[.slice none 0 0, .pointer none] 39)).heap.size := (Array.getElem?_eq_some_iff.1 aA).1
  have a1 := (hb.block w.heap.size hs).trans aA
  have b1 := bA.trans (hb.mono bA.size)
  have hgc : w.heap.size < gc := by omega
  clear hO hb aA bA h hs hg
  have c0 : w1.cell? ⟨w.heap.size, 0, none⟩ = some (.slice none 0 0) := by rw [cell_of_row _ _ _ _ _ _ a1]; rfl
  have c1 : w1.cell? ⟨w.heap.size, 1, none⟩ = some (.pointer none) := by rw [cell_of_row _ _ _ _ _ _ a1]; rfl
  have f0 : ∀ i, w1.frozen? ⟨w.heap.size, i, none⟩ = false := fun i => by simp [World.frozen?, a1]
  have g0 := f0 0
  have g1 := f0 1
  go_wp2
  have ho : Only w.heap.size w1 ((w1.setCell ⟨w.heap.size, 0, none⟩ (.slice p l.length c)).setCell ⟨w.heap.size, 1, none⟩ (.pointer (some ⟨gc, 0, none⟩))) := ((Only.refl _ w1).setCell _ _).setCell _ _
  have t : TK 39 w1 _ := TK.of_only ho a1
  have hr2 := hr.tk t (by decide) (by decide)
  have b2 := b1.trans (ho.below (Nat.le_refl _))
  refine bodyPost_ret (v := .agg #[.slice p l.length c, .pointer (some ⟨gc, 0, none⟩)]) ?_ rfl ?_
  · simp only [results, Try.results14]
    go_simp
  · exact ⟨gc, by omega, rfl, hr2, b2⟩

set_option maxHeartbeats 1000000 in
theorem flleft_any (T : TypeId) (g gc : Nat) (p : Option Addr) (n c : Nat) (b l : List UInt8) (w : World) (h : RF T w g gc (.slice p n c) l 0) (hb : HB w (.slice p n c) b) (hl : l.length ≤ b.length) :
    Calls Try.prog 16 #[.pointer (some ⟨g, 0, none⟩)] w fun x w' => ∃ v, x = .returned v ∧ HB w' v (b.drop (b.length - l.length)) ∧ Below w.heap.size w w' := by
  obtain ⟨rfl, _, hm, _⟩ := hb.len
  unfold maxLen at hm
  obtain ⟨c0, c1⟩ := h.cell
  have hL := rr_left gc l 0 w.drew h.2
  have hwr : IntKind.i64.wrap ((b.length : Int) - (l.length : Int)) = ((b.length - l.length : Nat) : Int) := by rw [show ((b.length : Int) - (l.length : Int)) = ((b.length - l.length : Nat) : Int) by omega]; exact wrapI _ (by omega)
  have hcut := fun W => run_cut (P := Try.prog) Try.underlying22 s_u8 p b.length c (b.length - l.length) (IntKind.i64.wrap ((b.length : Int) - (l.length : Int))) hwr (by omega) W
  have hB := (hb.behind (b.length - l.length) (by omega)).later (Below.drew (Below.refl _ w))
  have bD := Below.drew (Below.refl w.heap.size w)
  clear h hb hwr
  go_enter Try.func16, Try.ntmps16
  go_wp2
  have hS : w.cell? ⟨g, 0, none⟩ = some (.slice p b.length c) ∧ w.cell? ⟨g, 1, none⟩ = some (.pointer (some ⟨gc, 0, none⟩)) := ⟨c0, c1⟩
  have hSd : w.drew.cell? ⟨g, 0, none⟩ = some (.slice p b.length c) ∧ w.drew.cell? ⟨g, 1, none⟩ = some (.pointer (some ⟨gc, 0, none⟩)) := ⟨c0, c1⟩
  clear c0 c1
  go_region_held3 (fun w' => w'.cell? ⟨g, 0, none⟩ = some (.slice p b.length c) ∧ w'.cell? ⟨g, 1, none⟩ = some (.pointer (some ⟨gc, 0, none⟩))) (first | with_reducible exact hS | with_reducible exact hSd) (first
    | (go_at_call 36; refine hL.mono ?_; rintro e w9 ⟨rfl, hw⟩; subst hw))
  go_wp2
  go_ret
  exact ⟨_, rfl, hB, bD⟩

end Go.Proofs.Ytldmbfemoepfkaa
