/- What this text proves: the walks of mts.join, mts.leaves and mts.raised over this program: the hashes of a tree's levels, in blocks of their own. -/
import Derived.Test.YtdjaemobfbbkoaaDoorJHashT
import Derived.Deep.RegionHeld3
namespace Go.Proofs.YtdjaemobfbbkoaaDoor
open Go.RowKit

/-- The hash at a level and a place. -/
def treeS (n : Nat) (seed : List UInt8) : Nat → Nat → List UInt8
  | 0, p => keyW n seed p
  | l + 1, p => hashF n 9 [numB ((l + 1 : Nat) : Int), numB (p : Int), treeS n seed l (2 * p), treeS n seed l (2 * p + 1)]

set_option maxRecDepth 100000 in
set_option maxHeartbeats 4000000 in
theorem join_any (size level place : Int) (a b : Value) (x y : List UInt8) (w : World) (ha : HB w a x) (hb : HB w b y) (hT : Tabs w) :
    Calls Tryd.prog 30 #[.int .i64 size, .int .i64 level, .int .i64 place, .agg #[a, b]] w fun e w' => ∃ p c, e = .returned (.slice p (hashF size 9 [numB level, numB place, x, y]).length c) ∧ HB w' (.slice p (hashF size 9 [numB level, numB place, x, y]).length c) (hashF size 9 [numB level, numB place, x, y]) ∧ Below w.heap.size w w' ∧ TB w' (.slice p (hashF size 9 [numB level, numB place, x, y]).length c) := by
  obtain ⟨p, c, rfl⟩ := ha.shape
  obtain ⟨q, d, rfl⟩ := hb.shape
  obtain ⟨F, hF⟩ : ∃ F, F = hashF size 9 [numB level, numB place, x, y] := ⟨_, rfl⟩
  have HF : Hid (F = hashF size 9 [numB level, numB place, x, y]) := hF
  rw [← hF]
  clear hF
  have hA := fun w' => number_to level w'
  have hB := fun w' => number_to place w'
  generalize numB level = A at *
  generalize numB place = B at *
  have bA := (Below.refl _ w).alloc (Nat.le_refl _) (.cells #[.slice p x.length c, .slice q y.length d] 74)
  have e0 : (w.alloc (.cells #[.slice p x.length c, .slice q y.length d] 74)).cell? ⟨w.heap.size, 0, none⟩ = some (.slice p x.length c) := by
    rw [cell_of_row _ _ 0 _ _ _ (heap_alloc_new w _)]
    simp
  have e1 : (w.alloc (.cells #[.slice p x.length c, .slice q y.length d] 74)).cell? ⟨w.heap.size, 1, none⟩ = some (.slice q y.length d) := by
    rw [cell_of_row _ _ 1 _ _ _ (heap_alloc_new w _)]
    simp
  have ha1 := ha.later bA
  have hb1 := hb.later bA
  have hT1 := hT.later bA
  go_enter Tryd.func30, Tryd.ntmps30
  go_wp2
  generalize w.alloc (.cells #[.slice p x.length c, .slice q y.length d] 74) = wa at *
  go_region_held3 (fun w' => w'.cell? ⟨w.heap.size, 0, none⟩ = some (.slice p x.length c) ∧ w'.cell? ⟨w.heap.size, 1, none⟩ = some (.slice q y.length d)) (first | exact ⟨e0, e1⟩ | exact ⟨f0, f1⟩ | exact ⟨g0, g1⟩ | exact ⟨i0, i1⟩ | exact ⟨cell_later ((Below.refl _ _).alloc (Nat.le_refl _) _) g0, cell_later ((Below.refl _ _).alloc (Nat.le_refl _) _) g1⟩) (first
    | (go_at_call_of 60 (Value.int IntKind.i64 level); refine (hA _).mono ?_; rintro e w1 ⟨p1, c1, rfl, h1, hb1'⟩; have hbw1 : Below wa.heap.size wa w1 := Below.trans (by repeat (first | exact Below.refl _ _ | refine Below.drew ?_)) hb1'; have f0 := cell_later hbw1 e0; have f1 := cell_later hbw1 e1)
    | (go_at_call_of 60 (Value.int IntKind.i64 place); refine (hB _).mono ?_; rintro e w2 ⟨p2, c2, rfl, h2, hb2'⟩; have hbw2 : Below wa.heap.size wa w2 := hbw1.trans (hb2'.mono hbw1.size); have g0 := cell_later hbw2 e0; have g1 := cell_later hbw2 e1; have k1 := h1.later hb2'; have ka := ha1.later hbw2; have kb := hb1.later hbw2; have kT := hT1.later hbw2)
    | (go_at_call 59; refine (hash_toT size 9 _ [A, B, x, y] _ (by simp) (by decide) (PA.lit w2 22 [_, _, _, _] _ 4 rfl rfl (by decide) (four_hb k1 h2 ka kb)) (kT.later ((Below.refl _ w2).alloc (Nat.le_refl _) _))).mono ?_; rintro e w3 ⟨p3, c3, rfl, h3, hb3', t3⟩; have hbw3 : Below wa.heap.size wa w3 := (hbw2.alloc hbw2.size _).trans (hb3'.mono (by have := hbw2.size; simp; omega)); have i0 := cell_later hbw3 e0; have i1 := cell_later hbw3 e1))
  all_goals
    rw [← HF.out] at h3 t3 ⊢
    have hbw : Below w.heap.size w w3 := bA.trans (hbw3.mono bA.size)
    go_wp2
    go_ret
    exact ⟨_, _, rfl, h3, hbw, t3⟩

end Go.Proofs.YtdjaemobfbbkoaaDoor
