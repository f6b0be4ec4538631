/- What this text holds: what a signature's path leads to (no program). What this text holds: plain facts on signatures: what was signed leads to the key, and has its length. What this text proves: the path that mts.Sign answers leads to the tree's root (no program). -/
import Derived.Test.YtdjaemobfbbkoaaDoorJShp
import Derived.Test.YtdjaemobfbbkoaaDoorJWSign
namespace Go.Proofs.YtdjaemobfbbkoaaDoor
open Go.RowKit

/-- One step up: the hash beside stands to the right where the place is even. -/
def upS (n : Nat) (idx l : Nat) (x y : List UInt8) : List UInt8 :=
  if idx / 2 ^ l % 2 = 0 then hashF n 9 [numB ((l + 1 : Nat) : Int), numB ((idx / 2 ^ (l + 1) : Nat) : Int), x, y] else hashF n 9 [numB ((l + 1 : Nat) : Int), numB ((idx / 2 ^ (l + 1) : Nat) : Int), y, x]
/-- The hash behind k steps up. -/
def upN (n idx : Nat) (ps : List (List UInt8)) (x : List UInt8) : Nat → List UInt8
  | 0 => x
  | k + 1 => upS n idx k (upN n idx ps x k) (ps.getD k [])

end Go.Proofs.YtdjaemobfbbkoaaDoor

namespace Go.Proofs.YtdjaemobfbbkoaaDoor
open Go.RowKit

theorem endsF_congr (E E' : Nat → List UInt8) : ∀ k, (∀ i, i < k → E i = E' i) → endsF E k = endsF E' k
  | 0, _ => rfl
  | k + 1, h => by rw [endsF, endsF, endsF_congr E E' k (fun i hi => h i (by omega)), h k (by omega)]

theorem getD_le (ds : List Nat) (h : ∀ d ∈ ds, d ≤ 3) (i : Nat) : ds.getD i 0 ≤ 3 := by
  rw [List.getD_eq_getElem?_getD]
  cases hg : ds[i]? with
  | none => simp
  | some d => exact h d (List.mem_of_getElem? hg)

theorem back_plain (n : Nat) (seed : List UInt8) (index : Int) (D : List UInt8) : recW n (signW n seed index D) index D = keyW n seed index := by
  unfold recW keyW
  rw [endsF_congr (endR n (signW n seed index D) (digF D) index) (endK n seed index) (4 * n + 5) (fun i hi => ?_)]
  unfold endR endK signW
  have e : ((List.range (4 * n + 5)).map (sigC n seed index (digF D))).getD i [] = sigC n seed index (digF D) i := by
    rw [List.getD_eq_getElem?_getD, List.getElem?_map, List.getElem?_range hi]
    rfl
  rw [e]
  unfold sigC
  have := getD_le (digF D) (digF_le D) i
  exact chainF_on n index i _ _ (by omega) (by omega)

theorem sign_whole (n : Nat) (hn : n ≤ 32) (seed : List UInt8) (hs : seed.length ≤ 64) (index : Int) (D : List UInt8) : wholeB n (signW n seed index D) = true := by
  unfold wholeB signW
  simp only [List.length_map, List.length_range, decide_true, Bool.true_and, List.all_map, List.all_eq_true, Function.comp_apply, decide_eq_true_eq]
  intro i _
  unfold sigC chainF
  exact chainN_eq n hn _ _ _ _ _ (secretF_eq n hn seed (by omega) _ _)

theorem keyW_length (n : Nat) (hn : n ≤ 32) (seed : List UInt8) (index : Int) : (keyW n seed index).length = n := by
  unfold keyW
  refine hashF_eq n hn 8 _ ?_
  intro p hp
  simp only [List.mem_cons, List.not_mem_nil, or_false] at hp
  rcases hp with rfl | rfl
  · rw [numB_length]; decide
  · have h1 := endsF_len (endK n seed index) n (fun i => endK_le n hn seed index i) (4 * n + 5)
    have h2 := Nat.mul_le_mul (show 4 * n + 5 ≤ 133 by omega) hn
    omega

end Go.Proofs.YtdjaemobfbbkoaaDoor

namespace Go.Proofs.YtdjaemobfbbkoaaDoor
open Go.RowKit

/-- The place beside. -/
def besideP (p : Nat) : Nat := if p % 2 = 0 then p + 1 else p - 1

/-- The path of a number: the hashes beside. -/
def pathW (n : Nat) (seed : List UInt8) (i h : Nat) : List (List UInt8) := (List.range h).map fun k => treeS n seed k (besideP (i / 2 ^ k))

theorem pathW_length (n : Nat) (seed : List UInt8) (i h : Nat) : (pathW n seed i h).length = h := by simp [pathW]

theorem pathW_getD (n : Nat) (seed : List UInt8) (i h k : Nat) (hk : k < h) : (pathW n seed i h).getD k [] = treeS n seed k (besideP (i / 2 ^ k)) := by
  simp [pathW, List.getD_eq_getElem?_getD, hk]

theorem up_tree (n : Nat) (seed : List UInt8) (i h : Nat) : ∀ k, k ≤ h → upN n i (pathW n seed i h) (treeS n seed 0 i) k = treeS n seed k (i / 2 ^ k)
  | 0, _ => by simp [upN]
  | k + 1, hk => by
    have ih := up_tree n seed i h k (by omega)
    show upS n i k (upN n i (pathW n seed i h) (treeS n seed 0 i) k) ((pathW n seed i h).getD k []) = _
    rw [ih, pathW_getD n seed i h k (by omega)]
    have e : i / 2 ^ (k + 1) = i / 2 ^ k / 2 := by rw [Nat.pow_succ, ← Nat.div_div_eq_div_mul]
    unfold upS besideP
    rw [e]
    generalize i / 2 ^ k = p
    show _ = hashF n 9 [numB ((k + 1 : Nat) : Int), numB ((p / 2 : Nat) : Int), treeS n seed k (2 * (p / 2)), treeS n seed k (2 * (p / 2) + 1)]
    by_cases hp : p % 2 = 0
    · rw [if_pos hp, if_pos hp, show 2 * (p / 2) = p by omega]
    · rw [if_neg hp, if_neg hp, show 2 * (p / 2) + 1 = p by omega, show 2 * (p / 2) = p - 1 by omega]

/-- What was signed leads to the tree's root. -/
theorem up_back (n : Nat) (seed : List UInt8) (i h : Nat) (hi : i < 2 ^ h) (D : List UInt8) : upN n i (pathW n seed i h) (recW n (signW n seed i D) i D) h = treeS n seed h 0 := by
  rw [back_plain]
  have := up_tree n seed i h h (Nat.le_refl _)
  rw [Nat.div_eq_of_lt hi] at this
  exact this

theorem treeS_length (n : Nat) (hn : n ≤ 32) (seed : List UInt8) (l p : Nat) : (treeS n seed l p).length = n := by
  cases l with
  | zero => exact keyW_length n hn seed p
  | succ l =>
    refine hashF_eq n hn 9 _ ?_
    intro q hq
    simp only [List.mem_cons, List.not_mem_nil, or_false] at hq
    rcases hq with rfl | rfl | rfl | rfl
    · rw [numB_length]; decide
    · rw [numB_length]; decide
    · exact Nat.le_trans (treeS_len _ _ _ _) (by decide)
    · exact Nat.le_trans (treeS_len _ _ _ _) (by decide)

theorem pathW_shp (n : Nat) (hn : n ≤ 32) (seed : List UInt8) (i h : Nat) : shpB n h (pathW n seed i h) = true := by
  refine shpB_all (pathW_length n seed i h) fun l hl => ?_
  obtain ⟨k, _, rfl⟩ := List.mem_map.1 hl
  exact treeS_length n hn seed k _

end Go.Proofs.YtdjaemobfbbkoaaDoor
