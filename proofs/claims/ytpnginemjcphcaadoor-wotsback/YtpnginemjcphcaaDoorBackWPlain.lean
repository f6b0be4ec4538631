/- What this text holds: plain facts on signatures: what was signed leads to the key, and has its length. -/
import Derived.Test.YtpnginemjcphcaaDoorWSign
namespace Go.Proofs.YtpnginemjcphcaaDoor
open Go.RowKit

theorem endsF_congr (E E' : Nat → List UInt8) : ∀ k, (∀ i, i < k → E i = E' i) → endsF E k = endsF E' k
  | 0, _ => rfl
  | k + 1, h => by rw [endsF, endsF, endsF_congr E E' k (fun i hi => h i (by omega)), h k (by omega)]

theorem getD_le (ds : List Nat) (h : ∀ d ∈ ds, d ≤ 3) (i : Nat) : ds.getD i 0 ≤ 3 := by
  rw [List.getD_eq_getElem?_getD]
  cases hg : ds[i]? with
  | none => simp
  | some d => exact h d (List.mem_of_getElem? hg)

theorem back_plain (n : Nat) (seed : List UInt8) (index : Int) (D : List UInt8) : recW n (signW n seed index D) index D = keyW n seed index := by
  unfold recW keyW
  rw [endsF_congr (endR n (signW n seed index D) (digF D) index) (endK n seed index) (4 * n + 5) (fun i hi => ?_)]
  unfold endR endK signW
  have e : ((List.range (4 * n + 5)).map (sigC n seed index (digF D))).getD i [] = sigC n seed index (digF D) i := by
    rw [List.getD_eq_getElem?_getD, List.getElem?_map, List.getElem?_range hi]
    rfl
  rw [e]
  unfold sigC
  have := getD_le (digF D) (digF_le D) i
  exact chainF_on n index i _ _ (by omega) (by omega)

theorem sign_whole (n : Nat) (hn : n ≤ 32) (seed : List UInt8) (hs : seed.length ≤ 64) (index : Int) (D : List UInt8) : wholeB n (signW n seed index D) = true := by
  unfold wholeB signW
  simp only [List.length_map, List.length_range, decide_true, Bool.true_and, List.all_map, List.all_eq_true, Function.comp_apply, decide_eq_true_eq]
  intro i _
  unfold sigC chainF
  exact chainN_eq n hn _ _ _ _ _ (secretF_eq n hn seed (by omega) _ _)

theorem keyW_length (n : Nat) (hn : n ≤ 32) (seed : List UInt8) (index : Int) : (keyW n seed index).length = n := by
  unfold keyW
  refine hashF_eq n hn 8 _ ?_
  intro p hp
  simp only [List.mem_cons, List.not_mem_nil, or_false] at hp
  rcases hp with rfl | rfl
  · rw [numB_length]; decide
  · have h1 := endsF_len (endK n seed index) n (fun i => endK_le n hn seed index i) (4 * n + 5)
    have h2 := Nat.mul_le_mul (show 4 * n + 5 ≤ 133 by omega) hn
    omega

end Go.Proofs.YtpnginemjcphcaaDoor
