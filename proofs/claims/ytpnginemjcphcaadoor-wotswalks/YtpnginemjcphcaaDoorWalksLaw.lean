/- What this text proves: the walk of the statement WotsWalks over this program: a walk along a chain, and on, is one walk. -/
import Derived.Test.YtpnginemjcphcaaDoorWChain
import Derived.Test.YtpnginemjcphcaaDoorWAwake
namespace Go.Proofs.YtpnginemjcphcaaDoor
open Go.RowKit

theorem chainN_add (size index i : Int) : ∀ (a b : Nat) (k : Int) (x : List UInt8), chainN size index i (a + b) k x = chainN size index i b (k + a) (chainN size index i a k x)
  | 0, b, k, x => by simp [chainN]
  | a + 1, b, k, x => by
    rw [show a + 1 + b = (a + b) + 1 by omega]
    simp only [chainN]
    rw [chainN_add size index i a b (k + 1) _, show k + 1 + (a : Int) = k + ((a + 1 : Nat) : Int) by omega]

theorem chainF_on (size index i mid : Int) (x : List UInt8) (h0 : 0 ≤ mid) (h3 : mid ≤ 3) : chainF size (chainF size x index i 0 mid) index i mid 3 = chainF size x index i 0 3 := by
  unfold chainF
  have e := chainN_add size index i mid.toNat (3 - mid).toNat 0 x
  rw [show min mid 3 - max 0 0 = mid by omega, show min 3 3 - max mid 0 = 3 - mid by omega, show max mid 0 = mid by omega, show (max 0 0 : Int) = 0 by omega, show ((min 3 3 : Int) - 0).toNat = mid.toNat + (3 - mid).toNat by omega, e]
  congr 1
  omega

theorem hashF_len (size : Int) (tag : Nat) (ls : List (List UInt8)) : (hashF size tag ls).length ≤ 32 := by
  have := cutLen_le size
  unfold hashF
  split
  · rw [List.length_take]; omega
  · simp

theorem chainN_len (size index i : Int) : ∀ (n : Nat) (k : Int) (x : List UInt8) (B : Nat), 32 ≤ B → x.length ≤ B → (chainN size index i n k x).length ≤ B
  | 0, _, _, _, _, h => h
  | n + 1, k, x, B, hB, _ => by
    have := hashF_len size 7 [numB index, numB i, numB k, x]
    exact chainN_len size index i n (k + 1) _ B hB (by unfold stepF; omega)

theorem chainF_len (size index i fr to : Int) (x : List UInt8) (B : Nat) (hB : 32 ≤ B) (h : x.length ≤ B) : (chainF size x index i fr to).length ≤ B := chainN_len _ _ _ _ _ _ _ hB h

set_option maxHeartbeats 2000000 in
theorem walksWalk (size index i mid : Int) (v : Value) (x : List UInt8) (w : World) (h : HB w v x) (hl : x.length ≤ 140737488351232) (hT : Tabs w) :
    Calls Tryd.prog 5 #[.int .i64 size, v, .int .i64 index, .int .i64 i, .int .i64 mid] w fun e w' => e = .returned (.bool true) ∧ Below w.heap.size w w' := by
  obtain ⟨p, c, rfl⟩ := h.shape
  obtain ⟨U, hU, hU2⟩ := u64_nat size
  obtain ⟨V, hV, hV2⟩ := u64_nat mid
  go_enter Tryd.func5, Tryd.ntmps5
  go_wp2_with fail
  have hM0 : 0 ≤ (V : Int) % 4 := by omega
  have hM3 : (V : Int) % 4 ≤ 3 := by omega
  generalize 1 + (U : Int) % 32 = S at *
  generalize (V : Int) % 4 = M at *
  have HE : Hid (chainF S (chainF S x index i 0 M) index i M 3 = chainF S x index i 0 3) := chainF_on S index i M x hM0 hM3
  have hX := chainF_len S index i 0 M x 140737488351232 (by decide) hl
  have c1 := chain_any S index i 0 M (.slice p x.length c) x w h (by omega) hT (by omega)
  have c2 := fun v w' h hT => chain_any S index i M 3 v (chainF S x index i 0 M) w' h (by omega) hT (by omega)
  have c3 := fun w' h hT => chain_any S index i 0 3 (.slice p x.length c) x w' h (by omega) hT (by omega)
  rw [HE.out] at c2
  generalize chainF S x index i 0 3 = Y at *
  generalize chainF S x index i 0 M = X at *
  refine c1.mono ?_
  rintro e w1 ⟨p1, c1, rfl, h1, hb1⟩
  go_wp2_with fail
  refine (c2 _ _ h1 (hT.later hb1)).mono ?_
  rintro e w2 ⟨p2, c2, rfl, h2, hb2⟩
  have hb02 := hb1.trans (hb2.mono hb1.size)
  go_wp2_with fail
  refine (c3 _ (h.later hb02) (hT.later hb02)).mono ?_
  rintro e w3 ⟨p3, c3, rfl, h3, hb3⟩
  have hb03 := hb02.trans (hb3.mono hb02.size)
  have h23 := h2.later hb3
  go_wp2_with fail
  refine (equal_t _ _ Y Y _ h23 h3 rfl).mono ?_
  rintro e w4 ⟨rfl, hw4⟩
  subst hw4
  go_wp2_with fail
  refine (wotsAwake_any _).mono ?_
  rintro e w5 ⟨rfl, hb5⟩
  go_wp2
  go_ret
  exact ⟨rfl, hb03.trans (hb5.mono hb03.size)⟩

end Go.Proofs.YtpnginemjcphcaaDoor
