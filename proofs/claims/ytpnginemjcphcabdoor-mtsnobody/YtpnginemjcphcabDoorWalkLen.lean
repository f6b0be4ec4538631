/- What this text holds: plain facts on chains: how long they are, and that a walk and on is one walk. -/
import Derived.Test.YtpnginemjcphcabDoorWChain
namespace Go.Proofs.YtpnginemjcphcabDoor
open Go.RowKit

theorem chainN_add (size index i : Int) : ∀ (a b : Nat) (k : Int) (x : List UInt8), chainN size index i (a + b) k x = chainN size index i b (k + a) (chainN size index i a k x)
  | 0, b, k, x => by simp [chainN]
  | a + 1, b, k, x => by
    rw [show a + 1 + b = (a + b) + 1 by omega]
    simp only [chainN]
    rw [chainN_add size index i a b (k + 1) _, show k + 1 + (a : Int) = k + ((a + 1 : Nat) : Int) by omega]

theorem chainF_on (size index i mid : Int) (x : List UInt8) (h0 : 0 ≤ mid) (h3 : mid ≤ 3) : chainF size (chainF size x index i 0 mid) index i mid 3 = chainF size x index i 0 3 := by
  unfold chainF
  have e := chainN_add size index i mid.toNat (3 - mid).toNat 0 x
  rw [show min mid 3 - max 0 0 = mid by omega, show min 3 3 - max mid 0 = 3 - mid by omega, show max mid 0 = mid by omega, show (max 0 0 : Int) = 0 by omega, show ((min 3 3 : Int) - 0).toNat = mid.toNat + (3 - mid).toNat by omega, e]
  congr 1
  omega

theorem hashF_len (size : Int) (tag : Nat) (ls : List (List UInt8)) : (hashF size tag ls).length ≤ 32 := by
  have := cutLen_le size
  unfold hashF
  split
  · rw [List.length_take]; omega
  · simp

theorem chainN_len (size index i : Int) : ∀ (n : Nat) (k : Int) (x : List UInt8) (B : Nat), 32 ≤ B → x.length ≤ B → (chainN size index i n k x).length ≤ B
  | 0, _, _, _, _, h => h
  | n + 1, k, x, B, hB, _ => by
    have := hashF_len size 7 [numB index, numB i, numB k, x]
    exact chainN_len size index i n (k + 1) _ B hB (by unfold stepF; omega)

theorem chainF_len (size index i fr to : Int) (x : List UInt8) (B : Nat) (hB : 32 ≤ B) (h : x.length ≤ B) : (chainF size x index i fr to).length ≤ B := chainN_len _ _ _ _ _ _ _ hB h

end Go.Proofs.YtpnginemjcphcabDoor
