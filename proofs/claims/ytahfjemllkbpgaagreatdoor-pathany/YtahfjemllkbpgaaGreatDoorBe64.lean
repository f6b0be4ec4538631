/- What this text holds: a plain fact on a number in eight bytes. -/
import Derived.Test.YtahfjemllkbpgaaGreatDoorShaVocab
namespace Go.Proofs.YtahfjemllkbpgaaGreatDoor
theorem be64_get (n k : Nat) (hk : k < 8) : (be64 n)[k]? = some (UInt8.ofNat (n / 2 ^ (8 * (7 - k)))) := by simp [be64, hk]
end Go.Proofs.YtahfjemllkbpgaaGreatDoor
