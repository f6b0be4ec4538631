/- What this text proves: plain facts about SHA-256's blocks: those of a text's front, and of its padded rest; no program is named. -/
import Derived.Test.YtahfjemllkbpgaaGreatDoorShaPlain
namespace Go.Proofs.YtahfjemllkbpgaaGreatDoor

theorem mixes_front (s : St) (l r : List UInt8) : ∀ n, 64 * n ≤ l.length → mixes s (l ++ r) n = mixes s l n := by
  intro n
  induction n with
  | zero => intro _; rfl
  | succ n ih =>
    intro h
    have h1 : 64 * n ≤ l.length := by omega
    rw [mixes, mixes, ih h1, List.drop_append_of_le_length h1, List.take_append_of_le_length (by simp; omega)]

theorem mixes_behind (s : St) (t : List UInt8) (q : Nat) : ∀ n, mixes s t (q + n) = mixes (mixes s t q) (t.drop (64 * q)) n := by
  intro n
  induction n with
  | zero => rfl
  | succ n ih =>
    rw [← Nat.add_assoc, mixes, mixes, ih, List.drop_drop, Nat.mul_add]

/-- What is mixed behind q whole blocks of a text is the padding of its rest. -/
theorem tail_eq (l : List UInt8) (q : Nat) (h1 : 64 * q ≤ l.length) (h2 : l.length < 64 * q + 64) :
    (l ++ padding l.length).drop (64 * q) = padL (l.drop (64 * q)) (64 * blocks (l.length - 64 * q)) (8 * l.length) 8 ∧ blocks l.length = q + blocks (l.length - 64 * q) := by
  refine ⟨?_, by unfold blocks; omega⟩
  rw [List.drop_append_of_le_length h1]
  unfold padL padding
  congr 2
  congr 1
  · congr 1
    simp only [List.length_drop]
    unfold blocks
    omega

end Go.Proofs.YtahfjemllkbpgaaGreatDoor
