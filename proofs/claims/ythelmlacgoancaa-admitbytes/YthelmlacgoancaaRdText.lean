/- What this text proves: the walks of the reader's Bytes and Flag and of Open over this program. -/
import Derived.Test.YthelmlacgoancaaRdAny
import Derived.Test.YthelmlacgoancaaCopyPart
namespace Go.Proofs.Ythelmlacgoancaa
open Go.RowKit

/-- What Flag answers. -/
def FlagSaid (g : Nat) (w : World) (l : List UInt8) (x : Ending) (w' : World) : Prop := x = .returned (.bool (flagF l).2.1) ∧ RR w' g (flagF l).2.2 (flagF l).1 ∧ Only g w w'

theorem uintF_le (l : List UInt8) (most : Int) : (uintF l most).2.2.length ≤ l.length := by
  cases l with
  | nil => simp [uintF]
  | cons x r =>
    simp only [uintF]
    repeat' split
    all_goals simp
    omega

theorem uintF_err (l : List UInt8) (most : Int) : (uintF l most).1 = 0 ∨ (uintF l most).1 = 3 ∨ (uintF l most).1 = 4 ∨ (uintF l most).1 = 5 := by
  cases l with
  | nil => simp [uintF]
  | cons x r =>
    simp only [uintF]
    repeat' split
    all_goals simp

theorem uintF_fell (l : List UInt8) (most : Int) (h : (uintF l most).1 ≠ 0) : (uintF l most).2 = (0, []) := by
  cases l with
  | nil => simp [uintF]
  | cons x r =>
    revert h
    simp only [uintF]
    repeat' split
    all_goals simp

/-- What Bytes answers. -/
def BytesSaid (g : Nat) (w : World) (l : List UInt8) (most : Int) (x : Ending) (w' : World) : Prop := ∃ p c, x = .returned (.slice p (bytesF l most).2.1.length c) ∧ HBN w' g (.slice p (bytesF l most).2.1.length c) (bytesF l most).2.1 ∧ RR w' g (bytesF l most).2.2 (bytesF l most).1 ∧ Only g w w'

set_option maxRecDepth 100000 in
set_option maxHeartbeats 1000000 in
theorem open_any (v : Value) (l : List UInt8) (w : World) (h : HB w v l) (hsz : l.length ≤ 140737488355328) :
    Calls Try.prog 31 #[v] w fun x w' => ∃ g, w.heap.size ≤ g ∧ x = .returned (.pointer (some ⟨g, 0, none⟩)) ∧ RR w' g l 0 ∧ Below w.heap.size w w' := by
  obtain ⟨p, c, rfl⟩ := h.shape
  go_enter Try.func31, Try.ntmps31
  go_wp2_with (first | (at_builtin; refine wpList_append_hb rfl (.const (.slice none 0 0)) (.tmp 3) 29 rfl w.heap.size 5 Try.underlying29 i_u8 _ 0 [] rfl (World.ownsRow_nil w _ _ _) _ _ _ l rfl h ?qa ?qb ?_))
  case qa => omega
  case qb => exact Nat.le_refl _
  intro v1 w1 hown1 hgrow1
  have hb1 : Below w.heap.size w w1 := (Below.refl _ w).grown hgrow1 (Nat.le_refl _) (by intro k hk; cases hk)
  have hown1' : w1.ownsRow w.heap.size 5 1 v1 l.length (bcs l) := by simpa using hown1
  have hlt := hown1'.lt
  obtain ⟨p1, c1, rfl⟩ := owns_shape hown1'
  have hh := HB.of_owns hown1'
  have hty := fun a n c (e : Value.slice p1 l.length c1 = .slice (some a) n c) => TY.of_owns hown1' e
  clear hgrow1 hown1 hown1'
  go_wp2
  go_ret
  refine ⟨w1.heap.size, hb1.size, rfl, ⟨p1, c1, heap_alloc_new w1 _, hh.later ((Below.refl _ w1).alloc (Nat.le_refl _) _), fun a n c e => ?_⟩, hb1.alloc hb1.size _⟩
  have := (hlt a.block (by rw [e]; rfl)).2
  exact ⟨by omega, (hty a n c e).later ((Below.refl _ w1).alloc (Nat.le_refl _) _)⟩

end Go.Proofs.Ythelmlacgoancaa
