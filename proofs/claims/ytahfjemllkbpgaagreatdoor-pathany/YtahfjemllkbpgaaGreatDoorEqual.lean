/- What this text proves: the walk of bytes.Equal over this program: it answers whether the bytes of two slices are the same, and leaves the world as it was. -/
import Derived.Test.YtahfjemllkbpgaaGreatDoorFacts
namespace Go.Proofs.YtahfjemllkbpgaaGreatDoor
open Go.RowKit

set_option maxRecDepth 100000 in
set_option maxHeartbeats 400000 in
theorem equal_any (a b : Value) (l m : List UInt8) (w : World) (ha : HB w a l) (hb : HB w b m) :
    Calls Tryz.prog 14 #[a, b] w fun e w' => e = .returned (.bool (l == m)) ∧ w' = w := by
  obtain ⟨p, c, rfl⟩ := ha.shape
  obtain ⟨q, d, rfl⟩ := hb.shape
  have h1 := ha.str (P := Tryz.prog) 22 5 9 Tryz.underlying22 Tryz.underlying5 Tryz.underlying9
  have h2 := hb.str (P := Tryz.prog) 22 5 9 Tryz.underlying22 Tryz.underlying5 Tryz.underlying9
  clear ha hb
  go_enter Tryz.func14, Tryz.ntmps14
  go_wp2
  go_ret
  exact ⟨by simp, rfl⟩

theorem equal_t (a b : Value) (l m : List UInt8) (w : World) (ha : HB w a l) (hb : HB w b m) (h : l = m) :
    Calls Tryz.prog 14 #[a, b] w fun e w' => e = .returned (.bool true) ∧ w' = w := (equal_any a b l m w ha hb).mono fun e w' ⟨he, hw⟩ => ⟨by rw [he, h]; simp, hw⟩
theorem equal_f (a b : Value) (l m : List UInt8) (w : World) (ha : HB w a l) (hb : HB w b m) (h : l ≠ m) :
    Calls Tryz.prog 14 #[a, b] w fun e w' => e = .returned (.bool false) ∧ w' = w := (equal_any a b l m w ha hb).mono fun e w' ⟨he, hw⟩ => ⟨by rw [he, beq_eq_false_iff_ne.2 h], hw⟩

end Go.Proofs.YtahfjemllkbpgaaGreatDoor
