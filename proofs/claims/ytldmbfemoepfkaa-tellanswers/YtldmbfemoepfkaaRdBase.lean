/- What this text proves: a codec.Reader in memory; the walks of its Err, Left, End and fail over this program. -/
import Derived.Test.YtldmbfemoepfkaaOwn
import Derived.BigQuiet
namespace Go.Proofs.Ytldmbfemoepfkaa
open Go.RowKit

/-- Block g holds a reader: what is left, the first error, whether Open made it. -/
def RD (w : World) (g : Nat) (v : Value) (e : Int) (b : Bool) : Prop := w.heap[g]? = some (.cells #[v, .int .i64 e, .bool b] 88 (0, 0))

theorem RD.cells {w : World} {g : Nat} {v : Value} {e : Int} {b : Bool} (h : RD w g v e b) : w.cell? ⟨g, 0, none⟩ = some v ∧ w.cell? ⟨g, 1, none⟩ = some (.int .i64 e) ∧ w.cell? ⟨g, 2, none⟩ = some (.bool b) := by
  refine ⟨?_, ?_, ?_⟩ <;> rw [cell_of_row w g _ _ _ _ h] <;> rfl

theorem RD.later {w w' : World} {g : Nat} {v : Value} {e : Int} {b : Bool} (h : RD w g v e b) (hb : Below w.heap.size w w') : RD w' g v e b := by
  unfold RD
  rw [hb.block g (Array.getElem?_eq_some_iff.1 h).1]
  exact h

theorem RD.lt {w : World} {g : Nat} {v : Value} {e : Int} {b : Bool} (h : RD w g v e b) : g < w.heap.size := (Array.getElem?_eq_some_iff.1 h).1

theorem RD.put0 {w : World} {g : Nat} {v : Value} {e : Int} {b : Bool} (h : RD w g v e b) (v' : Value) : RD (w.setCell ⟨g, 0, none⟩ v') g v' e b := by
  unfold RD
  rw [heap_setCell_same w g 0 _ _ _ h]
  rfl

theorem RD.put1 {w : World} {g : Nat} {v : Value} {e : Int} {b : Bool} (h : RD w g v e b) (e' : Int) : RD (w.setCell ⟨g, 1, none⟩ (.int .i64 e')) g v e' b := by
  unfold RD
  rw [heap_setCell_same w g 1 _ _ _ h]
  rfl

theorem RD.other {w : World} {g : Nat} {v : Value} {e : Int} {b : Bool} (h : RD w g v e b) (a : Addr) (u : Value) (hne : g ≠ a.block) : RD (w.setCell a u) g v e b := by
  unfold RD
  rw [heap_setCell_other w a g u hne]
  exact h

theorem RD.free {w : World} {g : Nat} {v : Value} {e : Int} {b : Bool} (h : RD w g v e b) (i : Nat) : w.frozen? ⟨g, i, none⟩ = false := by
  unfold RD at h
  simp [World.frozen?, h]

set_option maxHeartbeats 400000 in
theorem rerr_nil (w : World) : Calls Try.prog 57 #[.pointer none] w fun e w' => e = .returned (.int .i64 2) ∧ w' = w := by
  go_enter Try.func57, Try.ntmps57
  go_wp2
  go_ret
  exact ⟨rfl, rfl⟩

set_option maxHeartbeats 400000 in
theorem rerr_any (g : Nat) (v : Value) (e : Int) (b : Bool) (w : World) (h : RD w g v e b) :
    Calls Try.prog 57 #[.pointer (some ⟨g, 0, none⟩)] w fun x w' => x = .returned (.int .i64 (if b then e else 2)) ∧ w' = w := by
  obtain ⟨c0, c1, c2⟩ := h.cells
  clear h
  cases b
  · go_enter Try.func57, Try.ntmps57
    go_wp2
    go_ret
    exact ⟨rfl, rfl⟩
  · go_enter Try.func57, Try.ntmps57
    go_wp2
    go_ret
    exact ⟨rfl, rfl⟩

set_option maxHeartbeats 400000 in
theorem rleft_nil (w : World) : Calls Try.prog 36 #[.pointer none] w fun e w' => e = .returned (.int .i64 0) ∧ w' = w := by
  go_enter Try.func36, Try.ntmps36
  go_wp2
  go_ret
  exact ⟨rfl, rfl⟩

set_option maxHeartbeats 400000 in
theorem rleft_any (g : Nat) (p : Option Addr) (n c : Nat) (e : Int) (b : Bool) (w : World) (h : RD w g (.slice p n c) e b) :
    Calls Try.prog 36 #[.pointer (some ⟨g, 0, none⟩)] w fun x w' => x = .returned (.int .i64 (n : Int)) ∧ w' = w := by
  obtain ⟨c0, c1, c2⟩ := h.cells
  clear h
  go_enter Try.func36, Try.ntmps36
  go_wp2
  go_ret
  exact ⟨rfl, rfl⟩

/-- The first error, or ErrForm, if something is left. -/
def endF (n : Nat) (e : Int) : Int := if e = 0 ∧ 0 < n then 5 else e

set_option maxHeartbeats 400000 in
theorem rfail_any (g : Nat) (v : Value) (e e' : Int) (b : Bool) (w : World) (h : RD w g v e b) :
    Calls Try.prog 58 #[.pointer (some ⟨g, 0, none⟩), .int .i64 e'] w fun x w' => x = .returned (.int .i64 0) ∧ w' = (w.setCell ⟨g, 1, none⟩ (.int .i64 e')).setCell ⟨g, 0, none⟩ (.slice none 0 0) := by
  obtain ⟨c0, c1, c2⟩ := h.cells
  have f0 := h.free 0
  have f1 := h.free 1
  obtain ⟨c0', _, _⟩ := (h.put1 e').cells
  have f0' := (h.put1 e').free 0
  clear h
  go_enter Try.func58, Try.ntmps58
  go_wp2
  go_ret
  exact ⟨rfl, rfl⟩

end Go.Proofs.Ytldmbfemoepfkaa
