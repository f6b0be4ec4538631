/- What this text holds: a block of cells of a type U, by its cells (no walk). (By program: mkflreadg.py.) -/
import Derived.Test.YtldmbfemoepfkaaFacts
namespace Go.Proofs.Ytldmbfemoepfkaa
open Go.RowKit

/-- Block g is one of type U with the cells cs. -/
def CB (U : TypeId) (w : World) (g : Nat) (cs : Array Value) : Prop := w.heap[g]? = some (.cells cs U (0, 0))

theorem CB.lt {U : TypeId} {w : World} {g : Nat} {cs : Array Value} (h : CB U w g cs) : g < w.heap.size := (Array.getElem?_eq_some_iff.1 h).1
theorem CB.cell {U : TypeId} {w : World} {g i : Nat} {cs : Array Value} {v : Value} (h : CB U w g cs) (hv : cs[i]? = some v) : w.cell? ⟨g, i, none⟩ = some v := by
  rw [cell_of_row _ _ _ _ _ _ h, hv]
theorem CB.free {U : TypeId} {w : World} {g : Nat} {cs : Array Value} (h : CB U w g cs) (i : Nat) : w.frozen? ⟨g, i, none⟩ = false := by simp [World.frozen?, show w.heap[g]? = _ from h]
theorem CB.put {U : TypeId} {w : World} {g : Nat} {cs : Array Value} (h : CB U w g cs) (i : Nat) (v : Value) : CB U (w.setCell ⟨g, i, none⟩ v) g (cs.setIfInBounds i v) := heap_setCell_same w g i cs U v h
theorem CB.set {U : TypeId} {w : World} {g : Nat} {cs : Array Value} (h : CB U w g cs) (i : Nat) (v : Value) (cs' : Array Value) (e : cs.setIfInBounds i v = cs') : CB U (w.setCell ⟨g, i, none⟩ v) g cs' := e ▸ h.put i v
theorem CB.other {U : TypeId} {w : World} {g : Nat} {cs : Array Value} (h : CB U w g cs) (a : Addr) (v : Value) (hne : g ≠ a.block) : CB U (w.setCell a v) g cs := (Below.heap_setCell w a v g hne).trans h
theorem CB.later {U : TypeId} {w w' : World} {g : Nat} {cs : Array Value} (h : CB U w g cs) (hb : Below w.heap.size w w') : CB U w' g cs := (hb.block g (Array.getElem?_eq_some_iff.1 h).1).trans h
theorem CB.made (U : TypeId) (w : World) (cs : Array Value) : CB U (w.alloc (.cells cs U)) w.heap.size cs := heap_alloc_new w _

end Go.Proofs.Ytldmbfemoepfkaa
