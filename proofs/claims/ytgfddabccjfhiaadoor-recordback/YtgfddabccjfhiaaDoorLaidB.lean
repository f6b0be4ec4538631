/- What this text proves: where the tables of package math/bits read as the program's own text lays them, the second one's variable holds its numbers; closed facts that a card's proof asks. -/
import Derived.Test.YtgfddabccjfhiaaDoorCards
import Derived.Test.YtgfddabccjfhiaaDoorTie
import Derived.Test.YtgfddabccjfhiaaDoorSkTz
import Derived.ProofKit
import Derived.OpenShut
import Derived.ChangeOld
import Derived.Deep.DeepHandedRow
import Derived.Lib.LaidTab
import Derived.Stop.LaidErr
namespace Go.Proofs.YtgfddabccjfhiaaDoor
open Go.ChangeShapes Go.WideShapes Go.ChangeAt Go.RowKit

theorem own : ownKnob Tryd.prog.godebug = none := by kernel_rfl
theorem laidOut : laidOutB Tryd.prog = true := by kernel_rfl
theorem gTab64 : Tryd.prog.globalNamed "math/bits.deBruijn64tab" = some 1 := by kernel_rfl
theorem gTab64Type : (Tryd.prog.globals[1]?).map (·.type) = some 101 := by kernel_rfl
theorem cellsTab64 : Tryd.prog.cellsOf 101 = 64 := by kernel_rfl
theorem cellsU8 : Tryd.prog.cellsOf 5 = 1 := by kernel_rfl

def tab64Z : List Int := Lib.deBruijn64tab.map fun n : Nat => (n : Int)
def tab32Z : List Int := Lib.deBruijn32tab.map fun n : Nat => (n : Int)
theorem laidTab64 : (Rows.laid_math_bits_deBruijn64tab : DataW Unit) = Lib.tabData .u8 tab64Z := by kernel_rfl
theorem tab64_get : ∀ j, j < 64 → (tab64Z.map fun z => Value.int .u8 z)[j]? = some (.int .u8 (Lib.deBruijn64tab.getD j 0 : Nat)) := by
  intro j hj
  simp only [tab64Z, List.map_map, List.getElem?_map]
  have hl : j < Lib.deBruijn64tab.length := by
    have : Lib.deBruijn64tab.length = 64 := by decide
    omega
  simp [hl, List.getD]

/-- What the row's list gives: the table. -/
theorem td_of {W : World} {rest : List (String × DataW Unit)} (h : laidMet Tryd.prog (("math/bits.deBruijn32tab", Rows.laid_math_bits_deBruijn32tab) :: ("math/bits.deBruijn64tab", Rows.laid_math_bits_deBruijn64tab) :: rest) W) : TD W := by
  have h2 := laidMet.tail h
  rw [laidTab64] at h2
  have t2 := Lib.tabIs_of_head gTab64 gTab64Type Tryd.underlying101 Tryd.underlying5 cellsU8 cellsTab64 h2
  unfold Lib.TabIs at t2
  intro j hj
  have := World.var?_cell gTab64 t2 j
  rw [this]
  have := tab64_get j hj
  simpa using this

def tab64Cells : Array Value := (tab64Z.map fun z => Value.int .u8 z).toArray
def tab32Cells : Array Value := (tab32Z.map fun z => Value.int .u8 z).toArray

end Go.Proofs.YtgfddabccjfhiaaDoor
