/- What this text proves: where the two tables of package sha read as the program's own text lays them, their variables hold SHA-256's numbers, and a world of that kind is there. -/
import Derived.Test.YtcdikkgkjjopmaaGreatDoorCards
import Derived.Test.YtcdikkgkjjopmaaGreatDoorTie
import Derived.Test.YtcdikkgkjjopmaaGreatDoorSum
import Derived.ProofKit
import Derived.OpenShut
import Derived.ChangeOld
import Derived.Deep.DeepHandedRow
import Derived.Lib.LaidTab
import Derived.Stop.LaidErr
namespace Go.Proofs.YtcdikkgkjjopmaaGreatDoor
open Go.ChangeShapes Go.WideShapes Go.ChangeAt Go.RowKit

theorem own : ownKnob Tryz.prog.godebug = none := by kernel_rfl
theorem laidOut : laidOutB Tryz.prog = true := by kernel_rfl
theorem gStart : Tryz.prog.globalNamed "annals/sha.start" = some 0 := by kernel_rfl
theorem gStartType : (Tryz.prog.globals[0]?).map (·.type) = some 124 := by kernel_rfl
theorem gRounds : Tryz.prog.globalNamed "annals/sha.rounds" = some 1 := by kernel_rfl
theorem gRoundsType : (Tryz.prog.globals[1]?).map (·.type) = some 132 := by kernel_rfl
theorem cellsSt8 : Tryz.prog.cellsOf 124 = 8 := by kernel_rfl
theorem cellsSt64 : Tryz.prog.cellsOf 132 = 64 := by kernel_rfl
theorem cellsU32 : Tryz.prog.cellsOf 115 = 1 := by kernel_rfl

def startZ : List Int := [1779033703, 3144134277, 1013904242, 2773480762, 1359893119, 2600822924, 528734635, 1541459225]
def roundsZ : List Int := [1116352408, 1899447441, 3049323471, 3921009573, 961987163, 1508970993, 2453635748, 2870763221, 3624381080, 310598401, 607225278, 1426881987, 1925078388, 2162078206, 2614888103, 3248222580, 3835390401, 4022224774, 264347078, 604807628, 770255983, 1249150122, 1555081692, 1996064986, 2554220882, 2821834349, 2952996808, 3210313671, 3336571891, 3584528711, 113926993, 338241895, 666307205, 773529912, 1294757372, 1396182291, 1695183700, 1986661051, 2177026350, 2456956037, 2730485921, 2820302411, 3259730800, 3345764771, 3516065817, 3600352804, 4094571909, 275423344, 430227734, 506948616, 659060556, 883997877, 958139571, 1322822218, 1537002063, 1747873779, 1955562222, 2024104815, 2227730452, 2361852424, 2428436474, 2756734187, 3204031479, 3329325298]
theorem startZ_eq : (startZ.map fun z => Value.int .u32 z) = wcs (stL startSt) := by kernel_rfl
theorem roundsZ_eq : (roundsZ.map fun z => Value.int .u32 z) = wcs kTab := by kernel_rfl
theorem laidStart : (Rows.laid_annals_sha_start : DataW Unit) = Lib.tabData .u32 startZ := by kernel_rfl
theorem laidRounds : (Rows.laid_annals_sha_rounds : DataW Unit) = Lib.tabData .u32 roundsZ := by kernel_rfl

/-- What the row's list gives: the tables. -/
theorem tabs_of {W : World} (h : laidMet Tryz.prog [("annals/sha.start", Rows.laid_annals_sha_start), ("annals/sha.rounds", Rows.laid_annals_sha_rounds)] W) : Tabs W := by
  have h2 := laidMet.tail h
  rw [laidStart] at h
  rw [laidRounds] at h2
  have t1 := Lib.tabIs_of_head gStart gStartType Tryz.underlying124 Tryz.underlying115 cellsU32 cellsSt8 h
  have t2 := Lib.tabIs_of_head gRounds gRoundsType Tryz.underlying132 Tryz.underlying115 cellsU32 cellsSt64 h2
  unfold Lib.TabIs at t1 t2
  rw [startZ_eq] at t1
  rw [roundsZ_eq] at t2
  constructor
  · unfold World.var? at t1
    rw [gStart] at t1
    simp only [Option.bind_some] at t1
    split at t1
    · rename_i cs t fr he
      simp only [Option.some.injEq] at t1
      subst t1
      exact ⟨t, fr, he⟩
    · cases t1
  · intro i x hx
    have := World.var?_cell gRounds t2 i
    rw [this]
    simp [wcs, hx, wc]

def startCells : Array Value := (startZ.map fun z => Value.int .u32 z).toArray
def roundsCells : Array Value := (roundsZ.map fun z => Value.int .u32 z).toArray

end Go.Proofs.YtcdikkgkjjopmaaGreatDoor
