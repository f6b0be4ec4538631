/- What this text proves: where the two tables of package sha read as the program's own text lays them, their variables hold SHA-256's numbers, and a world of that kind is there. What this text proves: an argument that is a slice of bytes, or a slice of slices of bytes, as the claim's reading has it, holds bytes in memory; and its length is that of the reading's elements. -/
import Derived.Test.YtahfjemllkbpgaaGreatDoorCards
import Derived.Test.YtahfjemllkbpgaaGreatDoorTie
import Derived.Test.YtahfjemllkbpgaaGreatDoorSum
import Derived.ProofKit
import Derived.OpenShut
import Derived.ChangeOld
import Derived.Deep.DeepHandedRow
import Derived.Lib.LaidTab
import Derived.Stop.LaidErr
import Derived.Test.YtahfjemllkbpgaaGreatDoorRows
import Derived.SizedLaws
import Derived.JoinedCond
import Derived.Deep.Matrix
namespace Go.Proofs.YtahfjemllkbpgaaGreatDoor
open Go.ChangeShapes Go.WideShapes Go.ChangeAt Go.RowKit

theorem own : ownKnob Tryz.prog.godebug = none := by kernel_rfl
theorem laidOut : laidOutB Tryz.prog = true := by kernel_rfl
theorem gStart : Tryz.prog.globalNamed "annals/sha.start" = some 0 := by kernel_rfl
theorem gStartType : (Tryz.prog.globals[0]?).map (·.type) = some 90 := by kernel_rfl
theorem gRounds : Tryz.prog.globalNamed "annals/sha.rounds" = some 1 := by kernel_rfl
theorem gRoundsType : (Tryz.prog.globals[1]?).map (·.type) = some 121 := by kernel_rfl
theorem cellsSt8 : Tryz.prog.cellsOf 90 = 8 := by kernel_rfl
theorem cellsSt64 : Tryz.prog.cellsOf 121 = 64 := by kernel_rfl
theorem cellsU32 : Tryz.prog.cellsOf 89 = 1 := by kernel_rfl

def startZ : List Int := [1779033703, 3144134277, 1013904242, 2773480762, 1359893119, 2600822924, 528734635, 1541459225]
def roundsZ : List Int := [1116352408, 1899447441, 3049323471, 3921009573, 961987163, 1508970993, 2453635748, 2870763221, 3624381080, 310598401, 607225278, 1426881987, 1925078388, 2162078206, 2614888103, 3248222580, 3835390401, 4022224774, 264347078, 604807628, 770255983, 1249150122, 1555081692, 1996064986, 2554220882, 2821834349, 2952996808, 3210313671, 3336571891, 3584528711, 113926993, 338241895, 666307205, 773529912, 1294757372, 1396182291, 1695183700, 1986661051, 2177026350, 2456956037, 2730485921, 2820302411, 3259730800, 3345764771, 3516065817, 3600352804, 4094571909, 275423344, 430227734, 506948616, 659060556, 883997877, 958139571, 1322822218, 1537002063, 1747873779, 1955562222, 2024104815, 2227730452, 2361852424, 2428436474, 2756734187, 3204031479, 3329325298]
theorem startZ_eq : (startZ.map fun z => Value.int .u32 z) = wcs (stL startSt) := by kernel_rfl
theorem roundsZ_eq : (roundsZ.map fun z => Value.int .u32 z) = wcs kTab := by kernel_rfl
theorem laidStart : (Rows.laid_annals_sha_start : DataW Unit) = Lib.tabData .u32 startZ := by kernel_rfl
theorem laidRounds : (Rows.laid_annals_sha_rounds : DataW Unit) = Lib.tabData .u32 roundsZ := by kernel_rfl

/-- What the row's list gives: the tables. -/
theorem tabs_of {W : World} (h : laidMet Tryz.prog [("annals/sha.start", Rows.laid_annals_sha_start), ("annals/sha.rounds", Rows.laid_annals_sha_rounds)] W) : Tabs W := by
  have h2 := laidMet.tail h
  rw [laidStart] at h
  rw [laidRounds] at h2
  have t1 := Lib.tabIs_of_head gStart gStartType Tryz.underlying90 Tryz.underlying89 cellsU32 cellsSt8 h
  have t2 := Lib.tabIs_of_head gRounds gRoundsType Tryz.underlying121 Tryz.underlying89 cellsU32 cellsSt64 h2
  unfold Lib.TabIs at t1 t2
  rw [startZ_eq] at t1
  rw [roundsZ_eq] at t2
  constructor
  · unfold World.var? at t1
    rw [gStart] at t1
    simp only [Option.bind_some] at t1
    split at t1
    · rename_i cs t fr he
      simp only [Option.some.injEq] at t1
      subst t1
      exact ⟨t, fr, he⟩
    · cases t1
  · intro i x hx
    have := World.var?_cell gRounds t2 i
    rw [this]
    simp [wcs, hx, wc]

def startCells : Array Value := (startZ.map fun z => Value.int .u32 z).toArray
def roundsCells : Array Value := (roundsZ.map fun z => Value.int .u32 z).toArray

end Go.Proofs.YtahfjemllkbpgaaGreatDoor

namespace Go.Proofs.YtahfjemllkbpgaaGreatDoor
open Go.ChangeShapes Go.WideShapes Go.ChangeAt Go.RowKit

/-- The bytes of numbers. -/
def bytesOf (zs : List Int) : List UInt8 := zs.map fun z => UInt8.ofNat z.toNat

theorem u8_wf {z : Int} (h : (Lit.int .u8 z).wf = true) : 0 ≤ z ∧ z ≤ 255 := bounds_u8 h

theorem bc_ofNat {z : Int} (h : (Lit.int .u8 z).wf = true) : bc (UInt8.ofNat z.toNat) = .int .u8 z := by
  have := u8_wf h
  simp [bc]
  omega

theorem hb_cells {W : World} {x : Addr} {len cap : Nat} {zs : List Int} (hl : len ≤ cap) (hm : cap ≤ maxLen) (hz : zs.length = cap) (hcell : ∀ i, i < zs.length → W.cell? (x.add i) = some (.int .u8 (zs.getD i 0))) (hwz : ∀ n ∈ zs, (Lit.int .u8 n).wf = true) :
    HB W (.slice (some x) len cap) (bytesOf (zs.take len)) := by
  refine ⟨some x, cap, ?_, ?_, hm, (fun h => by cases h), fun hne => ?_⟩
  · congr 1
    simp [bytesOf]
    omega
  · simp [bytesOf]
    omega
  · have h0 : 0 < zs.length := by
      rcases Nat.eq_zero_or_pos zs.length with h | h
      · have : zs = [] := List.eq_nil_of_length_eq_zero h
        subst this
        exact absurd (by simp [bytesOf]) hne
      · exact h
    obtain ⟨b, o, spot⟩ := x
    have hs : spot = none := by simpa [Addr.add] using World.cell?_spot (hcell 0 h0)
    subst hs
    refine ⟨b, o, rfl, fun i y hy => ?_⟩
    have hi : i < (zs.take len).length := by
      have := (List.getElem?_eq_some_iff.1 hy).1
      simpa [bytesOf] using this
    have hi2 : i < zs.length := by simp at hi; omega
    have hc := hcell i hi2
    have ha : (⟨b, o, none⟩ : Addr).add i = ⟨b, o + i, none⟩ := by unfold Addr.add; split <;> simp_all
    rw [ha] at hc
    rw [hc]
    have hil : i < len := by simp at hi; omega
    have e : y = UInt8.ofNat (zs.getD i 0).toNat := by
      have : (bytesOf (zs.take len))[i]? = some (UInt8.ofNat (zs.getD i 0).toNat) := by
        simp [bytesOf, hil, hi2, List.getD]
      rw [this] at hy
      simpa using hy.symm
    rw [e, bc_ofNat (hwz _ (by simp [List.getD, hi2]))]

set_option maxRecDepth 100000 in
set_option maxHeartbeats 400000 in
theorem open_hb {H : Type} {enc : TypeId × Value → H} {W : World} {base : Nat} {v0 : Value} {d0 : DataW H} {p0 : List MemPlace}
    (hval : Value.okWide Tryz.prog W .any base 22 v0) (h0 : DataW.Trod enc Tryz.prog W 0 (fun _ => true) true 22 v0 d0 p0) :
    ∃ l : List UInt8, HB W v0 l ∧ (l = [] ∨ ∃ elems spare, d0 = .slice elems spare ∧ elems.length = l.length) := by
  obtain ⟨a0, len0, cap0, rfl⟩ := okWide_slice Tryz.underlying22 hval
  obtain ⟨fuel, hf⟩ := h0
  rcases open_ints Tryz.underlying22 Tryz.underlying5 (by kernel_rfl) hf with ⟨hcs, _⟩ | ⟨x, l, c, zs, hcs, _, hl, hm, hz, hx, hcell, hwz⟩
  · simp [Value.cells] at hcs
    obtain ⟨rfl, rfl, rfl⟩ := hcs
    exact ⟨[], HB.nil W, .inl rfl⟩
  · simp [Value.cells] at hcs
    obtain ⟨rfl, rfl, rfl⟩ := hcs
    have hzc : zs.length = cap0 := by simpa using hz
    simp only [Prod.mk.injEq] at hx
    exact ⟨bytesOf (zs.take len0), hb_cells hl hm hzc hcell hwz, .inr ⟨_, _, hx.1, by simp [lits, bytesOf]⟩⟩

theorem bytes_u8 : Tryz.prog.bytesOf 5 = 1 := by kernel_rfl
theorem hb_reach {H : Type} {ts : List TypeId} {ds : List (DataW H)} {d0 : DataW H} {l : List UInt8} (h : (DataW.weightsEach Tryz.prog ts ds).all (· ≤ reachBytes) = true) (j : Nat) (ht : ts[j]? = some 22) (hd : ds[j]? = some d0) (hl : l = [] ∨ ∃ elems spare, d0 = .slice elems spare ∧ elems.length = l.length) : l.length ≤ 140737488351232 := by
  rcases hl with rfl | ⟨elems, spare, rfl, e⟩
  · simp
  · have := sized_slice h ht hd Tryz.underlying22
    rw [bytes_u8] at this
    unfold reachBytes at this
    omega

set_option maxRecDepth 100000 in
set_option maxHeartbeats 400000 in
theorem open_pa {H : Type} {enc : TypeId × Value → H} {W : World} {base : Nat} {v0 : Value} {d0 : DataW H} {p0 : List MemPlace}
    (hval : Value.okWide Tryz.prog W .any base 38 v0) (h0 : DataW.Trod enc Tryz.prog W 0 (fun _ => true) true 38 v0 d0 p0) :
    ∃ ls : List (List UInt8), PA W v0 ls := by
  obtain ⟨a0, len0, cap0, rfl⟩ := okWide_slice Tryz.underlying38 hval
  obtain ⟨fuel, hf⟩ := h0
  rcases Go.Deep.open_int_rows Tryz.underlying38 Tryz.underlying22 Tryz.underlying5 (by kernel_rfl) (by kernel_rfl) hf with ⟨hcs, _⟩ | ⟨a, len, cap, A, L, C, Z, hcs, _, hl, hm, _, hx⟩
  · simp [Value.cells] at hcs
    obtain ⟨rfl, rfl, rfl⟩ := hcs
    exact ⟨[], PA.nil W⟩
  · simp [Value.cells] at hcs
    obtain ⟨rfl, rfl, rfl⟩ := hcs
    refine ⟨(List.range len0).map fun r => bytesOf ((Z r).take (L r)), some a, cap0, (List.range len0).map fun r => .slice (A r) (L r) (C r), by simp, by simpa using hl, hm, (fun h => by cases h), by simp, fun hne => ?_, fun i x l hxi hli => ?_⟩
    · have hlen : 0 < len0 := by
        rcases Nat.eq_zero_or_pos len0 with h | h
        · subst h
          exact absurd rfl hne
        · exact h
      have hc0 := (hx 0 (by omega)).1
      obtain ⟨b, o, spot⟩ := a
      have hs : spot = none := by simpa [Addr.add] using World.cell?_spot hc0
      subst hs
      refine ⟨b, o, rfl, fun i x hxi => ?_⟩
      have hi : i < len0 := by
        have := (List.getElem?_eq_some_iff.1 hxi).1
        simpa using this
      have hc := (hx i (by omega)).1
      have ha : (⟨b, o, none⟩ : Addr).add i = ⟨b, o + i, none⟩ := by unfold Addr.add; split <;> simp_all
      rw [ha] at hc
      rw [hc]
      simp [hi] at hxi
      rw [hxi]
    · have hi : i < len0 := by
        have := (List.getElem?_eq_some_iff.1 hxi).1
        simpa using this
      simp [hi] at hxi hli
      subst hxi; subst hli
      obtain ⟨_, h1, h2, h3, h4, h5, h6⟩ := hx i (by omega)
      cases hA : A i with
      | none =>
        have hc := h5 hA
        have hL : L i = 0 := by omega
        rw [hL, hc]
        simp only [List.take_zero, bytesOf, List.map_nil]
        exact HB.nil W
      | some a' =>
        exact hb_cells h1 h2 h3 (fun j hj => (h6 a' hA).2 j (by omega)) h4

end Go.Proofs.YtahfjemllkbpgaaGreatDoor
