/- What this text proves: where the two tables of package sha read as the program's own text lays them, their variables hold SHA-256's numbers, and a world of that kind is there. What this text proves: where the tables of package math/bits read as the program's own text lays them, the second one's variable holds its numbers; closed facts that a card's proof asks. What this text proves: an argument that is a slice of bytes, or a slice of slices of bytes, as the claim's reading has it, holds bytes in memory; and its length is that of the reading's elements. What this text proves: an argument that is a record, as the claim's reading has it, holds its numbers, bytes and rows in memory. What this text proves: an argument that is a signed record (a record's fields and a signature's), as the claim's reading has it, holds its numbers, bytes and rows in memory. What this text proves: the walk of annalslaw13.awake over this program: it answers true. What this text proves: the walk of the document's Same (annalsref13) over this program, at two records that hold the same: true. What this text proves: the walk of the document's Same (annalsref06) over this program, at two signatures that hold the same: true. -/
import Derived.Test.YtganajmhdpiipaaGreatDoorCards
import Derived.Test.YtganajmhdpiipaaGreatDoorTie
import Derived.Test.YtganajmhdpiipaaGreatDoorSum
import Derived.ProofKit
import Derived.OpenShut
import Derived.ChangeOld
import Derived.Deep.DeepHandedRow
import Derived.Lib.LaidTab
import Derived.Stop.LaidErr
import Derived.Test.YtganajmhdpiipaaGreatDoorSkTz
import Derived.Test.YtganajmhdpiipaaGreatDoorRows
import Derived.SizedLaws
import Derived.JoinedCond
import Derived.Deep.Matrix
import Derived.Deep.Strs
import Derived.Lib.SmallJoins
import Derived.Test.YtganajmhdpiipaaGreatDoorJEn
import Derived.Test.YtganajmhdpiipaaGreatDoorEqual
import Derived.Test.YtganajmhdpiipaaGreatDoorRcVocab
import Derived.Test.YtganajmhdpiipaaGreatDoorJSb
namespace Go.Proofs.YtganajmhdpiipaaGreatDoor
open Go.ChangeShapes Go.WideShapes Go.ChangeAt Go.RowKit

theorem own : ownKnob Tryz.prog.godebug = none := by kernel_rfl
theorem laidOut : laidOutB Tryz.prog = true := by kernel_rfl
theorem gStart : Tryz.prog.globalNamed "annals/sha.start" = some 2 := by kernel_rfl
theorem gStartType : (Tryz.prog.globals[2]?).map (·.type) = some 101 := by kernel_rfl
theorem gRounds : Tryz.prog.globalNamed "annals/sha.rounds" = some 3 := by kernel_rfl
theorem gRoundsType : (Tryz.prog.globals[3]?).map (·.type) = some 104 := by kernel_rfl
theorem cellsSt8 : Tryz.prog.cellsOf 101 = 8 := by kernel_rfl
theorem cellsSt64 : Tryz.prog.cellsOf 104 = 64 := by kernel_rfl
theorem cellsU32 : Tryz.prog.cellsOf 96 = 1 := by kernel_rfl

def startZ : List Int := [1779033703, 3144134277, 1013904242, 2773480762, 1359893119, 2600822924, 528734635, 1541459225]
def roundsZ : List Int := [1116352408, 1899447441, 3049323471, 3921009573, 961987163, 1508970993, 2453635748, 2870763221, 3624381080, 310598401, 607225278, 1426881987, 1925078388, 2162078206, 2614888103, 3248222580, 3835390401, 4022224774, 264347078, 604807628, 770255983, 1249150122, 1555081692, 1996064986, 2554220882, 2821834349, 2952996808, 3210313671, 3336571891, 3584528711, 113926993, 338241895, 666307205, 773529912, 1294757372, 1396182291, 1695183700, 1986661051, 2177026350, 2456956037, 2730485921, 2820302411, 3259730800, 3345764771, 3516065817, 3600352804, 4094571909, 275423344, 430227734, 506948616, 659060556, 883997877, 958139571, 1322822218, 1537002063, 1747873779, 1955562222, 2024104815, 2227730452, 2361852424, 2428436474, 2756734187, 3204031479, 3329325298]
theorem startZ_eq : (startZ.map fun z => Value.int .u32 z) = wcs (stL startSt) := by kernel_rfl
theorem roundsZ_eq : (roundsZ.map fun z => Value.int .u32 z) = wcs kTab := by kernel_rfl
theorem laidStart : (Rows.laid_annals_sha_start : DataW Unit) = Lib.tabData .u32 startZ := by kernel_rfl
theorem laidRounds : (Rows.laid_annals_sha_rounds : DataW Unit) = Lib.tabData .u32 roundsZ := by kernel_rfl

/-- What the row's list gives: the tables. -/
theorem tabs_of {W : World} (h : laidMet Tryz.prog [("annals/sha.start", Rows.laid_annals_sha_start), ("annals/sha.rounds", Rows.laid_annals_sha_rounds)] W) : Tabs W := by
  have h2 := laidMet.tail h
  rw [laidStart] at h
  rw [laidRounds] at h2
  have t1 := Lib.tabIs_of_head gStart gStartType Tryz.underlying101 Tryz.underlying96 cellsU32 cellsSt8 h
  have t2 := Lib.tabIs_of_head gRounds gRoundsType Tryz.underlying104 Tryz.underlying96 cellsU32 cellsSt64 h2
  unfold Lib.TabIs at t1 t2
  rw [startZ_eq] at t1
  rw [roundsZ_eq] at t2
  constructor
  · unfold World.var? at t1
    rw [gStart] at t1
    simp only [Option.bind_some] at t1
    split at t1
    · rename_i cs t fr he
      simp only [Option.some.injEq] at t1
      subst t1
      exact ⟨t, fr, he⟩
    · cases t1
  · intro i x hx
    have := World.var?_cell gRounds t2 i
    rw [this]
    simp [wcs, hx, wc]

def startCells : Array Value := (startZ.map fun z => Value.int .u32 z).toArray
def roundsCells : Array Value := (roundsZ.map fun z => Value.int .u32 z).toArray

end Go.Proofs.YtganajmhdpiipaaGreatDoor

namespace Go.Proofs.YtganajmhdpiipaaGreatDoor
open Go.ChangeShapes Go.WideShapes Go.ChangeAt Go.RowKit

theorem gTab64 : Tryz.prog.globalNamed "math/bits.deBruijn64tab" = some 1 := by kernel_rfl
theorem gTab64Type : (Tryz.prog.globals[1]?).map (·.type) = some 100 := by kernel_rfl
theorem cellsTab64 : Tryz.prog.cellsOf 100 = 64 := by kernel_rfl
theorem cellsU8 : Tryz.prog.cellsOf 5 = 1 := by kernel_rfl

def tab64Z : List Int := Lib.deBruijn64tab.map fun n : Nat => (n : Int)
def tab32Z : List Int := Lib.deBruijn32tab.map fun n : Nat => (n : Int)
theorem laidTab64 : (Rows.laid_math_bits_deBruijn64tab : DataW Unit) = Lib.tabData .u8 tab64Z := by kernel_rfl
theorem tab64_get : ∀ j, j < 64 → (tab64Z.map fun z => Value.int .u8 z)[j]? = some (.int .u8 (Lib.deBruijn64tab.getD j 0 : Nat)) := by
  intro j hj
  simp only [tab64Z, List.map_map, List.getElem?_map]
  have hl : j < Lib.deBruijn64tab.length := by
    have : Lib.deBruijn64tab.length = 64 := by decide
    omega
  simp [hl, List.getD]

/-- What the row's list gives: the table. -/
theorem td_of {W : World} {rest : List (String × DataW Unit)} (h : laidMet Tryz.prog (("math/bits.deBruijn32tab", Rows.laid_math_bits_deBruijn32tab) :: ("math/bits.deBruijn64tab", Rows.laid_math_bits_deBruijn64tab) :: rest) W) : TD W := by
  have h2 := laidMet.tail h
  rw [laidTab64] at h2
  have t2 := Lib.tabIs_of_head gTab64 gTab64Type Tryz.underlying100 Tryz.underlying5 cellsU8 cellsTab64 h2
  unfold Lib.TabIs at t2
  intro j hj
  have := World.var?_cell gTab64 t2 j
  rw [this]
  have := tab64_get j hj
  simpa using this

def tab64Cells : Array Value := (tab64Z.map fun z => Value.int .u8 z).toArray
def tab32Cells : Array Value := (tab32Z.map fun z => Value.int .u8 z).toArray

end Go.Proofs.YtganajmhdpiipaaGreatDoor

namespace Go.Proofs.YtganajmhdpiipaaGreatDoor
open Go.ChangeShapes Go.WideShapes Go.ChangeAt Go.RowKit

/-- The bytes of numbers. -/
def bytesOf (zs : List Int) : List UInt8 := zs.map fun z => UInt8.ofNat z.toNat

theorem u8_wf {z : Int} (h : (Lit.int .u8 z).wf = true) : 0 ≤ z ∧ z ≤ 255 := bounds_u8 h

theorem bc_ofNat {z : Int} (h : (Lit.int .u8 z).wf = true) : bc (UInt8.ofNat z.toNat) = .int .u8 z := by
  have := u8_wf h
  simp [bc]
  omega

theorem hb_cells {W : World} {x : Addr} {len cap : Nat} {zs : List Int} (hl : len ≤ cap) (hm : cap ≤ maxLen) (hz : zs.length = cap) (hcell : ∀ i, i < zs.length → W.cell? (x.add i) = some (.int .u8 (zs.getD i 0))) (hwz : ∀ n ∈ zs, (Lit.int .u8 n).wf = true) :
    HB W (.slice (some x) len cap) (bytesOf (zs.take len)) := by
  refine ⟨some x, cap, ?_, ?_, hm, (fun h => by cases h), fun hne => ?_⟩
  · congr 1
    simp [bytesOf]
    omega
  · simp [bytesOf]
    omega
  · have h0 : 0 < zs.length := by
      rcases Nat.eq_zero_or_pos zs.length with h | h
      · have : zs = [] := List.eq_nil_of_length_eq_zero h
        subst this
        exact absurd (by simp [bytesOf]) hne
      · exact h
    obtain ⟨b, o, spot⟩ := x
    have hs : spot = none := by simpa [Addr.add] using World.cell?_spot (hcell 0 h0)
    subst hs
    refine ⟨b, o, rfl, fun i y hy => ?_⟩
    have hi : i < (zs.take len).length := by
      have := (List.getElem?_eq_some_iff.1 hy).1
      simpa [bytesOf] using this
    have hi2 : i < zs.length := by simp at hi; omega
    have hc := hcell i hi2
    have ha : (⟨b, o, none⟩ : Addr).add i = ⟨b, o + i, none⟩ := by unfold Addr.add; split <;> simp_all
    rw [ha] at hc
    rw [hc]
    have hil : i < len := by simp at hi; omega
    have e : y = UInt8.ofNat (zs.getD i 0).toNat := by
      have : (bytesOf (zs.take len))[i]? = some (UInt8.ofNat (zs.getD i 0).toNat) := by
        simp [bytesOf, hil, hi2, List.getD]
      rw [this] at hy
      simpa using hy.symm
    rw [e, bc_ofNat (hwz _ (by simp [List.getD, hi2]))]

set_option maxRecDepth 100000 in
set_option maxHeartbeats 400000 in
theorem open_hb {H : Type} {enc : TypeId × Value → H} {W : World} {base : Nat} {v0 : Value} {d0 : DataW H} {p0 : List MemPlace}
    (hval : Value.okWide Tryz.prog W .any base 22 v0) (h0 : DataW.Trod enc Tryz.prog W 0 (fun _ => true) true 22 v0 d0 p0) :
    ∃ l : List UInt8, HB W v0 l ∧ (l = [] ∨ ∃ elems spare, d0 = .slice elems spare ∧ elems.length = l.length) := by
  obtain ⟨a0, len0, cap0, rfl⟩ := okWide_slice Tryz.underlying22 hval
  obtain ⟨fuel, hf⟩ := h0
  rcases open_ints Tryz.underlying22 Tryz.underlying5 (by kernel_rfl) hf with ⟨hcs, _⟩ | ⟨x, l, c, zs, hcs, _, hl, hm, hz, hx, hcell, hwz⟩
  · simp [Value.cells] at hcs
    obtain ⟨rfl, rfl, rfl⟩ := hcs
    exact ⟨[], HB.nil W, .inl rfl⟩
  · simp [Value.cells] at hcs
    obtain ⟨rfl, rfl, rfl⟩ := hcs
    have hzc : zs.length = cap0 := by simpa using hz
    simp only [Prod.mk.injEq] at hx
    exact ⟨bytesOf (zs.take len0), hb_cells hl hm hzc hcell hwz, .inr ⟨_, _, hx.1, by simp [lits, bytesOf]⟩⟩

theorem bytes_u8 : Tryz.prog.bytesOf 5 = 1 := by kernel_rfl
theorem hb_reach {H : Type} {ts : List TypeId} {ds : List (DataW H)} {d0 : DataW H} {l : List UInt8} (h : (DataW.weightsEach Tryz.prog ts ds).all (· ≤ reachBytes) = true) (j : Nat) (ht : ts[j]? = some 22) (hd : ds[j]? = some d0) (hl : l = [] ∨ ∃ elems spare, d0 = .slice elems spare ∧ elems.length = l.length) : l.length ≤ 140737488351232 := by
  rcases hl with rfl | ⟨elems, spare, rfl, e⟩
  · simp
  · have := sized_slice h ht hd Tryz.underlying22
    rw [bytes_u8] at this
    unfold reachBytes at this
    omega

set_option maxRecDepth 100000 in
set_option maxHeartbeats 400000 in
theorem open_pa {H : Type} {enc : TypeId × Value → H} {W : World} {base : Nat} {v0 : Value} {d0 : DataW H} {p0 : List MemPlace}
    (hval : Value.okWide Tryz.prog W .any base 23 v0) (h0 : DataW.Trod enc Tryz.prog W 0 (fun _ => true) true 23 v0 d0 p0) :
    ∃ ls : List (List UInt8), PA W v0 ls := by
  obtain ⟨a0, len0, cap0, rfl⟩ := okWide_slice Tryz.underlying23 hval
  obtain ⟨fuel, hf⟩ := h0
  rcases Go.Deep.open_int_rows Tryz.underlying23 Tryz.underlying22 Tryz.underlying5 (by kernel_rfl) (by kernel_rfl) hf with ⟨hcs, _⟩ | ⟨a, len, cap, A, L, C, Z, hcs, _, hl, hm, _, hx⟩
  · simp [Value.cells] at hcs
    obtain ⟨rfl, rfl, rfl⟩ := hcs
    exact ⟨[], PA.nil W⟩
  · simp [Value.cells] at hcs
    obtain ⟨rfl, rfl, rfl⟩ := hcs
    refine ⟨(List.range len0).map fun r => bytesOf ((Z r).take (L r)), some a, cap0, (List.range len0).map fun r => .slice (A r) (L r) (C r), by simp, by simpa using hl, hm, (fun h => by cases h), by simp, fun hne => ?_, fun i x l hxi hli => ?_⟩
    · have hlen : 0 < len0 := by
        rcases Nat.eq_zero_or_pos len0 with h | h
        · subst h
          exact absurd rfl hne
        · exact h
      have hc0 := (hx 0 (by omega)).1
      obtain ⟨b, o, spot⟩ := a
      have hs : spot = none := by simpa [Addr.add] using World.cell?_spot hc0
      subst hs
      refine ⟨b, o, rfl, fun i x hxi => ?_⟩
      have hi : i < len0 := by
        have := (List.getElem?_eq_some_iff.1 hxi).1
        simpa using this
      have hc := (hx i (by omega)).1
      have ha : (⟨b, o, none⟩ : Addr).add i = ⟨b, o + i, none⟩ := by unfold Addr.add; split <;> simp_all
      rw [ha] at hc
      rw [hc]
      simp [hi] at hxi
      rw [hxi]
    · have hi : i < len0 := by
        have := (List.getElem?_eq_some_iff.1 hxi).1
        simpa using this
      simp [hi] at hxi hli
      subst hxi; subst hli
      obtain ⟨_, h1, h2, h3, h4, h5, h6⟩ := hx i (by omega)
      cases hA : A i with
      | none =>
        have hc := h5 hA
        have hL : L i = 0 := by omega
        rw [hL, hc]
        simp only [List.take_zero, bytesOf, List.map_nil]
        exact HB.nil W
      | some a' =>
        exact hb_cells h1 h2 h3 (fun j hj => (h6 a' hA).2 j (by omega)) h4

end Go.Proofs.YtganajmhdpiipaaGreatDoor

namespace Go.Proofs.YtganajmhdpiipaaGreatDoor
open Go.ChangeShapes Go.WideShapes Go.ChangeAt Go.RowKit

section
variable {H : Type} {enc : TypeId × Value → H} {P : Program} {w : World} {base : Nat} {spare : Nat → Bool} {held : Bool}

theorem array6 {α : Type} {cs : Array α} (h : cs.size = 6) : ∃ c0 c1 c2 c3 c4 c5, cs = #[c0, c1, c2, c3, c4, c5] := by
  obtain ⟨l⟩ := cs
  match l, h with
  | [c0, c1, c2, c3, c4, c5], _ => exact ⟨c0, c1, c2, c3, c4, c5, rfl⟩

/-- A struct of six fields of one cell each, opened. -/
theorem open_agg6 {r : Reach} {b0 : Nat} {t : TypeId} {f0 f1 f2 f3 f4 f5 : Field} {v : Value} {d : DataW H} {p : List MemPlace} (hs : P.underlying t = some (.struct #[f0, f1, f2, f3, f4, f5])) (hone : Go.Deep.oneCellFields P #[f0, f1, f2, f3, f4, f5] = true) (hC : P.cellsOf t = 6)
    (hv : Value.okWide P w r b0 t v) (h : DataW.Trod enc P w base spare held t v d p) :
    ∃ (c0 c1 c2 c3 c4 c5 : Value) (y0 y1 y2 y3 y4 y5 : DataW H × List MemPlace) (n : Nat), v = .agg #[c0, c1, c2, c3, c4, c5] ∧ DataW.trod enc P w base spare held n f0.type [c0] = some y0 ∧ DataW.trod enc P w base spare held n f1.type [c1] = some y1 ∧ DataW.trod enc P w base spare held n f2.type [c2] = some y2 ∧ DataW.trod enc P w base spare held n f3.type [c3] = some y3 ∧ DataW.trod enc P w base spare held n f4.type [c4] = some y4 ∧ DataW.trod enc P w base spare held n f5.type [c5] = some y5 := by
  obtain ⟨cs, rfl, hsz⟩ := okWide_struct hs hv
  obtain ⟨c0, c1, c2, c3, c4, c5, rfl⟩ := array6 (hsz.trans hC)
  obtain ⟨fuel, hf⟩ := h
  obtain ⟨xs, n, _, _, _, hlen, hg⟩ := DataW.trod_struct hs hf
  obtain ⟨o0, k0⟩ := Go.Deep.hone_of hone 0 f0 rfl
  obtain ⟨o1, k1⟩ := Go.Deep.hone_of hone 1 f1 rfl
  obtain ⟨o2, k2⟩ := Go.Deep.hone_of hone 2 f2 rfl
  obtain ⟨o3, k3⟩ := Go.Deep.hone_of hone 3 f3 rfl
  obtain ⟨o4, k4⟩ := Go.Deep.hone_of hone 4 f4 rfl
  obtain ⟨o5, k5⟩ := Go.Deep.hone_of hone 5 f5 rfl
  match xs, hlen with
  | [y0, y1, y2, y3, y4, y5], _ =>
    have g0 := hg 0 f0 rfl
    have g1 := hg 1 f1 rfl
    have g2 := hg 2 f2 rfl
    have g3 := hg 3 f3 rfl
    have g4 := hg 4 f4 rfl
    have g5 := hg 5 f5 rfl
    exact ⟨c0, c1, c2, c3, c4, c5, y0, y1, y2, y3, y4, y5, n, rfl, by simpa [Value.cells, o0, k0] using g0, by simpa [Value.cells, o1, k1] using g1, by simpa [Value.cells, o2, k2] using g2, by simpa [Value.cells, o3, k3] using g3, by simpa [Value.cells, o4, k4] using g4, by simpa [Value.cells, o5, k5] using g5⟩
end

set_option maxRecDepth 100000 in
theorem open_bytesR {H : Type} {enc : TypeId × Value → H} {W : World} {v0 : Value} {y : DataW H × List MemPlace} {fuel : Nat}
    (hf : DataW.trod enc Tryz.prog W 0 (fun _ => true) true fuel 22 [v0] = some y) : ∃ l : List UInt8, HB W v0 l := by
  rcases open_ints Tryz.underlying22 Tryz.underlying5 (by kernel_rfl) hf with ⟨hcs, _⟩ | ⟨x, l, c, zs, hcs, hy, hl, hm, hz, hx, hcell, hwz⟩
  · simp only [List.cons.injEq, and_true] at hcs
    subst hcs
    exact ⟨[], HB.nil W⟩
  · simp only [List.cons.injEq, and_true] at hcs
    subst hcs
    have hzc : zs.length = c := by simpa using hz
    exact ⟨bytesOf (zs.take l), hb_cells hl hm hzc hcell hwz⟩

set_option maxRecDepth 100000 in
set_option maxHeartbeats 400000 in
theorem open_rowsR {H : Type} {enc : TypeId × Value → H} {W : World} {v0 : Value} {y : DataW H × List MemPlace} {fuel : Nat}
    (hf : DataW.trod enc Tryz.prog W 0 (fun _ => true) true fuel 23 [v0] = some y) :
    ∃ ls : List (List UInt8), PA W v0 ls := by
  rcases Go.Deep.open_int_rows Tryz.underlying23 Tryz.underlying22 Tryz.underlying5 (by kernel_rfl) (by kernel_rfl) hf with ⟨hcs, _⟩ | ⟨a, len, cap, A, L, C, Z, hcs, _, hl, hm, _, hx⟩
  · simp only [List.cons.injEq, and_true] at hcs
    subst hcs
    exact ⟨[], PA.nil W⟩
  · simp only [List.cons.injEq, and_true] at hcs
    subst hcs
    refine ⟨(List.range len).map fun r => bytesOf ((Z r).take (L r)), some a, cap, (List.range len).map fun r => .slice (A r) (L r) (C r), by simp, by simpa using hl, hm, (fun h => by cases h), by simp, fun hne => ?_, fun i x l hxi hli => ?_⟩
    · have hlen : 0 < len := by
        rcases Nat.eq_zero_or_pos len with h | h
        · subst h
          exact absurd rfl hne
        · exact h
      have hc0 := (hx 0 (by omega)).1
      obtain ⟨b, o, spot⟩ := a
      have hs : spot = none := by simpa [Addr.add] using World.cell?_spot hc0
      subst hs
      refine ⟨b, o, rfl, fun i x hxi => ?_⟩
      have hi : i < len := by
        have := (List.getElem?_eq_some_iff.1 hxi).1
        simpa using this
      have hc := (hx i (by omega)).1
      have ha : (⟨b, o, none⟩ : Addr).add i = ⟨b, o + i, none⟩ := by unfold Addr.add; split <;> simp_all
      rw [ha] at hc
      rw [hc]
      simp [hi] at hxi
      rw [hxi]
    · have hi : i < len := by
        have := (List.getElem?_eq_some_iff.1 hxi).1
        simpa using this
      simp [hi] at hxi hli
      subst hxi; subst hli
      obtain ⟨_, h1, h2, h3, h4, h5, h6⟩ := hx i (by omega)
      cases hA : A i with
      | none =>
        have hc := h5 hA
        have hL : L i = 0 := by omega
        rw [hL, hc]
        simp only [List.take_zero, bytesOf, List.map_nil]
        exact HB.nil W
      | some a' =>
        exact hb_cells h1 h2 h3 (fun j hj => (h6 a' hA).2 j (by omega)) h4

set_option maxRecDepth 100000 in
theorem open_rec {H : Type} {enc : TypeId × Value → H} {W : World} {base : Nat} {v0 : Value} {d0 : DataW H} {p0 : List MemPlace}
    (hval : Value.okWide Tryz.prog W .any base 25 v0) (h0 : DataW.Trod enc Tryz.prog W 0 (fun _ => true) true 25 v0 d0 p0) :
    ∃ (e t c : Int) (tv lv kv : Value) (tr li : List UInt8) (lk : List (List UInt8)), v0 = .agg #[.int .i64 e, .int .i64 t, tv, .int .i64 c, lv, kv] ∧ HB W tv tr ∧ HB W lv li ∧ PA W kv lk := by
  obtain ⟨c0, c1, c2, c3, c4, c5, y0, y1, y2, y3, y4, y5, n, rfl, t0, t1, t2, t3, t4, t5⟩ := open_agg6 Tryz.underlying25 (by kernel_rfl) (by kernel_rfl) hval h0
  obtain ⟨a0, e0, _, w0⟩ := DataW.trod_int Tryz.underlying3 t0
  obtain ⟨a1, e1, _, w1⟩ := DataW.trod_int Tryz.underlying3 t1
  obtain ⟨a3, e3, _, w3⟩ := DataW.trod_int Tryz.underlying3 t3
  obtain ⟨tr, h2⟩ := open_bytesR t2
  obtain ⟨li, h4⟩ := open_bytesR t4
  obtain ⟨lk, h5⟩ := open_rowsR t5
  obtain rfl : c0 = .int .i64 a0 := by simpa using e0
  obtain rfl : c1 = .int .i64 a1 := by simpa using e1
  obtain rfl : c3 = .int .i64 a3 := by simpa using e3
  exact ⟨a0, a1, a3, c2, c4, c5, tr, li, lk, rfl, h2, h4, h5⟩

end Go.Proofs.YtganajmhdpiipaaGreatDoor

namespace Go.Proofs.YtganajmhdpiipaaGreatDoor
open Go.ChangeShapes Go.WideShapes Go.ChangeAt Go.RowKit

theorem array9 {α : Type} {cs : Array α} (h : cs.size = 9) : ∃ c0 c1 c2 c3 c4 c5 c6 c7 c8, cs = #[c0, c1, c2, c3, c4, c5, c6, c7, c8] := by
  obtain ⟨l⟩ := cs
  match l, h with
  | [c0, c1, c2, c3, c4, c5, c6, c7, c8], _ => exact ⟨c0, c1, c2, c3, c4, c5, c6, c7, c8, rfl⟩

theorem cells_rec : Tryz.prog.cellsOf 25 = 6 := by kernel_rfl
theorem cells_sig : Tryz.prog.cellsOf 27 = 3 := by kernel_rfl
theorem cells_signed : Tryz.prog.cellsOf 29 = 9 := by kernel_rfl
theorem cells_int : Tryz.prog.cellsOf 3 = 1 := by kernel_rfl
theorem cells_bytes : Tryz.prog.cellsOf 22 = 1 := by kernel_rfl
theorem cells_rows : Tryz.prog.cellsOf 23 = 1 := by kernel_rfl

set_option maxRecDepth 100000 in
theorem trod_rec {H : Type} {enc : TypeId × Value → H} {W : World} {c0 c1 c2 c3 c4 c5 : Value} {y : DataW H × List MemPlace} {fuel : Nat}
    (hf : DataW.trod enc Tryz.prog W 0 (fun _ => true) true fuel 25 [c0, c1, c2, c3, c4, c5] = some y) :
    ∃ (e t c : Int) (tr li : List UInt8) (lk : List (List UInt8)), c0 = .int .i64 e ∧ c1 = .int .i64 t ∧ c3 = .int .i64 c ∧ HB W c2 tr ∧ HB W c4 li ∧ PA W c5 lk := by
  obtain ⟨xs, n, _, _, _, hlen, hg⟩ := DataW.trod_struct Tryz.underlying25 hf
  match xs, hlen with
  | [y0, y1, y2, y3, y4, y5], _ =>
    have t0 := hg 0 _ rfl
    have t1 := hg 1 _ rfl
    have t2 := hg 2 _ rfl
    have t3 := hg 3 _ rfl
    have t4 := hg 4 _ rfl
    have t5 := hg 5 _ rfl
    simp [cells_int, cells_bytes, cells_rows] at t0 t1 t2 t3 t4 t5
    obtain ⟨a0, e0, _, w0⟩ := DataW.trod_int Tryz.underlying3 t0
    obtain ⟨a1, e1, _, w1⟩ := DataW.trod_int Tryz.underlying3 t1
    obtain ⟨a3, e3, _, w3⟩ := DataW.trod_int Tryz.underlying3 t3
    obtain ⟨tr, h2⟩ := open_bytesR t2
    obtain ⟨li, h4⟩ := open_bytesR t4
    obtain ⟨lk, h5⟩ := open_rowsR t5
    exact ⟨a0, a1, a3, tr, li, lk, by simpa using e0, by simpa using e1, by simpa using e3, h2, h4, h5⟩

set_option maxRecDepth 100000 in
theorem trod_sig {H : Type} {enc : TypeId × Value → H} {W : World} {c0 c1 c2 : Value} {y : DataW H × List MemPlace} {fuel : Nat}
    (hf : DataW.trod enc Tryz.prog W 0 (fun _ => true) true fuel 27 [c0, c1, c2] = some y) :
    ∃ (idx : Int) (ls ps : List (List UInt8)), c0 = .int .i64 idx ∧ PA W c1 ls ∧ PA W c2 ps := by
  obtain ⟨xs, n, _, _, _, hlen, hg⟩ := DataW.trod_struct Tryz.underlying27 hf
  match xs, hlen with
  | [y0, y1, y2], _ =>
    have t0 := hg 0 _ rfl
    have t1 := hg 1 _ rfl
    have t2 := hg 2 _ rfl
    simp [cells_int, cells_rows] at t0 t1 t2
    obtain ⟨a0, e0, _, w0⟩ := DataW.trod_int Tryz.underlying3 t0
    obtain ⟨ls, h1⟩ := open_rowsR t1
    obtain ⟨ps, h2⟩ := open_rowsR t2
    exact ⟨a0, ls, ps, by simpa using e0, h1, h2⟩

set_option maxRecDepth 100000 in
theorem open_signed {H : Type} {enc : TypeId × Value → H} {W : World} {base : Nat} {v0 : Value} {d0 : DataW H} {p0 : List MemPlace}
    (hval : Value.okWide Tryz.prog W .any base 29 v0) (h0 : DataW.Trod enc Tryz.prog W 0 (fun _ => true) true 29 v0 d0 p0) :
    ∃ (e t c idx : Int) (tv lv kv cv pv : Value) (tr li : List UInt8) (lk ls ps : List (List UInt8)), v0 = .agg #[.int .i64 e, .int .i64 t, tv, .int .i64 c, lv, kv, .int .i64 idx, cv, pv] ∧ HB W tv tr ∧ HB W lv li ∧ PA W kv lk ∧ PA W cv ls ∧ PA W pv ps := by
  obtain ⟨cs, rfl, hsz⟩ := okWide_struct Tryz.underlying29 hval
  obtain ⟨c0, c1, c2, c3, c4, c5, c6, c7, c8, rfl⟩ := array9 (hsz.trans cells_signed)
  obtain ⟨fuel, hf⟩ := h0
  obtain ⟨y0, y1, n, _, _, t0, t1⟩ := trod_struct2 Tryz.underlying29 hf
  simp [Value.cells, cells_rec, cells_sig] at t0 t1
  obtain ⟨e, t, c, tr, li, lk, rfl, rfl, rfl, h1, h2, h3⟩ := trod_rec t0
  obtain ⟨idx, ls, ps, rfl, h4, h5⟩ := trod_sig t1
  exact ⟨e, t, c, idx, c2, c4, c5, c7, c8, tr, li, lk, ls, ps, rfl, h1, h2, h3, h4, h5⟩

end Go.Proofs.YtganajmhdpiipaaGreatDoor

namespace Go.Proofs.YtganajmhdpiipaaGreatDoor
open Go.RowKit

theorem awakeCan : canB 1 ⟨0, 0, 0, [1], [2], []⟩ = true := by decide +kernel
theorem awakeEnc : encL ⟨0, 0, 0, [1], [2], []⟩ = [0, 0, 1, 1, 1, 0, 1, 1, 2] := by decide +kernel

set_option maxRecDepth 100000 in
set_option maxHeartbeats 2000000 in
theorem rcAwake_any (w : World) (hTD : TD w) :
    Calls Tryz.prog 13 #[] w fun x w' => x = .returned (.bool true) ∧ Below w.heap.size w w' := by
  have b1 := (Below.refl w.heap.size w).alloc (Nat.le_refl _) (.cells #[.int .u8 1] 5)
  have l1 : HB (w.alloc (.cells #[.int .u8 1] 5)) (.slice (some ⟨w.heap.size, 0, none⟩) 1 1) [1] := HB.lit w 5 [1] _ 1 rfl rfl (by decide)
  have s1 : (w.alloc (.cells #[.int .u8 1] 5)).heap.size = w.heap.size + 1 := by simp
  have b2 := (Below.refl (w.heap.size + 1) (w.alloc (.cells #[.int .u8 1] 5))).alloc (by simp) (.cells #[.int .u8 2] 5)
  have l2 : HB ((w.alloc (.cells #[.int .u8 1] 5)).alloc (.cells #[.int .u8 2] 5)) (.slice (some ⟨w.heap.size + 1, 0, none⟩) 1 1) [2] := by
    have := HB.lit (w.alloc (.cells #[.int .u8 1] 5)) 5 [2] _ 1 rfl rfl (by decide)
    rw [s1] at this
    exact this
  have k1 := l1.later (by rw [s1]; exact b2)
  have bA := b1.trans (b2.mono (by omega))
  have hE := encode_yes 1 0 0 0 _ _ (.slice none 0 0) [1] [2] [] _ k1 l2 (PA.nil _) (hTD.later bA) awakeCan
  rw [awakeEnc] at hE
  have lit9 : ∀ u : World, HB (u.alloc (.cells #[.int .u8 0, .int .u8 0, .int .u8 1, .int .u8 1, .int .u8 1, .int .u8 0, .int .u8 1, .int .u8 1, .int .u8 2] 5)) (.slice (some ⟨u.heap.size, 0, none⟩) 9 9) [0, 0, 1, 1, 1, 0, 1, 1, 2] := fun u => HB.lit u 5 [0, 0, 1, 1, 1, 0, 1, 1, 2] _ 9 rfl rfl (by decide)
  obtain ⟨L, hL⟩ : ∃ L : List UInt8, L = [0, 0, 1, 1, 1, 0, 1, 1, 2] := ⟨_, rfl⟩
  rw [← hL] at hE
  simp only [← hL] at lit9
  clear l1 l2 s1 b1 b2 k1 hL hTD
  go_enter Tryz.func13, Tryz.ntmps13
  go_wp2_with fail
  refine hE.mono ?_
  rintro x w1 ⟨v1, rfl, h1, hb1⟩
  have bB := bA.trans (hb1.mono bA.size)
  clear hE bA hb1
  have bC := (Below.refl w1.heap.size w1).alloc (Nat.le_refl _) (.cells #[.int .u8 0, .int .u8 0, .int .u8 1, .int .u8 1, .int .u8 1, .int .u8 0, .int .u8 1, .int .u8 1, .int .u8 2] 5)
  have hQ := equal_t _ _ L L _ (h1.later bC) (lit9 w1) rfl
  have bD := bB.trans (bC.mono bB.size)
  obtain ⟨p1, c1, rfl⟩ := h1.shape
  clear h1 lit9 bB bC
  go_wp2_with fail
  refine hQ.mono ?_
  rintro x w2 ⟨rfl, hw⟩
  subst hw
  clear hQ
  go_wp2
  go_ret
  exact ⟨rfl, bD⟩

end Go.Proofs.YtganajmhdpiipaaGreatDoor

namespace Go.Proofs.YtganajmhdpiipaaGreatDoor
open Go.RowKit

set_option maxRecDepth 100000 in
set_option maxHeartbeats 4000000 in
theorem same13_true (e t c : Int) (ta tb la lb ka kb : Value) (tr li : List UInt8) (lk : List (List UInt8)) (w : World) (h1 : HB w ta tr) (h2 : HB w tb tr) (h3 : HB w la li) (h4 : HB w lb li) (h5 : PA w ka lk) (h6 : PA w kb lk) :
    Calls Tryz.prog 9 #[.agg #[.int .i64 e, .int .i64 t, ta, .int .i64 c, la, ka], .agg #[.int .i64 e, .int .i64 t, tb, .int .i64 c, lb, kb]] w fun x w' => x = .returned (.bool true) ∧ Below w.heap.size w w' := by
  obtain ⟨p1, c1, rfl⟩ := h1.shape
  obtain ⟨p2, c2, rfl⟩ := h2.shape
  obtain ⟨p3, c3, rfl⟩ := h3.shape
  obtain ⟨p4, c4, rfl⟩ := h4.shape
  obtain ⟨p5, c5, rfl⟩ := h5.shape
  obtain ⟨p6, c6, rfl⟩ := h6.shape
  have m1 := h5.len.2
  unfold maxLen at m1
  have bA := (Below.refl w.heap.size w).alloc (Nat.le_refl _) (.cells #[.int .i64 e, .int .i64 t, .slice p1 tr.length c1, .int .i64 c, .slice p3 li.length c3, .slice p5 lk.length c5] 25)
  have gA := heap_alloc_new w (.cells #[.int .i64 e, .int .i64 t, .slice p1 tr.length c1, .int .i64 c, .slice p3 li.length c3, .slice p5 lk.length c5] 25)
  have sA : (w.alloc (.cells #[.int .i64 e, .int .i64 t, .slice p1 tr.length c1, .int .i64 c, .slice p3 li.length c3, .slice p5 lk.length c5] 25)).heap.size = w.heap.size + 1 := by simp
  obtain ⟨V, hV⟩ : ∃ V, V = w.alloc (.cells #[.int .i64 e, .int .i64 t, .slice p1 tr.length c1, .int .i64 c, .slice p3 li.length c3, .slice p5 lk.length c5] 25) := ⟨_, rfl⟩
  rw [← hV] at bA gA sA
  have bB := (Below.refl V.heap.size V).alloc (Nat.le_refl _) (.cells #[.int .i64 e, .int .i64 t, .slice p2 tr.length c2, .int .i64 c, .slice p4 li.length c4, .slice p6 lk.length c6] 25)
  have gB := heap_alloc_new V (.cells #[.int .i64 e, .int .i64 t, .slice p2 tr.length c2, .int .i64 c, .slice p4 li.length c4, .slice p6 lk.length c6] 25)
  have gC := (bB.block _ (by omega)).trans gA
  rw [sA] at gB
  obtain ⟨X, hX⟩ : ∃ X, X = V.alloc (.cells #[.int .i64 e, .int .i64 t, .slice p2 tr.length c2, .int .i64 c, .slice p4 li.length c4, .slice p6 lk.length c6] 25) := ⟨_, rfl⟩
  rw [← hX] at bB gB gC
  have bX := bA.trans (bB.mono bA.size)
  have hX2 := hX
  rw [hV] at hX2
  have q1 := (h1.later bX).str (P := Tryz.prog) 22 5 9 Tryz.underlying22 Tryz.underlying5 Tryz.underlying9
  have q2 := (h2.later bX).str (P := Tryz.prog) 22 5 9 Tryz.underlying22 Tryz.underlying5 Tryz.underlying9
  have q3 := (h3.later bX).str (P := Tryz.prog) 22 5 9 Tryz.underlying22 Tryz.underlying5 Tryz.underlying9
  have q4 := (h4.later bX).str (P := Tryz.prog) 22 5 9 Tryz.underlying22 Tryz.underlying5 Tryz.underlying9
  have k5 := h5.later bX
  have k6 := h6.later bX
  have x0 : X.cell? ⟨w.heap.size, 0, none⟩ = some (.int .i64 e) := by rw [cell_of_row _ _ _ _ _ _ gC]; rfl
  have x1 : X.cell? ⟨w.heap.size, 1, none⟩ = some (.int .i64 t) := by rw [cell_of_row _ _ _ _ _ _ gC]; rfl
  have x2 : X.cell? ⟨w.heap.size, 2, none⟩ = some (.slice p1 tr.length c1) := by rw [cell_of_row _ _ _ _ _ _ gC]; rfl
  have x3 : X.cell? ⟨w.heap.size, 3, none⟩ = some (.int .i64 c) := by rw [cell_of_row _ _ _ _ _ _ gC]; rfl
  have x4 : X.cell? ⟨w.heap.size, 4, none⟩ = some (.slice p3 li.length c3) := by rw [cell_of_row _ _ _ _ _ _ gC]; rfl
  have x5 : X.cell? ⟨w.heap.size, 5, none⟩ = some (.slice p5 lk.length c5) := by rw [cell_of_row _ _ _ _ _ _ gC]; rfl
  have y0 : X.cell? ⟨w.heap.size + 1, 0, none⟩ = some (.int .i64 e) := by rw [cell_of_row _ _ _ _ _ _ gB]; rfl
  have y1 : X.cell? ⟨w.heap.size + 1, 1, none⟩ = some (.int .i64 t) := by rw [cell_of_row _ _ _ _ _ _ gB]; rfl
  have y2 : X.cell? ⟨w.heap.size + 1, 2, none⟩ = some (.slice p2 tr.length c2) := by rw [cell_of_row _ _ _ _ _ _ gB]; rfl
  have y3 : X.cell? ⟨w.heap.size + 1, 3, none⟩ = some (.int .i64 c) := by rw [cell_of_row _ _ _ _ _ _ gB]; rfl
  have y4 : X.cell? ⟨w.heap.size + 1, 4, none⟩ = some (.slice p4 li.length c4) := by rw [cell_of_row _ _ _ _ _ _ gB]; rfl
  have y5 : X.cell? ⟨w.heap.size + 1, 5, none⟩ = some (.slice p6 lk.length c6) := by rw [cell_of_row _ _ _ _ _ _ gB]; rfl
  rw [hX2] at q1 q2 q3 q4
  clear h1 h2 h3 h4 h5 h6 bA gA sA bB gB gC hX
  go_enter Tryz.func9, Tryz.ntmps9
  go_wp2
  rw [← hX2]
  clear q1 q2 q3 q4 hX2 hV x0 x1 x2 x3 x4 y0 y1 y2 y3 y4
  go_loopw [55] (fun j wr => ∃ k : Nat, k ≤ lk.length ∧ j = .int .i64 k ∧ Below X.heap.size X wr) (fun j _ => lk.length - (intOf j).toNat)
  case atStart => exact ⟨0, Nat.zero_le _, rfl, Below.refl _ _⟩
  case round =>
    obtain ⟨k, hk, rfl, hbe⟩ := hrel
    by_cases hlt : k < lk.length
    · obtain ⟨b1, o1, rfl⟩ := k5.addr (by omega)
      obtain ⟨b2, o2, rfl⟩ := k6.addr (by omega)
      obtain ⟨q6, d6, l, gl, ec, hl⟩ := (k5.later hbe).get k hlt
      obtain ⟨q7, d7, l2, gl2, ec2, hl2⟩ := (k6.later hbe).get k hlt
      have e12 : l2 = l := by
        have := gl2.out
        rw [gl.out] at this
        exact (Option.some.inj this).symm
      subst e12
      have a1 := cell_later hbe x5
      have a2 := cell_later hbe y5
      have hlt2 : (k : Int) < (lk.length : Int) := by omega
      have z3 := hl.str (P := Tryz.prog) 22 5 9 Tryz.underlying22 Tryz.underlying5 Tryz.underlying9
      have z4 := hl2.str (P := Tryz.prog) 22 5 9 Tryz.underlying22 Tryz.underlying5 Tryz.underlying9
      have z1 := (hl.later ((Below.refl _ wr).drew)).str (P := Tryz.prog) 22 5 9 Tryz.underlying22 Tryz.underlying5 Tryz.underlying9
      have z2 := (hl2.later ((Below.refl _ wr).drew)).str (P := Tryz.prog) 22 5 9 Tryz.underlying22 Tryz.underlying5 Tryz.underlying9
      clear gl gl2
      go_wp2
      go_region
      all_goals
        go_wp2
        go_roundw
      all_goals first | exact ⟨k + 1, by omega, by go_num, hbe.drew⟩ | ((repeat apply Exists.intro); exact ⟨⟨k + 1, by omega, by go_num, hbe.drew⟩, rfl⟩) | (simp [intOf]; omega)
    · have hb := bX.trans (hbe.mono bX.size)
      go_wp2
      go_ret
      exact ⟨rfl, hb⟩

end Go.Proofs.YtganajmhdpiipaaGreatDoor

namespace Go.Proofs.YtganajmhdpiipaaGreatDoor
open Go.RowKit

set_option maxRecDepth 100000 in
set_option maxHeartbeats 4000000 in
theorem rsame_true (idx : Int) (ca cb pa pb : Value) (ls ps : List (List UInt8)) (w : World) (h1 : PA w ca ls) (h2 : PA w cb ls) (h3 : PA w pa ps) (h4 : PA w pb ps) :
    Calls Tryz.prog 10 #[.agg #[.int .i64 idx, ca, pa], .agg #[.int .i64 idx, cb, pb]] w fun e w' => e = .returned (.bool true) ∧ Below w.heap.size w w' := by
  obtain ⟨p1, c1, rfl⟩ := h1.shape
  obtain ⟨p2, c2, rfl⟩ := h2.shape
  obtain ⟨p3, c3, rfl⟩ := h3.shape
  obtain ⟨p4, c4, rfl⟩ := h4.shape
  go_enter Tryz.func10, Tryz.ntmps10
  have HL : Hid (ls.length = ls.length) := rfl
  obtain ⟨N, hN⟩ : ∃ N, ls.length = N := ⟨_, rfl⟩
  obtain ⟨M, hM⟩ : ∃ M, ps.length = M := ⟨_, rfl⟩
  have HN : Hid (ls.length = N) := hN
  have HM : Hid (ps.length = M) := hM
  have m1 := h1.len.2
  have m3 := h3.len.2
  unfold maxLen at m1 m3
  rw [hN] at h1 h2 m1 ⊢
  rw [hM] at h3 h4 m3 ⊢
  clear hN hM HL
  go_wp2
  have bW := ((Below.refl _ w).alloc (Nat.le_refl _) (.cells #[.int .i64 idx, .slice p1 N c1, .slice p3 M c3] 27)).alloc (by simp) (.cells #[.int .i64 idx, .slice p2 N c2, .slice p4 M c4] 27)
  have g1 : ((w.alloc (.cells #[.int .i64 idx, .slice p1 N c1, .slice p3 M c3] 27)).alloc (.cells #[.int .i64 idx, .slice p2 N c2, .slice p4 M c4] 27)).heap[w.heap.size]? = some (.cells #[.int .i64 idx, .slice p1 N c1, .slice p3 M c3] 27 (0, 0)) := by
    rw [((Below.refl (w.heap.size + 1) (w.alloc (.cells #[.int .i64 idx, .slice p1 N c1, .slice p3 M c3] 27))).alloc (by simp) (.cells #[.int .i64 idx, .slice p2 N c2, .slice p4 M c4] 27)).block w.heap.size (by omega)]
    exact heap_alloc_new w _
  have g2 : ((w.alloc (.cells #[.int .i64 idx, .slice p1 N c1, .slice p3 M c3] 27)).alloc (.cells #[.int .i64 idx, .slice p2 N c2, .slice p4 M c4] 27)).heap[w.heap.size + 1]? = some (.cells #[.int .i64 idx, .slice p2 N c2, .slice p4 M c4] 27 (0, 0)) := by
    have := heap_alloc_new (w.alloc (.cells #[.int .i64 idx, .slice p1 N c1, .slice p3 M c3] 27)) (.cells #[.int .i64 idx, .slice p2 N c2, .slice p4 M c4] 27)
    simpa using this
  generalize (w.alloc (.cells #[.int .i64 idx, .slice p1 N c1, .slice p3 M c3] 27)).alloc (.cells #[.int .i64 idx, .slice p2 N c2, .slice p4 M c4] 27) = W at *
  have s1 := cell_of_row _ w.heap.size 1 _ _ _ g1
  have s3 := cell_of_row _ w.heap.size 2 _ _ _ g1
  have s2 := cell_of_row _ (w.heap.size + 1) 1 _ _ _ g2
  have s4 := cell_of_row _ (w.heap.size + 1) 2 _ _ _ g2
  simp at s1 s2 s3 s4
  clear g1 g2
  go_loopw [33] (fun j wr => ∃ k : Nat, k ≤ N ∧ j = .int .i64 k ∧ Below W.heap.size W wr) (fun j _ => N - (intOf j).toNat)
  case atStart => exact ⟨0, Nat.zero_le _, rfl, Below.refl _ _⟩
  case round =>
    obtain ⟨k, hk, rfl, hbe⟩ := hrel
    have hb0r := bW.trans (hbe.mono bW.size)
    by_cases hlt : k < N
    · obtain ⟨b1, o1, rfl⟩ := h1.addr (by omega)
      obtain ⟨b2, o2, rfl⟩ := h2.addr (by omega)
      obtain ⟨q6, k6, l, gl, ec, hl⟩ := (h1.later hb0r).get k hlt
      obtain ⟨q7, k7, l2, gl2, ec2, hl2⟩ := (h2.later hb0r).get k hlt
      have e12 : l2 = l := by
        have := gl2.out
        rw [gl.out] at this
        exact (Option.some.inj this).symm
      subst e12
      have x1 := cell_later hbe s1
      have x2 := cell_later hbe s2
      have hlt2 : (k : Int) < (N : Int) := by omega
      have y1 := hl.str (P := Tryz.prog) 22 5 9 Tryz.underlying22 Tryz.underlying5 Tryz.underlying9
      have y2 := hl2.str (P := Tryz.prog) 22 5 9 Tryz.underlying22 Tryz.underlying5 Tryz.underlying9
      have z1 := (hl.later ((Below.refl _ wr).drew)).str (P := Tryz.prog) 22 5 9 Tryz.underlying22 Tryz.underlying5 Tryz.underlying9
      have z2 := (hl2.later ((Below.refl _ wr).drew)).str (P := Tryz.prog) 22 5 9 Tryz.underlying22 Tryz.underlying5 Tryz.underlying9
      clear gl gl2
      go_wp2
      go_region
      all_goals
        go_wp2
        go_roundw
      all_goals first | exact ⟨k + 1, by omega, by go_num, hbe.drew⟩ | ((repeat apply Exists.intro); exact ⟨⟨k + 1, by omega, by go_num, hbe.drew⟩, rfl⟩) | (simp [intOf]; omega)
    · have x3 := cell_later hbe s3
      obtain rfl : N = k := by omega
      clear hlt hk hb0r
      go_wp2
      go_loopw [53] (fun j wr => ∃ k : Nat, k ≤ M ∧ j = .int .i64 k ∧ Below W.heap.size W wr) (fun j _ => M - (intOf j).toNat)
      case atStart => exact ⟨0, Nat.zero_le _, rfl, hbe⟩
      case round =>
        clear hbe x3
        obtain ⟨k, hk, rfl, hbe⟩ := hrel
        have hb0r := bW.trans (hbe.mono bW.size)
        by_cases hlt : k < M
        · obtain ⟨b3, o3, rfl⟩ := h3.addr (by omega)
          obtain ⟨b4, o4, rfl⟩ := h4.addr (by omega)
          obtain ⟨q6, k6, l, gl, ec, hl⟩ := (h3.later hb0r).get k hlt
          obtain ⟨q7, k7, l2, gl2, ec2, hl2⟩ := (h4.later hb0r).get k hlt
          have e12 : l2 = l := by
            have := gl2.out
            rw [gl.out] at this
            exact (Option.some.inj this).symm
          subst e12
          have x1 := cell_later hbe s3
          have x2 := cell_later hbe s4
          have hlt2 : (k : Int) < (M : Int) := by omega
          have y1 := hl.str (P := Tryz.prog) 22 5 9 Tryz.underlying22 Tryz.underlying5 Tryz.underlying9
          have y2 := hl2.str (P := Tryz.prog) 22 5 9 Tryz.underlying22 Tryz.underlying5 Tryz.underlying9
          have z1 := (hl.later ((Below.refl _ wr).drew)).str (P := Tryz.prog) 22 5 9 Tryz.underlying22 Tryz.underlying5 Tryz.underlying9
          have z2 := (hl2.later ((Below.refl _ wr).drew)).str (P := Tryz.prog) 22 5 9 Tryz.underlying22 Tryz.underlying5 Tryz.underlying9
          clear gl gl2
          go_wp2
          go_region
          all_goals
            go_wp2
            go_roundw
          all_goals first | exact ⟨k + 1, by omega, by go_num, hbe.drew⟩ | ((repeat apply Exists.intro); exact ⟨⟨k + 1, by omega, by go_num, hbe.drew⟩, rfl⟩) | (simp [intOf]; omega)
        · obtain rfl : M = k := by omega
          go_wp2
          go_ret
          exact ⟨rfl, hb0r⟩

end Go.Proofs.YtganajmhdpiipaaGreatDoor
