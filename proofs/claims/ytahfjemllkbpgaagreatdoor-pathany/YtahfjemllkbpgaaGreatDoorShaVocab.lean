/- What this text proves: facts about words of 32 bits as the walks write them, and about arrays of words in memory; no program is named. -/
import Derived.Test.YtahfjemllkbpgaaGreatDoorVocab
import Derived.Test.YtahfjemllkbpgaaGreatDoorShaPlain
namespace Go.Proofs.YtahfjemllkbpgaaGreatDoor
open Go.RowKit

theorem ret_int {k : IntKind} {a b : Int} (h : a = b) : Ending.returned (.int k a) = .returned (.int k b) := by rw [h]

theorem w32 (x : UInt32) : x.toNat < 4294967296 := x.toNat_lt

theorem wrap32n (n : Nat) (h : n < 4294967296) : IntKind.u32.wrap (n : Int) = (n : Int) := by rw [IntKind.wrap_u32]; omega

theorem wraps_u32 (n : Int) (h₀ : 0 ≤ n) (h₁ : n < 2 ^ 32) : IntKind.u32.wrap n = n := by rw [IntKind.wrap_u32]; omega
theorem b_and (a b : Nat) (ha : a < 4294967296) (hb : b < 4294967296) : bits .and .u32 (a : Int) (b : Int) = ((a &&& b : Nat) : Int) := (bits_nat .u32 32 (by decide) wraps_u32 a b ha hb).1
theorem b_or (a b : Nat) (ha : a < 4294967296) (hb : b < 4294967296) : bits .or .u32 (a : Int) (b : Int) = ((a ||| b : Nat) : Int) := (bits_nat .u32 32 (by decide) wraps_u32 a b ha hb).2
theorem b_xor (a b : Nat) (ha : a < 4294967296) (hb : b < 4294967296) : bits .xor .u32 (a : Int) (b : Int) = ((a ^^^ b : Nat) : Int) := by
  have ha' : a % 2 ^ IntKind.u32.bits = a := Nat.mod_eq_of_lt ha
  have hb' : b % 2 ^ IntKind.u32.bits = b := Nat.mod_eq_of_lt hb
  simp only [bits, BitVec.ofInt_natCast, BitVec.toNat_xor, BitVec.toNat_ofNat, ha', hb']
  exact wrap32n _ (Nat.xor_lt_two_pow (n := 32) ha hb)

theorem xor_lt (a b : Nat) (ha : a < 4294967296) (hb : b < 4294967296) : a ^^^ b < 4294967296 := Nat.xor_lt_two_pow (n := 32) ha hb
theorem and_lt (a b : Nat) (hb : b < 4294967296) : a &&& b < 4294967296 := Nat.and_lt_two_pow (n := 32) _ hb
theorem or_lt (a b : Nat) (ha : a < 4294967296) (hb : b < 4294967296) : a ||| b < 4294967296 := Nat.or_lt_two_pow (n := 32) ha hb

theorem ofNat32 (n : Nat) (h : n < 4294967296) : (UInt32.ofNat n).toNat = n := by
  simp
  omega
theorem ofNat32m (n : Nat) : (UInt32.ofNat n).toNat = n % 4294967296 := by simp

/-- A word as a cell. -/
def wc (x : UInt32) : Value := .int .u32 (x.toNat : Int)
def wcs (L : List UInt32) : List Value := L.map wc
theorem wcs_length (L : List UInt32) : (wcs L).length = L.length := by simp [wcs]
theorem wcs_one (L : List UInt32) : (wcs L).toArray.all (·.oneCell') = true := by
  simp only [List.all_toArray, List.all_eq_true]
  intro u hu
  obtain ⟨_, _, rfl⟩ := List.mem_map.1 hu
  rfl

/-- Block g is an array of the words L. -/
def AR (w : World) (g : Nat) (t : TypeId) (L : List UInt32) : Prop := w.heap[g]? = some (.cells (wcs L).toArray t (0, 0))

section
variable {w : World} {g : Nat} {t : TypeId} {L : List UInt32}

theorem AR.cell (h : AR w g t L) (j : Nat) (x : UInt32) (hj : L[j]? = some x) : w.cell? ⟨g, j, none⟩ = some (.int .u32 (x.toNat : Int)) := by
  rw [cell_of_row w g j _ t _ h]
  simp [wcs, hj, wc]
theorem AR.free (h : AR w g t L) (j : Nat) : w.frozen? ⟨g, j, none⟩ = false := frozen_of_row w g j _ t h
theorem AR.put (h : AR w g t L) (j : Nat) (x : UInt32) (v : Value) (hv : v = wc x) : AR (w.setCell ⟨g, j, none⟩ v) g t (L.set j x) := by
  subst hv
  unfold AR
  rw [heap_setCell_same w g j _ t _ h]
  congr 2
  apply Array.ext'
  simp [wcs, List.map_set]
theorem AR.other (h : AR w g t L) (a : Addr) (v : Value) (hne : g ≠ a.block) : AR (w.setCell a v) g t L := by
  unfold AR
  rw [heap_setCell_other w a g v hne]
  exact h
theorem AR.lt (h : AR w g t L) : g < w.heap.size := (Array.getElem?_eq_some_iff.1 h).1
theorem AR.later {w' : World} (h : AR w g t L) (hb : Below w.heap.size w w') : AR w' g t L := by
  unfold AR
  rw [hb.block g h.lt]
  exact h
theorem AR.laterB {w' : World} {B : Nat} (h : AR w g t L) (hb : Below B w w') (hg : g < B) : AR w' g t L := by
  unfold AR
  rw [hb.block g hg]
  exact h
theorem AR.alloc (h : AR w g t L) (o : Obj) : AR (w.alloc o) g t L := by
  unfold AR
  rw [Below.heap_alloc w o g h.lt]
  exact h
theorem AR.row (h : AR w g t L) (L' : List UInt32) : AR (w.setRow g (wcs L').toArray) g t L' := setRow_heap w g _ _ t _ h
theorem AR.rowOther (h : AR w g t L) (k : Nat) (cs : Array Value) (hne : g ≠ k) : AR (w.setRow k cs) g t L := by
  unfold AR
  rw [setRow_other w k g cs hne]
  exact h
theorem AR.drew (h : AR w g t L) : AR w.drew g t L := h
end
theorem AR.new (w : World) (t : TypeId) (L : List UInt32) (cs : Array Value) (h : cs = (wcs L).toArray) : AR (w.alloc (.cells cs t)) w.heap.size t L := by
  subst h
  exact heap_alloc_new w _

theorem Below.row {B g : Nat} {w0 w : World} (hb : Below B w0 w) (hBg : B ≤ g) (cs : Array Value) : Below B w0 (w.setRow g cs) := below_setRow hb hBg cs

theorem grownBy_row (w : World) (g : Nat) (cs : Array Value) : w.grownBy (w.setRow g cs) (some g) :=
  ⟨rfl, rfl, rfl, by simp [World.setRow], fun k _ hne => setRow_other w g k cs (fun e => hne (by rw [e]))⟩

/-- A whole array of words stored: the world behind it by a name. -/
theorem wpList_store_ar {P : Program} {ops : Array Oper} {rest : List Oper} {o : Oper} {a : Act} {w : World} {Q : Exit → Act → World → Prop} (hgd : o.guard = none) (ty : TypeId) (x y : Operand) (ho : o.op = .store ty x y)
    (g : Nat) (L : List UInt32) (hx : a.eval x = .pointer (some ⟨g, 0, none⟩)) (hy : a.eval y = .agg (wcs L).toArray)
    (t : TypeId) (old : Array Value) (hg : w.heap[g]? = some (.cells old t (0, 0))) (hi : (P.info? ty).map (·.size) = some L.length)
    (hold : old.size = L.length)
    (h : ∀ w', AR w' g t L → w.grownBy w' (some g) → wpList P ops Q rest (a.put o.dst undef) w') : wpList P ops Q (o :: rest) a w :=
  wpList_store_row hgd ty x y ho g _ hx hy t old hg (by rw [hi]; simp [wcs]) (by rw [hold]; simp [wcs]) (wcs_one L) (h _ (setRow_heap w g old _ t _ hg) (grownBy_row w g _))

theorem AR.grown {w w' : World} {g k : Nat} {t : TypeId} {L : List UInt32} (h : AR w g t L) (hg : w.grownBy w' (some k)) (hne : g ≠ k) : AR w' g t L := by
  unfold AR
  rw [hg.block g h.lt (fun e => hne (by simpa using e))]
  exact h

theorem all8 (a b c d e f g h : Int) : (#[Value.int .u32 a, .int .u32 b, .int .u32 c, .int .u32 d, .int .u32 e, .int .u32 f, .int .u32 g, .int .u32 h]).all (·.oneCell') = true := by
  simp [Value.oneCell']

end Go.Proofs.YtahfjemllkbpgaaGreatDoor
