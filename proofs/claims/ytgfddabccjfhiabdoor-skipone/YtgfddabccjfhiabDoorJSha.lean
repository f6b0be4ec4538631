/- What this text holds: SHA-256 as a plain function on lists of bytes (FIPS 180-4: words of 32 bits, the schedule, the rounds, the padding), and facts about it; no program is named. What this text proves: facts about words of 32 bits as the walks write them, and about arrays of words in memory; no program is named. What this text proves: the walks of bits.RotateLeft32 and of the document's 'right' over this program: a word turned right. -/
import Derived.Test.YtgfddabccjfhiabDoorJA
import Derived.Test.YtgfddabccjfhiabDoorRows
import Derived.WalkLawsBesides
import Derived.BigQuiet
namespace Go.Proofs.YtgfddabccjfhiabDoor

/-- A word turned right. -/
def rotr (x : UInt32) (n : Nat) : UInt32 := UInt32.ofNat (x.toNat / 2 ^ n ||| x.toNat * 2 ^ (32 - n) % 4294967296)
def ssig0 (x : UInt32) : UInt32 := UInt32.ofNat (((rotr x 7).toNat ^^^ (rotr x 18).toNat) ^^^ x.toNat / 8)
def ssig1 (x : UInt32) : UInt32 := UInt32.ofNat (((rotr x 17).toNat ^^^ (rotr x 19).toNat) ^^^ x.toNat / 1024)
def bsig0 (x : UInt32) : UInt32 := UInt32.ofNat (((rotr x 2).toNat ^^^ (rotr x 13).toNat) ^^^ (rotr x 22).toNat)
def bsig1 (x : UInt32) : UInt32 := UInt32.ofNat (((rotr x 6).toNat ^^^ (rotr x 11).toNat) ^^^ (rotr x 25).toNat)
def chf (e f g : UInt32) : UInt32 := UInt32.ofNat ((e.toNat &&& f.toNat) ^^^ ((4294967295 ^^^ e.toNat) &&& g.toNat))
def majf (a b c : UInt32) : UInt32 := UInt32.ofNat (((a.toNat &&& b.toNat) ^^^ (a.toNat &&& c.toNat)) ^^^ (b.toNat &&& c.toNat))

/-- The word at place i of a block. -/
def wordAt (l : List UInt8) (i : Nat) : UInt32 := UInt32.ofNat ((l.getD (4 * i) 0).toNat * 16777216 + (l.getD (4 * i + 1) 0).toNat * 65536 + (l.getD (4 * i + 2) 0).toNat * 256 + (l.getD (4 * i + 3) 0).toNat)

/-- The schedule's next word. -/
def nextW (l : List UInt8) (ws : List UInt32) : UInt32 :=
  if ws.length < 16 then wordAt l ws.length else
  UInt32.ofNat ((ws.getD (ws.length - 16) 0).toNat + (ssig0 (ws.getD (ws.length - 15) 0)).toNat + (ws.getD (ws.length - 7) 0).toNat + (ssig1 (ws.getD (ws.length - 2) 0)).toNat)

/-- The schedule's first n words. -/
def Wl (l : List UInt8) : Nat → List UInt32
  | 0 => []
  | n + 1 => Wl l n ++ [nextW l (Wl l n)]

theorem Wl_length (l : List UInt8) (n : Nat) : (Wl l n).length = n := by
  induction n with
  | zero => rfl
  | succ n ih => simp [Wl, ih]

/-- The round's numbers. -/
def kTab : List UInt32 := [1116352408, 1899447441, 3049323471, 3921009573, 961987163, 1508970993, 2453635748, 2870763221, 3624381080, 310598401, 607225278, 1426881987, 1925078388, 2162078206, 2614888103, 3248222580, 3835390401, 4022224774, 264347078, 604807628, 770255983, 1249150122, 1555081692, 1996064986, 2554220882, 2821834349, 2952996808, 3210313671, 3336571891, 3584528711, 113926993, 338241895, 666307205, 773529912, 1294757372, 1396182291, 1695183700, 1986661051, 2177026350, 2456956037, 2730485921, 2820302411, 3259730800, 3345764771, 3516065817, 3600352804, 4094571909, 275423344, 430227734, 506948616, 659060556, 883997877, 958139571, 1322822218, 1537002063, 1747873779, 1955562222, 2024104815, 2227730452, 2361852424, 2428436474, 2756734187, 3204031479, 3329325298]

/-- A state. -/
structure St where
  a : UInt32
  b : UInt32
  c : UInt32
  d : UInt32
  e : UInt32
  f : UInt32
  g : UInt32
  h : UInt32

def tOf (s : St) (k w : UInt32) : UInt32 := UInt32.ofNat (s.h.toNat + (bsig1 s.e).toNat + (chf s.e s.f s.g).toNat + k.toNat + w.toNat)
/-- A state behind a round. -/
def rnd (s : St) (k w : UInt32) : St :=
  ⟨UInt32.ofNat ((tOf s k w).toNat + (bsig0 s.a).toNat + (majf s.a s.b s.c).toNat), s.a, s.b, s.c, UInt32.ofNat (s.d.toNat + (tOf s k w).toNat), s.e, s.f, s.g⟩

/-- A state behind n rounds of a block. -/
def rds (s : St) (l : List UInt8) : Nat → St
  | 0 => s
  | n + 1 => rnd (rds s l n) (kTab.getD n 0) (nextW l (Wl l n))

def addw (x y : UInt32) : UInt32 := UInt32.ofNat (x.toNat + y.toNat)
def addSt (s t : St) : St := ⟨addw s.a t.a, addw s.b t.b, addw s.c t.c, addw s.d t.d, addw s.e t.e, addw s.f t.f, addw s.g t.g, addw s.h t.h⟩

/-- A state behind a block. -/
def mixF (s : St) (l : List UInt8) : St := addSt s (rds s l 64)

def startSt : St := ⟨1779033703, 3144134277, 1013904242, 2773480762, 1359893119, 2600822924, 528734635, 1541459225⟩

/-- A state behind n blocks of a text. -/
def mixes (s : St) (t : List UInt8) : Nat → St
  | 0 => s
  | n + 1 => mixF (mixes s t n) ((t.drop (64 * n)).take 64)

/-- A word's bytes. -/
def spellW (x : UInt32) : List UInt8 := [UInt8.ofNat (x.toNat / 16777216), UInt8.ofNat (x.toNat / 65536), UInt8.ofNat (x.toNat / 256), UInt8.ofNat x.toNat]
def spellSt (s : St) : List UInt8 := spellW s.a ++ spellW s.b ++ spellW s.c ++ spellW s.d ++ spellW s.e ++ spellW s.f ++ spellW s.g ++ spellW s.h

/-- A number's eight bytes, the highest first. -/
def be64 (n : Nat) : List UInt8 := (List.range 8).map fun j => UInt8.ofNat (n / 2 ^ (8 * (7 - j)))
theorem be64_length (n : Nat) : (be64 n).length = 8 := by simp [be64]

/-- How many blocks a text of n bytes is padded to. -/
def blocks (n : Nat) : Nat := (n + 72) / 64

/-- What stands behind a text of n bytes. -/
def padding (n : Nat) : List UInt8 := 128 :: (List.replicate (64 * blocks n - 9 - n) 0 ++ be64 (8 * n))

theorem padding_length (n : Nat) : n + (padding n).length = 64 * blocks n := by
  simp [padding, be64_length, blocks]
  omega

/-- SHA-256. -/
def sha (l : List UInt8) : List UInt8 := spellSt (mixes startSt (l ++ padding l.length) (blocks l.length))

theorem spellSt_length (s : St) : (spellSt s).length = 32 := by simp [spellSt, spellW]
theorem sha_length (l : List UInt8) : (sha l).length = 32 := spellSt_length _

/-- What stands behind the whole blocks of a text, behind k of its length's bytes (from the last one on): m bytes r, N all together, c the length in bits. -/
def padL (r : List UInt8) (N c k : Nat) : List UInt8 := r ++ 128 :: (List.replicate (N - 1 - r.length - k) 0 ++ (be64 c).drop (8 - k))

theorem padL_length (r : List UInt8) (N c k : Nat) (h : r.length + 9 ≤ N) (hk : k ≤ 8) : (padL r N c k).length = N := by
  simp [padL, be64_length]
  omega

theorem padL_start (r : List UInt8) (N c : Nat) (h : r.length + 9 ≤ N) : (r ++ List.replicate (N - r.length) 0).set r.length 128 = padL r N c 0 := by
  have e : N - r.length = (N - 1 - r.length) + 1 := by omega
  rw [e, List.replicate_succ, List.set_append_right _ _ (Nat.le_refl _), Nat.sub_self, List.set_cons_zero]
  simp [padL, be64]

theorem padL_step (r : List UInt8) (N c k : Nat) (h : r.length + 9 ≤ N) (hk : k < 8) : (padL r N c k).set (N - 1 - k) (UInt8.ofNat (c / 2 ^ (8 * k))) = padL r N c (k + 1) := by
  have e : N - 1 - r.length - k = (N - 1 - r.length - (k + 1)) + 1 := by omega
  have e2 : N - 1 - k - r.length = (N - 1 - r.length - (k + 1)) + 1 := by omega
  have e3 : (be64 c).drop (8 - (k + 1)) = UInt8.ofNat (c / 2 ^ (8 * k)) :: (be64 c).drop (8 - k) := by
    have hlt : 8 - (k + 1) < (be64 c).length := by rw [be64_length]; omega
    rw [List.drop_eq_getElem_cons hlt]
    have e4 : 8 - (k + 1) + 1 = 8 - k := by omega
    rw [e4]
    congr 1
    simp only [be64, List.getElem_map, List.getElem_range]
    have e5 : 7 - (8 - (k + 1)) = k := by omega
    rw [e5]
  unfold padL
  rw [List.set_append_right _ _ (by omega), e2, List.set_cons_succ, e, e3]
  rw [List.set_append_left _ _ (by simp)]
  congr 2
  rw [List.replicate_succ', List.set_append_right _ _ (by simp)]
  simp

/-- The bytes of the first k words, and noughts behind. -/
def spellL (L : List UInt32) (k : Nat) : List UInt8 := (L.take k).flatMap spellW ++ List.replicate (32 - 4 * k) 0

theorem flat_length (L : List UInt32) : (L.flatMap spellW).length = 4 * L.length := by
  induction L with
  | nil => rfl
  | cons x r ih =>
    rw [List.flatMap_cons, List.length_append, ih]
    simp [spellW]
    omega

theorem spellL_step (L : List UInt32) (k : Nat) (x : UInt32) (h : L[k]? = some x) (hk : k < 8) :
    ((((spellL L k).set (4 * k) (UInt8.ofNat (x.toNat / 16777216))).set (4 * k + 1) (UInt8.ofNat (x.toNat / 65536))).set (4 * k + 2) (UInt8.ofNat (x.toNat / 256))).set (4 * k + 3) (UInt8.ofNat x.toNat) = spellL L (k + 1) := by
  have hlt : k < L.length := (List.getElem?_eq_some_iff.1 h).1
  have hA : ((L.take k).flatMap spellW).length = 4 * k := by
    rw [flat_length, List.length_take]
    omega
  have e : 32 - 4 * k = (32 - 4 * (k + 1)) + 1 + 1 + 1 + 1 := by omega
  unfold spellL
  rw [List.take_add_one, h, Option.toList_some, List.flatMap_append, e]
  generalize (L.take k).flatMap spellW = A at *
  rw [← hA]
  simp only [List.replicate_succ, List.set_append_right _ _ (Nat.le_refl _), List.set_append_right _ _ (Nat.le_add_right _ _), Nat.sub_self, Nat.add_sub_cancel_left, List.set_cons_zero, List.set_cons_succ]
  simp [spellW]

end Go.Proofs.YtgfddabccjfhiabDoor

namespace Go.Proofs.YtgfddabccjfhiabDoor
open Go.RowKit

theorem ret_int {k : IntKind} {a b : Int} (h : a = b) : Ending.returned (.int k a) = .returned (.int k b) := by rw [h]

theorem w32 (x : UInt32) : x.toNat < 4294967296 := x.toNat_lt

theorem wrap32n (n : Nat) (h : n < 4294967296) : IntKind.u32.wrap (n : Int) = (n : Int) := by rw [IntKind.wrap_u32]; omega

theorem wraps_u32 (n : Int) (h₀ : 0 ≤ n) (h₁ : n < 2 ^ 32) : IntKind.u32.wrap n = n := by rw [IntKind.wrap_u32]; omega
theorem b_and (a b : Nat) (ha : a < 4294967296) (hb : b < 4294967296) : bits .and .u32 (a : Int) (b : Int) = ((a &&& b : Nat) : Int) := (bits_nat .u32 32 (by decide) wraps_u32 a b ha hb).1
theorem b_or (a b : Nat) (ha : a < 4294967296) (hb : b < 4294967296) : bits .or .u32 (a : Int) (b : Int) = ((a ||| b : Nat) : Int) := (bits_nat .u32 32 (by decide) wraps_u32 a b ha hb).2
theorem b_xor (a b : Nat) (ha : a < 4294967296) (hb : b < 4294967296) : bits .xor .u32 (a : Int) (b : Int) = ((a ^^^ b : Nat) : Int) := by
  have ha' : a % 2 ^ IntKind.u32.bits = a := Nat.mod_eq_of_lt ha
  have hb' : b % 2 ^ IntKind.u32.bits = b := Nat.mod_eq_of_lt hb
  simp only [bits, BitVec.ofInt_natCast, BitVec.toNat_xor, BitVec.toNat_ofNat, ha', hb']
  exact wrap32n _ (Nat.xor_lt_two_pow (n := 32) ha hb)

theorem xor_lt (a b : Nat) (ha : a < 4294967296) (hb : b < 4294967296) : a ^^^ b < 4294967296 := Nat.xor_lt_two_pow (n := 32) ha hb
theorem and_lt (a b : Nat) (hb : b < 4294967296) : a &&& b < 4294967296 := Nat.and_lt_two_pow (n := 32) _ hb
theorem or_lt (a b : Nat) (ha : a < 4294967296) (hb : b < 4294967296) : a ||| b < 4294967296 := Nat.or_lt_two_pow (n := 32) ha hb

theorem ofNat32 (n : Nat) (h : n < 4294967296) : (UInt32.ofNat n).toNat = n := by
  simp
  omega
theorem ofNat32m (n : Nat) : (UInt32.ofNat n).toNat = n % 4294967296 := by simp

/-- A word as a cell. -/
def wc (x : UInt32) : Value := .int .u32 (x.toNat : Int)
def wcs (L : List UInt32) : List Value := L.map wc
theorem wcs_length (L : List UInt32) : (wcs L).length = L.length := by simp [wcs]
theorem wcs_one (L : List UInt32) : (wcs L).toArray.all (·.oneCell') = true := by
  simp only [List.all_toArray, List.all_eq_true]
  intro u hu
  obtain ⟨_, _, rfl⟩ := List.mem_map.1 hu
  rfl

/-- Block g is an array of the words L. -/
def AR (w : World) (g : Nat) (t : TypeId) (L : List UInt32) : Prop := w.heap[g]? = some (.cells (wcs L).toArray t (0, 0))

section
variable {w : World} {g : Nat} {t : TypeId} {L : List UInt32}

theorem AR.cell (h : AR w g t L) (j : Nat) (x : UInt32) (hj : L[j]? = some x) : w.cell? ⟨g, j, none⟩ = some (.int .u32 (x.toNat : Int)) := by
  rw [cell_of_row w g j _ t _ h]
  simp [wcs, hj, wc]
theorem AR.free (h : AR w g t L) (j : Nat) : w.frozen? ⟨g, j, none⟩ = false := frozen_of_row w g j _ t h
theorem AR.put (h : AR w g t L) (j : Nat) (x : UInt32) (v : Value) (hv : v = wc x) : AR (w.setCell ⟨g, j, none⟩ v) g t (L.set j x) := by
  subst hv
  unfold AR
  rw [heap_setCell_same w g j _ t _ h]
  congr 2
  apply Array.ext'
  simp [wcs, List.map_set]
theorem AR.other (h : AR w g t L) (a : Addr) (v : Value) (hne : g ≠ a.block) : AR (w.setCell a v) g t L := by
  unfold AR
  rw [heap_setCell_other w a g v hne]
  exact h
theorem AR.lt (h : AR w g t L) : g < w.heap.size := (Array.getElem?_eq_some_iff.1 h).1
theorem AR.later {w' : World} (h : AR w g t L) (hb : Below w.heap.size w w') : AR w' g t L := by
  unfold AR
  rw [hb.block g h.lt]
  exact h
theorem AR.laterB {w' : World} {B : Nat} (h : AR w g t L) (hb : Below B w w') (hg : g < B) : AR w' g t L := by
  unfold AR
  rw [hb.block g hg]
  exact h
theorem AR.alloc (h : AR w g t L) (o : Obj) : AR (w.alloc o) g t L := by
  unfold AR
  rw [Below.heap_alloc w o g h.lt]
  exact h
theorem AR.row (h : AR w g t L) (L' : List UInt32) : AR (w.setRow g (wcs L').toArray) g t L' := setRow_heap w g _ _ t _ h
theorem AR.rowOther (h : AR w g t L) (k : Nat) (cs : Array Value) (hne : g ≠ k) : AR (w.setRow k cs) g t L := by
  unfold AR
  rw [setRow_other w k g cs hne]
  exact h
theorem AR.drew (h : AR w g t L) : AR w.drew g t L := h
end
theorem AR.new (w : World) (t : TypeId) (L : List UInt32) (cs : Array Value) (h : cs = (wcs L).toArray) : AR (w.alloc (.cells cs t)) w.heap.size t L := by
  subst h
  exact heap_alloc_new w _

theorem Below.row {B g : Nat} {w0 w : World} (hb : Below B w0 w) (hBg : B ≤ g) (cs : Array Value) : Below B w0 (w.setRow g cs) := below_setRow hb hBg cs

theorem grownBy_row (w : World) (g : Nat) (cs : Array Value) : w.grownBy (w.setRow g cs) (some g) :=
  ⟨rfl, rfl, rfl, by simp [World.setRow], fun k _ hne => setRow_other w g k cs (fun e => hne (by rw [e]))⟩

/-- A whole array of words stored: the world behind it by a name. -/
theorem wpList_store_ar {P : Program} {ops : Array Oper} {rest : List Oper} {o : Oper} {a : Act} {w : World} {Q : Exit → Act → World → Prop} (hgd : o.guard = none) (ty : TypeId) (x y : Operand) (ho : o.op = .store ty x y)
    (g : Nat) (L : List UInt32) (hx : a.eval x = .pointer (some ⟨g, 0, none⟩)) (hy : a.eval y = .agg (wcs L).toArray)
    (t : TypeId) (old : Array Value) (hg : w.heap[g]? = some (.cells old t (0, 0))) (hi : (P.info? ty).map (·.size) = some L.length)
    (hold : old.size = L.length)
    (h : ∀ w', AR w' g t L → w.grownBy w' (some g) → wpList P ops Q rest (a.put o.dst undef) w') : wpList P ops Q (o :: rest) a w :=
  wpList_store_row hgd ty x y ho g _ hx hy t old hg (by rw [hi]; simp [wcs]) (by rw [hold]; simp [wcs]) (wcs_one L) (h _ (setRow_heap w g old _ t _ hg) (grownBy_row w g _))

theorem AR.grown {w w' : World} {g k : Nat} {t : TypeId} {L : List UInt32} (h : AR w g t L) (hg : w.grownBy w' (some k)) (hne : g ≠ k) : AR w' g t L := by
  unfold AR
  rw [hg.block g h.lt (fun e => hne (by simpa using e))]
  exact h

theorem all8 (a b c d e f g h : Int) : (#[Value.int .u32 a, .int .u32 b, .int .u32 c, .int .u32 d, .int .u32 e, .int .u32 f, .int .u32 g, .int .u32 h]).all (·.oneCell') = true := by
  simp [Value.oneCell']

end Go.Proofs.YtgfddabccjfhiabDoor

namespace Go.Proofs.YtgfddabccjfhiabDoor
open Go.RowKit

theorem rot_eq (x : UInt32) (n : Nat) :
    bits .or .u32 ((x.toNat : Int) * 2 ^ (32 - n) % 4294967296) ((x.toNat : Int) / 2 ^ n) = ((rotr x n).toNat : Int) ∧
    bits .or .u32 ((x.toNat : Int) / 2 ^ n) ((x.toNat : Int) * 2 ^ (32 - n) % 4294967296) = ((rotr x n).toNat : Int) := by
  have hx := w32 x
  have ha : x.toNat / 2 ^ n < 4294967296 := Nat.lt_of_le_of_lt (Nat.div_le_self _ _) hx
  have hb : x.toNat * 2 ^ (32 - n) % 4294967296 < 4294967296 := Nat.mod_lt _ (by decide)
  have e1 : (x.toNat : Int) / 2 ^ n = ((x.toNat / 2 ^ n : Nat) : Int) := by simp
  have e2 : (x.toNat : Int) * 2 ^ (32 - n) % 4294967296 = ((x.toNat * 2 ^ (32 - n) % 4294967296 : Nat) : Int) := by simp
  rw [e1, e2, b_or _ _ hb ha, b_or _ _ ha hb]
  unfold rotr
  rw [ofNat32 _ (or_lt _ _ ha hb), Nat.or_comm]
  exact ⟨rfl, rfl⟩

set_option maxRecDepth 100000 in
set_option maxHeartbeats 400000 in
theorem rotl_any (x : UInt32) (k : Int) (n : Nat) (h1 : 1 ≤ n) (h2 : n ≤ 31) (hk : bits BinOp.and IntKind.u64 (IntKind.u64.wrap k) 31 = ((32 - n : Nat) : Int)) (w : World) :
    Calls Tryd.prog 61 #[.int .u32 (x.toNat : Int), .int .i64 k] w fun e w' => e = .returned (.int .u32 ((rotr x n).toNat : Int)) ∧ w' = w := by
  have hx := w32 x
  have HE := rot_eq x n
  obtain ⟨m, hm⟩ : ∃ m, m = 32 - n := ⟨_, rfl⟩
  have hn : n = 32 - m := by omega
  rw [← hm] at hk HE
  have HH : Hid (bits .or .u32 ((x.toNat : Int) * 2 ^ m % 4294967296) ((x.toNat : Int) / 2 ^ n) = ((rotr x n).toNat : Int)) := HE.1
  clear HE
  have hm1 : m ≤ 31 := by omega
  have hm2 : 1 ≤ m := by omega
  clear hm h1 h2
  subst hn
  go_enter Tryd.func61, Tryd.ntmps61
  go_wp2
  go_ret
  exact ⟨ret_int HH.out, rfl⟩

theorem rot7 (x : UInt32) (w : World) : Calls Tryd.prog 61 #[.int .u32 (x.toNat : Int), .int .i64 (-7)] w fun e w' => e = .returned (.int .u32 ((rotr x 7).toNat : Int)) ∧ w' = w := rotl_any x (-7) 7 (by decide) (by decide) (by kernel_rfl) w
theorem rot18 (x : UInt32) (w : World) : Calls Tryd.prog 61 #[.int .u32 (x.toNat : Int), .int .i64 (-18)] w fun e w' => e = .returned (.int .u32 ((rotr x 18).toNat : Int)) ∧ w' = w := rotl_any x (-18) 18 (by decide) (by decide) (by kernel_rfl) w
theorem rot17 (x : UInt32) (w : World) : Calls Tryd.prog 61 #[.int .u32 (x.toNat : Int), .int .i64 (-17)] w fun e w' => e = .returned (.int .u32 ((rotr x 17).toNat : Int)) ∧ w' = w := rotl_any x (-17) 17 (by decide) (by decide) (by kernel_rfl) w
theorem rot19 (x : UInt32) (w : World) : Calls Tryd.prog 61 #[.int .u32 (x.toNat : Int), .int .i64 (-19)] w fun e w' => e = .returned (.int .u32 ((rotr x 19).toNat : Int)) ∧ w' = w := rotl_any x (-19) 19 (by decide) (by decide) (by kernel_rfl) w
theorem rot6 (x : UInt32) (w : World) : Calls Tryd.prog 61 #[.int .u32 (x.toNat : Int), .int .i64 (-6)] w fun e w' => e = .returned (.int .u32 ((rotr x 6).toNat : Int)) ∧ w' = w := rotl_any x (-6) 6 (by decide) (by decide) (by kernel_rfl) w
theorem rot11 (x : UInt32) (w : World) : Calls Tryd.prog 61 #[.int .u32 (x.toNat : Int), .int .i64 (-11)] w fun e w' => e = .returned (.int .u32 ((rotr x 11).toNat : Int)) ∧ w' = w := rotl_any x (-11) 11 (by decide) (by decide) (by kernel_rfl) w
theorem rot25 (x : UInt32) (w : World) : Calls Tryd.prog 61 #[.int .u32 (x.toNat : Int), .int .i64 (-25)] w fun e w' => e = .returned (.int .u32 ((rotr x 25).toNat : Int)) ∧ w' = w := rotl_any x (-25) 25 (by decide) (by decide) (by kernel_rfl) w
theorem rot2 (x : UInt32) (w : World) : Calls Tryd.prog 61 #[.int .u32 (x.toNat : Int), .int .i64 (-2)] w fun e w' => e = .returned (.int .u32 ((rotr x 2).toNat : Int)) ∧ w' = w := rotl_any x (-2) 2 (by decide) (by decide) (by kernel_rfl) w
theorem rot13 (x : UInt32) (w : World) : Calls Tryd.prog 61 #[.int .u32 (x.toNat : Int), .int .i64 (-13)] w fun e w' => e = .returned (.int .u32 ((rotr x 13).toNat : Int)) ∧ w' = w := rotl_any x (-13) 13 (by decide) (by decide) (by kernel_rfl) w
theorem rot22 (x : UInt32) (w : World) : Calls Tryd.prog 61 #[.int .u32 (x.toNat : Int), .int .i64 (-22)] w fun e w' => e = .returned (.int .u32 ((rotr x 22).toNat : Int)) ∧ w' = w := rotl_any x (-22) 22 (by decide) (by decide) (by kernel_rfl) w

set_option maxRecDepth 100000 in
set_option maxHeartbeats 400000 in
theorem right_any (x : UInt32) (n : Nat) (h1 : 1 ≤ n) (h2 : n ≤ 31) (w : World) :
    Calls Tryd.prog 51 #[.int .u32 (x.toNat : Int), .int .i64 (n : Int)] w fun e w' => e = .returned (.int .u32 ((rotr x n).toNat : Int)) ∧ ∃ n, w' = w.drewN n := by
  have hx := w32 x
  have HH : Hid (bits .or .u32 ((x.toNat : Int) / 2 ^ n) ((x.toNat : Int) * 2 ^ (32 - n) % 4294967296) = ((rotr x n).toNat : Int)) := (rot_eq x n).2
  go_enter Tryd.func51, Tryd.ntmps51
  go_wp2
  go_quiet (fail)
  go_wp2
  go_ret
  exact ⟨ret_int HH.out, _, rfl⟩

end Go.Proofs.YtgfddabccjfhiabDoor
