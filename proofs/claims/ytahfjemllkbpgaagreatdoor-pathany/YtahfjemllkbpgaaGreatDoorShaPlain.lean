/- What this text holds: SHA-256 as a plain function on lists of bytes (FIPS 180-4: words of 32 bits, the schedule, the rounds, the padding), and facts about it; no program is named. -/
namespace Go.Proofs.YtahfjemllkbpgaaGreatDoor

/-- A word turned right. -/
def rotr (x : UInt32) (n : Nat) : UInt32 := UInt32.ofNat (x.toNat / 2 ^ n ||| x.toNat * 2 ^ (32 - n) % 4294967296)
def ssig0 (x : UInt32) : UInt32 := UInt32.ofNat (((rotr x 7).toNat ^^^ (rotr x 18).toNat) ^^^ x.toNat / 8)
def ssig1 (x : UInt32) : UInt32 := UInt32.ofNat (((rotr x 17).toNat ^^^ (rotr x 19).toNat) ^^^ x.toNat / 1024)
def bsig0 (x : UInt32) : UInt32 := UInt32.ofNat (((rotr x 2).toNat ^^^ (rotr x 13).toNat) ^^^ (rotr x 22).toNat)
def bsig1 (x : UInt32) : UInt32 := UInt32.ofNat (((rotr x 6).toNat ^^^ (rotr x 11).toNat) ^^^ (rotr x 25).toNat)
def chf (e f g : UInt32) : UInt32 := UInt32.ofNat ((e.toNat &&& f.toNat) ^^^ ((4294967295 ^^^ e.toNat) &&& g.toNat))
def majf (a b c : UInt32) : UInt32 := UInt32.ofNat (((a.toNat &&& b.toNat) ^^^ (a.toNat &&& c.toNat)) ^^^ (b.toNat &&& c.toNat))

/-- The word at place i of a block. -/
def wordAt (l : List UInt8) (i : Nat) : UInt32 := UInt32.ofNat ((l.getD (4 * i) 0).toNat * 16777216 + (l.getD (4 * i + 1) 0).toNat * 65536 + (l.getD (4 * i + 2) 0).toNat * 256 + (l.getD (4 * i + 3) 0).toNat)

/-- The schedule's next word. -/
def nextW (l : List UInt8) (ws : List UInt32) : UInt32 :=
  if ws.length < 16 then wordAt l ws.length else
  UInt32.ofNat ((ws.getD (ws.length - 16) 0).toNat + (ssig0 (ws.getD (ws.length - 15) 0)).toNat + (ws.getD (ws.length - 7) 0).toNat + (ssig1 (ws.getD (ws.length - 2) 0)).toNat)

/-- The schedule's first n words. -/
def Wl (l : List UInt8) : Nat → List UInt32
  | 0 => []
  | n + 1 => Wl l n ++ [nextW l (Wl l n)]

theorem Wl_length (l : List UInt8) (n : Nat) : (Wl l n).length = n := by
  induction n with
  | zero => rfl
  | succ n ih => simp [Wl, ih]

/-- The round's numbers. -/
def kTab : List UInt32 := [1116352408, 1899447441, 3049323471, 3921009573, 961987163, 1508970993, 2453635748, 2870763221, 3624381080, 310598401, 607225278, 1426881987, 1925078388, 2162078206, 2614888103, 3248222580, 3835390401, 4022224774, 264347078, 604807628, 770255983, 1249150122, 1555081692, 1996064986, 2554220882, 2821834349, 2952996808, 3210313671, 3336571891, 3584528711, 113926993, 338241895, 666307205, 773529912, 1294757372, 1396182291, 1695183700, 1986661051, 2177026350, 2456956037, 2730485921, 2820302411, 3259730800, 3345764771, 3516065817, 3600352804, 4094571909, 275423344, 430227734, 506948616, 659060556, 883997877, 958139571, 1322822218, 1537002063, 1747873779, 1955562222, 2024104815, 2227730452, 2361852424, 2428436474, 2756734187, 3204031479, 3329325298]

/-- A state. -/
structure St where
  a : UInt32
  b : UInt32
  c : UInt32
  d : UInt32
  e : UInt32
  f : UInt32
  g : UInt32
  h : UInt32

def tOf (s : St) (k w : UInt32) : UInt32 := UInt32.ofNat (s.h.toNat + (bsig1 s.e).toNat + (chf s.e s.f s.g).toNat + k.toNat + w.toNat)
/-- A state behind a round. -/
def rnd (s : St) (k w : UInt32) : St :=
  ⟨UInt32.ofNat ((tOf s k w).toNat + (bsig0 s.a).toNat + (majf s.a s.b s.c).toNat), s.a, s.b, s.c, UInt32.ofNat (s.d.toNat + (tOf s k w).toNat), s.e, s.f, s.g⟩

/-- A state behind n rounds of a block. -/
def rds (s : St) (l : List UInt8) : Nat → St
  | 0 => s
  | n + 1 => rnd (rds s l n) (kTab.getD n 0) (nextW l (Wl l n))

def addw (x y : UInt32) : UInt32 := UInt32.ofNat (x.toNat + y.toNat)
def addSt (s t : St) : St := ⟨addw s.a t.a, addw s.b t.b, addw s.c t.c, addw s.d t.d, addw s.e t.e, addw s.f t.f, addw s.g t.g, addw s.h t.h⟩

/-- A state behind a block. -/
def mixF (s : St) (l : List UInt8) : St := addSt s (rds s l 64)

def startSt : St := ⟨1779033703, 3144134277, 1013904242, 2773480762, 1359893119, 2600822924, 528734635, 1541459225⟩

/-- A state behind n blocks of a text. -/
def mixes (s : St) (t : List UInt8) : Nat → St
  | 0 => s
  | n + 1 => mixF (mixes s t n) ((t.drop (64 * n)).take 64)

/-- A word's bytes. -/
def spellW (x : UInt32) : List UInt8 := [UInt8.ofNat (x.toNat / 16777216), UInt8.ofNat (x.toNat / 65536), UInt8.ofNat (x.toNat / 256), UInt8.ofNat x.toNat]
def spellSt (s : St) : List UInt8 := spellW s.a ++ spellW s.b ++ spellW s.c ++ spellW s.d ++ spellW s.e ++ spellW s.f ++ spellW s.g ++ spellW s.h

/-- A number's eight bytes, the highest first. -/
def be64 (n : Nat) : List UInt8 := (List.range 8).map fun j => UInt8.ofNat (n / 2 ^ (8 * (7 - j)))
theorem be64_length (n : Nat) : (be64 n).length = 8 := by simp [be64]

/-- How many blocks a text of n bytes is padded to. -/
def blocks (n : Nat) : Nat := (n + 72) / 64

/-- What stands behind a text of n bytes. -/
def padding (n : Nat) : List UInt8 := 128 :: (List.replicate (64 * blocks n - 9 - n) 0 ++ be64 (8 * n))

theorem padding_length (n : Nat) : n + (padding n).length = 64 * blocks n := by
  simp [padding, be64_length, blocks]
  omega

/-- SHA-256. -/
def sha (l : List UInt8) : List UInt8 := spellSt (mixes startSt (l ++ padding l.length) (blocks l.length))

theorem spellSt_length (s : St) : (spellSt s).length = 32 := by simp [spellSt, spellW]
theorem sha_length (l : List UInt8) : (sha l).length = 32 := spellSt_length _

/-- What stands behind the whole blocks of a text, behind k of its length's bytes (from the last one on): m bytes r, N all together, c the length in bits. -/
def padL (r : List UInt8) (N c k : Nat) : List UInt8 := r ++ 128 :: (List.replicate (N - 1 - r.length - k) 0 ++ (be64 c).drop (8 - k))

theorem padL_length (r : List UInt8) (N c k : Nat) (h : r.length + 9 ≤ N) (hk : k ≤ 8) : (padL r N c k).length = N := by
  simp [padL, be64_length]
  omega

theorem padL_start (r : List UInt8) (N c : Nat) (h : r.length + 9 ≤ N) : (r ++ List.replicate (N - r.length) 0).set r.length 128 = padL r N c 0 := by
  have e : N - r.length = (N - 1 - r.length) + 1 := by omega
  rw [e, List.replicate_succ, List.set_append_right _ _ (Nat.le_refl _), Nat.sub_self, List.set_cons_zero]
  simp [padL, be64]

theorem padL_step (r : List UInt8) (N c k : Nat) (h : r.length + 9 ≤ N) (hk : k < 8) : (padL r N c k).set (N - 1 - k) (UInt8.ofNat (c / 2 ^ (8 * k))) = padL r N c (k + 1) := by
  have e : N - 1 - r.length - k = (N - 1 - r.length - (k + 1)) + 1 := by omega
  have e2 : N - 1 - k - r.length = (N - 1 - r.length - (k + 1)) + 1 := by omega
  have e3 : (be64 c).drop (8 - (k + 1)) = UInt8.ofNat (c / 2 ^ (8 * k)) :: (be64 c).drop (8 - k) := by
    have hlt : 8 - (k + 1) < (be64 c).length := by rw [be64_length]; omega
    rw [List.drop_eq_getElem_cons hlt]
    have e4 : 8 - (k + 1) + 1 = 8 - k := by omega
    rw [e4]
    congr 1
    simp only [be64, List.getElem_map, List.getElem_range]
    have e5 : 7 - (8 - (k + 1)) = k := by omega
    rw [e5]
  unfold padL
  rw [List.set_append_right _ _ (by omega), e2, List.set_cons_succ, e, e3]
  rw [List.set_append_left _ _ (by simp)]
  congr 2
  rw [List.replicate_succ', List.set_append_right _ _ (by simp)]
  simp

/-- The bytes of the first k words, and noughts behind. -/
def spellL (L : List UInt32) (k : Nat) : List UInt8 := (L.take k).flatMap spellW ++ List.replicate (32 - 4 * k) 0

theorem flat_length (L : List UInt32) : (L.flatMap spellW).length = 4 * L.length := by
  induction L with
  | nil => rfl
  | cons x r ih =>
    rw [List.flatMap_cons, List.length_append, ih]
    simp [spellW]
    omega

theorem spellL_step (L : List UInt32) (k : Nat) (x : UInt32) (h : L[k]? = some x) (hk : k < 8) :
    ((((spellL L k).set (4 * k) (UInt8.ofNat (x.toNat / 16777216))).set (4 * k + 1) (UInt8.ofNat (x.toNat / 65536))).set (4 * k + 2) (UInt8.ofNat (x.toNat / 256))).set (4 * k + 3) (UInt8.ofNat x.toNat) = spellL L (k + 1) := by
  have hlt : k < L.length := (List.getElem?_eq_some_iff.1 h).1
  have hA : ((L.take k).flatMap spellW).length = 4 * k := by
    rw [flat_length, List.length_take]
    omega
  have e : 32 - 4 * k = (32 - 4 * (k + 1)) + 1 + 1 + 1 + 1 := by omega
  unfold spellL
  rw [List.take_add_one, h, Option.toList_some, List.flatMap_append, e]
  generalize (L.take k).flatMap spellW = A at *
  rw [← hA]
  simp only [List.replicate_succ, List.set_append_right _ _ (Nat.le_refl _), List.set_append_right _ _ (Nat.le_add_right _ _), Nat.sub_self, Nat.add_sub_cancel_left, List.set_cons_zero, List.set_cons_succ]
  simp [spellW]

end Go.Proofs.YtahfjemllkbpgaaGreatDoor
