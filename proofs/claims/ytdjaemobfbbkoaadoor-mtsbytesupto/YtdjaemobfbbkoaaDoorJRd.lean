/- What this text proves: a codec.Reader in memory; the walks of its Err, Left, End and fail over this program. What this text holds: plain facts about numbers as bytes (no program): the bytes of a number, the highest first, without a nought ahead; how many they are; the number of bytes. What this text holds: plain facts: worlds that part in one block alone; a reader with what is left; what is read of bytes (no program). What this text proves: the walks of the reader's counted and Uint over this program. What this text proves: the walk of the reader's Uint over this program: the next number, or the error. What this text proves: the walk of the reader's Uint over this program where the bytes of the number are there. What this text proves: the walks of the reader's Uint, Bytes, Flag and of Open over this program, whatever is left. What this text proves: laws for a walk, over any program: a copy of a longer slice of bytes over a whole row that the call owns; a copy of any slice of bytes into such a row. What this text proves: the walks of the reader's Bytes and Flag and of Open over this program. -/
import Derived.Test.YtdjaemobfbbkoaaDoorJOwn
import Derived.BigQuiet
import Derived.Lib.BitFns
import Derived.Test.YtdjaemobfbbkoaaDoorJOnce
namespace Go.Proofs.YtdjaemobfbbkoaaDoor
open Go.RowKit

/-- Block g holds a reader: what is left, the first error, whether Open made it. -/
def RD (w : World) (g : Nat) (v : Value) (e : Int) (b : Bool) : Prop := w.heap[g]? = some (.cells #[v, .int .i64 e, .bool b] 104 (0, 0))

theorem RD.cells {w : World} {g : Nat} {v : Value} {e : Int} {b : Bool} (h : RD w g v e b) : w.cell? ⟨g, 0, none⟩ = some v ∧ w.cell? ⟨g, 1, none⟩ = some (.int .i64 e) ∧ w.cell? ⟨g, 2, none⟩ = some (.bool b) := by
  refine ⟨?_, ?_, ?_⟩ <;> rw [cell_of_row w g _ _ _ _ h] <;> rfl

theorem RD.later {w w' : World} {g : Nat} {v : Value} {e : Int} {b : Bool} (h : RD w g v e b) (hb : Below w.heap.size w w') : RD w' g v e b := by
  unfold RD
  rw [hb.block g (Array.getElem?_eq_some_iff.1 h).1]
  exact h

theorem RD.lt {w : World} {g : Nat} {v : Value} {e : Int} {b : Bool} (h : RD w g v e b) : g < w.heap.size := (Array.getElem?_eq_some_iff.1 h).1

theorem RD.put0 {w : World} {g : Nat} {v : Value} {e : Int} {b : Bool} (h : RD w g v e b) (v' : Value) : RD (w.setCell ⟨g, 0, none⟩ v') g v' e b := by
  unfold RD
  rw [heap_setCell_same w g 0 _ _ _ h]
  rfl

theorem RD.put1 {w : World} {g : Nat} {v : Value} {e : Int} {b : Bool} (h : RD w g v e b) (e' : Int) : RD (w.setCell ⟨g, 1, none⟩ (.int .i64 e')) g v e' b := by
  unfold RD
  rw [heap_setCell_same w g 1 _ _ _ h]
  rfl

theorem RD.other {w : World} {g : Nat} {v : Value} {e : Int} {b : Bool} (h : RD w g v e b) (a : Addr) (u : Value) (hne : g ≠ a.block) : RD (w.setCell a u) g v e b := by
  unfold RD
  rw [heap_setCell_other w a g u hne]
  exact h

theorem RD.free {w : World} {g : Nat} {v : Value} {e : Int} {b : Bool} (h : RD w g v e b) (i : Nat) : w.frozen? ⟨g, i, none⟩ = false := by
  unfold RD at h
  simp [World.frozen?, h]

set_option maxRecDepth 100000 in
set_option maxHeartbeats 400000 in
theorem rerr_nil (w : World) : Calls Tryd.prog 33 #[.pointer none] w fun e w' => e = .returned (.int .i64 2) ∧ w' = w := by
  go_enter Tryd.func33, Tryd.ntmps33
  go_wp2
  go_ret
  exact ⟨rfl, rfl⟩

set_option maxRecDepth 100000 in
set_option maxHeartbeats 400000 in
theorem rerr_any (g : Nat) (v : Value) (e : Int) (b : Bool) (w : World) (h : RD w g v e b) :
    Calls Tryd.prog 33 #[.pointer (some ⟨g, 0, none⟩)] w fun x w' => x = .returned (.int .i64 (if b then e else 2)) ∧ w' = w := by
  obtain ⟨c0, c1, c2⟩ := h.cells
  clear h
  cases b
  · go_enter Tryd.func33, Tryd.ntmps33
    go_wp2
    go_ret
    exact ⟨rfl, rfl⟩
  · go_enter Tryd.func33, Tryd.ntmps33
    go_wp2
    go_ret
    exact ⟨rfl, rfl⟩

set_option maxRecDepth 100000 in
set_option maxHeartbeats 400000 in
theorem rleft_nil (w : World) : Calls Tryd.prog 34 #[.pointer none] w fun e w' => e = .returned (.int .i64 0) ∧ w' = w := by
  go_enter Tryd.func34, Tryd.ntmps34
  go_wp2
  go_ret
  exact ⟨rfl, rfl⟩

set_option maxRecDepth 100000 in
set_option maxHeartbeats 400000 in
theorem rleft_any (g : Nat) (p : Option Addr) (n c : Nat) (e : Int) (b : Bool) (w : World) (h : RD w g (.slice p n c) e b) :
    Calls Tryd.prog 34 #[.pointer (some ⟨g, 0, none⟩)] w fun x w' => x = .returned (.int .i64 (n : Int)) ∧ w' = w := by
  obtain ⟨c0, c1, c2⟩ := h.cells
  clear h
  go_enter Tryd.func34, Tryd.ntmps34
  go_wp2
  go_ret
  exact ⟨rfl, rfl⟩

/-- The first error, or ErrForm, if something is left. -/
def endF (n : Nat) (e : Int) : Int := if e = 0 ∧ 0 < n then 5 else e

set_option maxRecDepth 100000 in
set_option maxHeartbeats 400000 in
theorem rfail_any (g : Nat) (v : Value) (e e' : Int) (b : Bool) (w : World) (h : RD w g v e b) :
    Calls Tryd.prog 61 #[.pointer (some ⟨g, 0, none⟩), .int .i64 e'] w fun x w' => x = .returned (.int .i64 0) ∧ w' = (w.setCell ⟨g, 1, none⟩ (.int .i64 e')).setCell ⟨g, 0, none⟩ (.slice none 0 0) := by
  obtain ⟨c0, c1, c2⟩ := h.cells
  have f0 := h.free 0
  have f1 := h.free 1
  obtain ⟨c0', _, _⟩ := (h.put1 e').cells
  have f0' := (h.put1 e').free 0
  clear h
  go_enter Tryd.func61, Tryd.ntmps61
  go_wp2
  go_ret
  exact ⟨rfl, rfl⟩

end Go.Proofs.YtdjaemobfbbkoaaDoor

namespace Go.Proofs.YtdjaemobfbbkoaaDoor

/-- The last c bytes of a number, the highest first. -/
def beN : Nat → Nat → List UInt8
  | _, 0 => []
  | n, c + 1 => beN (n / 256) c ++ [UInt8.ofNat n]

theorem beN_length : ∀ (c n : Nat), (beN n c).length = c
  | 0, n => rfl
  | c + 1, n => by simp [beN, beN_length c]

/-- How many bytes a number takes. -/
def cnt (n : Nat) : Nat := (Lib.bitLen n + 7) / 8

theorem bitLen_zero : Lib.bitLen 0 = 0 := by decide +kernel
theorem bitLen_small : ∀ n : Fin 256, n.val ≠ 0 → 1 ≤ Lib.bitLen n.val ∧ Lib.bitLen n.val ≤ 8 := by decide +kernel

theorem cnt_zero : cnt 0 = 0 := by unfold cnt; rw [bitLen_zero]
theorem cnt_step (n : Nat) (h0 : n ≠ 0) (h : n < 2 ^ 64) : cnt n = cnt (n / 256) + 1 := by
  unfold cnt
  by_cases hs : n < 256
  · have := bitLen_small ⟨n, hs⟩ h0
    simp only at this
    rw [show n / 256 = 0 by omega, bitLen_zero]
    omega
  · have := Lib.bitLen_shift 8 n (by omega) h
    rw [show (2 : Nat) ^ 8 = 256 from rfl] at this
    rw [this]
    omega

/-- The bytes of a number. -/
def ndigs (n : Nat) : List UInt8 := beN n (cnt n)

theorem ndigs_zero : ndigs 0 = [] := by unfold ndigs; rw [cnt_zero]; rfl
theorem ndigs_step (n : Nat) (h0 : n ≠ 0) (h : n < 2 ^ 64) : ndigs n = ndigs (n / 256) ++ [UInt8.ofNat n] := by
  unfold ndigs
  rw [cnt_step n h0 h]
  rfl
theorem ndigs_length (n : Nat) : (ndigs n).length = cnt n := beN_length _ _

theorem cnt_le : ∀ (f n : Nat), n < 256 ^ f → f ≤ 8 → cnt n ≤ f
  | 0, n, h, _ => by
    have : n = 0 := by simpa using h
    subst this
    rw [cnt_zero]
    exact Nat.le_refl _
  | f + 1, n, h, hf => by
    by_cases h0 : n = 0
    · subst h0; rw [cnt_zero]; omega
    · have hp : (256 : Nat) ^ (f + 1) ≤ 256 ^ 8 := Nat.pow_le_pow_right (by omega) hf
      rw [cnt_step n h0 (by rw [show (2 : Nat) ^ 64 = 256 ^ 8 from rfl]; omega)]
      have := cnt_le f (n / 256) (by rw [Nat.pow_succ] at h; omega) (by omega)
      omega

theorem cnt_le8 (n : Nat) (h : n < 2 ^ 64) : cnt n ≤ 8 := cnt_le 8 n (by rw [show (256 : Nat) ^ 8 = 2 ^ 64 from rfl]; exact h) (Nat.le_refl _)

/-- A number, put: how many bytes, and the bytes. -/
def numL (n : Nat) : List UInt8 := UInt8.ofNat (cnt n) :: ndigs n
def bytesL (s : List UInt8) : List UInt8 := numL s.length ++ s
def flagL (b : Bool) : List UInt8 := [if b then 1 else 0]
/-- What counts of a number that is put. -/
def clampN (n : Int) : Nat := (max 0 (min n 4611686018427387904)).toNat

theorem clampN_le (n : Int) : clampN n ≤ 4611686018427387904 := by unfold clampN; omega
theorem numL_length (n : Nat) : (numL n).length = 1 + cnt n := by unfold numL; rw [List.length_cons, ndigs_length]; omega

/-- The first bytes that the loop has put, at index i. -/
theorem beN_next (n c k : Nat) (hk : k < c) : beN (n / 256 ^ (c - (k + 1))) (k + 1) = beN (n / 256 ^ (c - k)) k ++ [UInt8.ofNat (n / 256 ^ (c - (k + 1)))] := by
  rw [beN, Nat.div_div_eq_div_mul, ← Nat.pow_succ, show (c - (k + 1)).succ = c - k by omega]

/-- The number of bytes. -/
def valL (l : List UInt8) : Nat := l.foldl (fun n d => n * 256 + d.toNat) 0

theorem valL_snoc (l : List UInt8) (d : UInt8) : valL (l ++ [d]) = valL l * 256 + d.toNat := by simp [valL]
theorem valL_nil : valL [] = 0 := rfl

theorem foldl_val : ∀ (l : List UInt8) (acc : Nat), l.foldl (fun n d => n * 256 + d.toNat) acc = acc * 256 ^ l.length + valL l
  | [], acc => by simp [valL]
  | d :: l, acc => by
    have h1 := foldl_val l (acc * 256 + d.toNat)
    have h2 := foldl_val l d.toNat
    unfold valL
    simp only [List.foldl_cons, List.length_cons, Nat.zero_mul, Nat.zero_add]
    rw [h1, h2, Nat.pow_succ, Nat.add_mul, Nat.mul_assoc, Nat.mul_comm 256 (256 ^ l.length), Nat.add_assoc]

theorem valL_cons (d : UInt8) (l : List UInt8) : valL (d :: l) = d.toNat * 256 ^ l.length + valL l := by
  have := foldl_val l d.toNat
  unfold valL
  simp only [List.foldl_cons, Nat.zero_mul, Nat.zero_add]
  exact this

theorem valL_lt : ∀ l : List UInt8, valL l < 256 ^ l.length
  | [] => by simp [valL]
  | d :: l => by
    have h1 := valL_lt l
    have h2 := d.toNat_lt
    rw [valL_cons, List.length_cons, Nat.pow_succ]
    have h3 : d.toNat * 256 ^ l.length ≤ 255 * 256 ^ l.length := Nat.mul_le_mul_right _ (by omega)
    omega

theorem valL_digs : ∀ (f n : Nat), n < 256 ^ f → f ≤ 8 → valL (ndigs n) = n
  | 0, n, h, _ => by
    have : n = 0 := by simpa using h
    subst this
    rw [ndigs_zero]
    rfl
  | f + 1, n, h, hf => by
    by_cases h0 : n = 0
    · subst h0; rw [ndigs_zero]; rfl
    · have hp : (256 : Nat) ^ (f + 1) ≤ 256 ^ 8 := Nat.pow_le_pow_right (by omega) hf
      rw [ndigs_step n h0 (by rw [show (2 : Nat) ^ 64 = 256 ^ 8 from rfl]; omega), valL_snoc, valL_digs f (n / 256) (by rw [Nat.pow_succ] at h; omega) (by omega)]
      simp
      omega

theorem beN_val : ∀ (m : Nat) (l : List UInt8), l.length = m → beN (valL l) m = l := by
  intro m
  induction m with
  | zero => intro l h; rw [List.eq_nil_of_length_eq_zero h]; rfl
  | succ m ih =>
    intro l h
    obtain ⟨l', d, rfl⟩ : ∃ l' d, l = l' ++ [d] := by
      have hne : l ≠ [] := fun e => by subst e; simp at h
      exact ⟨l.dropLast, l.getLast hne, (List.dropLast_concat_getLast hne).symm⟩
    have hd := d.toNat_lt
    rw [valL_snoc, beN, show (valL l' * 256 + d.toNat) / 256 = valL l' by omega, ih l' (by simpa using h)]
    congr 2
    apply UInt8.toNat_inj.1
    simp

/-- Bytes without a nought ahead are the bytes of their number. -/
theorem cnt_val (l : List UInt8) (h8 : l.length ≤ 8) (h : ∀ d r, l = d :: r → d ≠ 0) : cnt (valL l) = l.length := by
  have hlt := valL_lt l
  have h1 := cnt_le l.length (valL l) hlt h8
  rcases Nat.lt_or_ge (cnt (valL l)) l.length with h2 | h2
  · cases l with
    | nil => simp at h2
    | cons d r =>
      have hd : 1 ≤ d.toNat := by
        have := h d r rfl
        rcases Nat.eq_zero_or_pos d.toNat with h0 | h0
        · exact absurd (UInt8.toNat_inj.1 (by simpa using h0)) this
        · exact h0
      simp only [List.length_cons] at h2 h8
      have hle : cnt (valL (d :: r)) ≤ r.length := by omega
      have hbig : 256 ^ r.length ≤ valL (d :: r) := by
        rw [valL_cons]
        have := Nat.mul_le_mul_right (256 ^ r.length) hd
        omega
      have hp : (256 : Nat) ^ (r.length + 1) ≤ 256 ^ 8 := Nat.pow_le_pow_right (by omega) h8
      have hv := valL_digs 8 (valL (d :: r)) (by simp only [List.length_cons] at hlt; omega) (Nat.le_refl _)
      have hl := valL_lt (ndigs (valL (d :: r)))
      rw [hv, ndigs_length] at hl
      have := Nat.pow_le_pow_right (n := 256) (by omega) hle
      omega
  · omega

theorem ndigs_val (l : List UInt8) (h8 : l.length ≤ 8) (h : ∀ d r, l = d :: r → d ≠ 0) : ndigs (valL l) = l := by
  unfold ndigs
  rw [cnt_val l h8 h, beN_val _ l rfl]

/-- No nought stands ahead. -/
theorem ndigs_head (n : Nat) (hn : n < 2 ^ 64) : ∀ d r, ndigs n = d :: r → d ≠ 0 := by
  intro d r e h0
  subst h0
  have hv := valL_digs 8 n (by rw [show (256 : Nat) ^ 8 = 2 ^ 64 from rfl]; exact hn) (Nat.le_refl _)
  rw [e, valL_cons] at hv
  have hlt := valL_lt r
  have hl : (ndigs n).length = r.length + 1 := by rw [e]; rfl
  rw [ndigs_length] at hl
  have h8 := cnt_le8 n hn
  have := cnt_le r.length n (by simp at hv; omega) (by omega)
  omega

end Go.Proofs.YtdjaemobfbbkoaaDoor

namespace Go.Proofs.YtdjaemobfbbkoaaDoor
open Go.RowKit

/-- Bytes that don't lie in block g. -/
def HBN (w : World) (g : Nat) (v : Value) (l : List UInt8) : Prop := HB w v l ∧ ∀ a n c, v = .slice (some a) n c → a.block ≠ g

theorem HBN.only {w w' : World} {g : Nat} {v : Value} {l : List UInt8} (h : HBN w g v l) (ho : Only g w w') : HBN w' g v l := ⟨h.1.only h.2 ho, h.2⟩
theorem HBN.later {w w' : World} {g : Nat} {v : Value} {l : List UInt8} (h : HBN w g v l) (hb : Below w.heap.size w w') : HBN w' g v l := ⟨h.1.later hb, h.2⟩
theorem HBN.nil (w : World) (g : Nat) : HBN w g (.slice none 0 0) [] := ⟨HB.nil w, fun _ _ _ h => by cases h⟩
theorem HBN.behind {w : World} {g : Nat} {p : Option Addr} {n c : Nat} {l : List UInt8} (h : HBN w g (.slice p n c) l) (k : Nat) (hk : k ≤ n) : HBN w g (.slice (cutP p c k) (n - k) (c - k)) (l.drop k) := by
  refine ⟨h.1.behind k hk, fun a n' c' e => ?_⟩
  simp only [Value.slice.injEq] at e
  unfold cutP at e
  split at e
  · exact h.2 a n c (by rw [e.1])
  · cases p with
    | none => simp at e
    | some a' =>
      have := e.1
      simp only [Option.map_some, Option.some.injEq] at this
      have h2 := h.2 a' n c rfl
      rw [← this]
      unfold Addr.add
      split <;> exact h2

/-- A reader that Open made: what is left, and the first error. -/
def RR (w : World) (g : Nat) (l : List UInt8) (e : Int) : Prop := ∃ p c, RD w g (.slice p l.length c) e true ∧ HBN w g (.slice p l.length c) l

theorem RR.later {w w' : World} {g : Nat} {l : List UInt8} {e : Int} (h : RR w g l e) (hb : Below w.heap.size w w') : RR w' g l e := by
  obtain ⟨p, c, h1, h2⟩ := h
  exact ⟨p, c, h1.later hb, h2.later hb⟩
/-- What is written elsewhere leaves it as it was, if what is left does not lie there. -/
theorem RD.only {w w' : World} {g g' : Nat} {v : Value} {e : Int} {b : Bool} (h : RD w g v e b) (ho : Only g' w w') (hne : g ≠ g') : RD w' g v e b := by
  unfold RD
  rw [ho.block g hne h.lt]
  exact h

/-- What a number is read as: the error, the number, what is left. -/
def uintF (l : List UInt8) (most : Int) : Int × Nat × List UInt8 :=
  match l with
  | [] => (3, 0, [])
  | c :: r =>
    if 8 < c.toNat then (5, 0, [])
    else if r.length < c.toNat then (3, 0, [])
    else if (r.take c.toNat).head? = some 0 then (5, 0, [])
    else if 4611686018427387904 < valL (r.take c.toNat) then (5, 0, [])
    else if most < (valL (r.take c.toNat) : Int) then (4, 0, [])
    else (0, valL (r.take c.toNat), r.drop c.toNat)

/-- What a text is read as: the error, the text, what is left. -/
def bytesF (l : List UInt8) (most : Int) : Int × List UInt8 × List UInt8 :=
  let u := uintF l most
  if u.1 ≠ 0 then (u.1, [], [])
  else if u.2.2.length < u.2.1 then (3, [], [])
  else (0, u.2.2.take u.2.1, u.2.2.drop u.2.1)

/-- What a yes or no is read as: the error, it, what is left. -/
def flagF (l : List UInt8) : Int × Bool × List UInt8 :=
  match l with
  | [] => (3, false, [])
  | x :: r => if 1 < x.toNat then (5, false, []) else (0, x == 1, r)

end Go.Proofs.YtdjaemobfbbkoaaDoor

namespace Go.Proofs.YtdjaemobfbbkoaaDoor
open Go.RowKit

theorem wrapI (n : Nat) (h : n ≤ 9223372036854775807) : IntKind.i64.wrap (n : Int) = (n : Int) := by
  rw [IntKind.wrap_i64]
  omega

set_option maxRecDepth 100000 in
set_option maxHeartbeats 1000000 in
theorem counted_short (g : Nat) (l : List UInt8) (w : World) (h : RR w g l 0) (hs : ∀ c r, l = c :: r → r.length < c.toNat) :
    Calls Tryd.prog 62 #[.pointer (some ⟨g, 0, none⟩)] w fun x w' => x = .returned (.tuple #[.slice none 0 0, .bool false]) ∧ ∃ n, w' = w.drewN n := by
  obtain ⟨p, c, hrd, hh, _⟩ := h
  obtain ⟨c0, c1, c2⟩ := hrd.cells
  cases l with
  | nil =>
    clear hrd hh hs
    simp only [List.length_nil] at c0
    go_enter Tryd.func62, Tryd.ntmps62
    go_wp2
    go_quiet (fail)
    go_wp2
    go_ret2
    exact ⟨rfl, _, rfl⟩
  | cons x r =>
    have hlt := hs x r rfl
    obtain ⟨b, o, rfl, hc⟩ := hh.addr (by simp)
    have cx := hc 0 x rfl
    unfold bc at cx
    simp only [Nat.add_zero] at cx
    have hm := hh.len.2.2.1
    have hlc := hh.len.2.1
    unfold maxLen at hm
    simp only [List.length_cons] at c0 hlc
    have hx := x.toNat_lt
    have hlt2 : (r.length : Int) < (x.toNat : Int) := by omega
    have hw1 := wrapI r.length (by omega)
    have hw2 := wrapI x.toNat (by omega)
    clear hrd hh hs hc
    go_enter Tryd.func62, Tryd.ntmps62
    go_wp2
    go_quiet (fail)
    go_wp2
    go_ret2
    exact ⟨rfl, _, rfl⟩

set_option maxRecDepth 100000 in
set_option maxHeartbeats 1000000 in
theorem counted_ok (g : Nat) (x : UInt8) (r : List UInt8) (w : World) (b o c : Nat) (hrd : RD w g (.slice (some ⟨b, o, none⟩) (r.length + 1) c) 0 true) (hh : HB w (.slice (some ⟨b, o, none⟩) (r.length + 1) c) (x :: r)) (hs : x.toNat ≤ r.length) :
    Calls Tryd.prog 62 #[.pointer (some ⟨g, 0, none⟩)] w fun y w' => y = .returned (.tuple #[.slice (cutP (some ⟨b, o, none⟩) c 1) x.toNat (c - 1), .bool true]) ∧ ∃ n, w' = w.drewN n := by
  obtain ⟨c0, c1, c2⟩ := hrd.cells
  obtain ⟨b', o', e, hc⟩ := hh.addr (by simp)
  simp only [Option.some.injEq, Addr.mk.injEq, and_true] at e
  obtain ⟨rfl, rfl⟩ := e
  have cx := hc 0 x rfl
  unfold bc at cx
  simp only [Nat.add_zero] at cx
  have hm := hh.len.2.2.1
  have hlc := hh.len.2.1
  unfold maxLen at hm
  have hx := x.toNat_lt
  have hlt2 : (x.toNat : Int) ≤ (r.length : Int) := by omega
  have hw1 := wrapI r.length (by omega)
  have hw2 := wrapI x.toNat (by omega)
  have hw3 : IntKind.i64.wrap (1 + (x.toNat : Int)) = 1 + (x.toNat : Int) := by rw [IntKind.wrap_i64]; omega
  have k3 : ∀ w, (Instr.slice 22 (.slice (some ⟨b, o, none⟩) (r.length + 1) c) (some (.int .i64 1)) (some (.int .i64 (1 + (x.toNat : Int)))) none).run Tryd.prog w = .ok (.slice (cutP (some ⟨b, o, none⟩) c 1) x.toNat (c - 1)) w := by
    intro w
    have := run_cut2 (P := Tryd.prog) Tryd.underlying22 s_u8 (some ⟨b, o, none⟩) (r.length + 1) c 1 (1 + x.toNat) 1 (1 + (x.toNat : Int)) rfl (by omega) (by omega) (by omega) w
    rwa [show 1 + x.toNat - 1 = x.toNat by omega] at this
  have hd : decide ((r.length : Int) < (x.toNat : Int)) = false := by simp; omega
  have hdn : decide (r.length < x.toNat) = false := by simp; omega
  have hz : ((r.length : Int) + 1 == 0) = false := by simp; omega
  clear hrd hh hs hc
  go_enter Tryd.func62, Tryd.ntmps62
  go_wp2
  go_quiet (fail)
  have c0' : (w.drewN nq).cell? ⟨g, 0, none⟩ = some (.slice (some ⟨b, o, none⟩) (r.length + 1) c) := c0
  have cx' : (w.drewN nq).cell? ⟨b, o, none⟩ = some (.int .u8 (x.toNat : Int)) := cx
  have hwn : Hid (∃ n, w.drewN nq = w.drewN n) := ⟨_, rfl⟩
  clear c0 cx c1 c2
  generalize w.drewN nq = w2 at *
  go_wp2
  go_quiet (fail)
  go_wp2
  go_ret2
  obtain ⟨n2, hwn⟩ := hwn.out
  refine ⟨rfl, n2 + nq, ?_⟩
  rw [hwn, World.drewN_drewN]

end Go.Proofs.YtdjaemobfbbkoaaDoor

namespace Go.Proofs.YtdjaemobfbbkoaaDoor
open Go.RowKit

theorem RD.failed {w : World} {g : Nat} {v : Value} {e : Int} (h : RD w g v e true) (e' : Int) : RR ((w.setCell ⟨g, 1, none⟩ (.int .i64 e')).setCell ⟨g, 0, none⟩ (.slice none 0 0)) g [] e' ∧ Only g w ((w.setCell ⟨g, 1, none⟩ (.int .i64 e')).setCell ⟨g, 0, none⟩ (.slice none 0 0)) :=
  ⟨⟨none, 0, (h.put1 e').put0 _, HBN.nil _ _⟩, ((Only.refl g w).setCell 1 _).setCell 0 _⟩

/-- What Uint answers where it fails. -/
def Fell (g : Nat) (w : World) (e' : Int) (x : Ending) (w' : World) : Prop := x = .returned (.int .i64 0) ∧ RR w' g [] e' ∧ Only g w w'

theorem fail_said (g : Nat) (v : Value) (e' : Int) (w : World) (h : RD w g v 0 true) : Calls Tryd.prog 61 #[.pointer (some ⟨g, 0, none⟩), .int .i64 e'] w fun x w' => x = .returned (.int .i64 0) ∧ RR w' g [] e' ∧ Only g w w' :=
  (rfail_any g v 0 e' true w h).mono fun x w' ⟨hx, hw⟩ => by subst hw; exact ⟨hx, h.failed e'⟩

set_option maxRecDepth 100000 in
set_option maxHeartbeats 1000000 in
theorem uint_nil (g : Nat) (most : Int) (w : World) (h : RR w g [] 0) : Calls Tryd.prog 32 #[.pointer (some ⟨g, 0, none⟩), .int .i64 most] w (Fell g w 3) := by
  have hc := counted_short g [] w h (fun _ _ e => by cases e)
  obtain ⟨p, c, hrd, hh⟩ := h
  have he := rerr_any g _ 0 true w hrd
  simp only [if_true] at he
  obtain ⟨c0, c1, c2⟩ := hrd.cells
  simp only [List.length_nil] at c0
  go_enter Tryd.func32, Tryd.ntmps32
  go_wp2_with (first | (go_at_call 33; refine he.mono ?_; rintro e w' ⟨rfl, hw⟩; have hw2 := hw.symm; clear hw; subst hw2) | (go_at_call 62; refine hc.mono ?_; rintro e w1 ⟨rfl, n1, hw1⟩; have hrd1 : RD w1 g (.slice p 0 c) 0 true := (by rw [hw1]; exact hrd); have ho1 : Hid (Only g w w1) := (by show Only g w w1; rw [hw1]; exact (Only.refl g w).drewN n1); clear hw1) | (go_at_call 61; refine (fail_said g _ 3 _ hrd1).mono ?_; rintro e w2 ⟨rfl, hr2, ho2⟩))
  go_ret
  exact ⟨rfl, hr2, ho1.out.trans ho2⟩

set_option maxRecDepth 100000 in
set_option maxHeartbeats 1000000 in
theorem uint_big (g : Nat) (x : UInt8) (r : List UInt8) (most : Int) (w : World) (h : RR w g (x :: r) 0) (hx8 : 8 < x.toNat) : Calls Tryd.prog 32 #[.pointer (some ⟨g, 0, none⟩), .int .i64 most] w (Fell g w 5) := by
  obtain ⟨p, c, hrd, hh, _⟩ := h
  have he := rerr_any g _ 0 true w hrd
  simp only [if_true] at he
  obtain ⟨c0, c1, c2⟩ := hrd.cells
  obtain ⟨b, o, rfl, hc⟩ := hh.addr (by simp)
  have cx := hc 0 x rfl
  unfold bc at cx
  simp only [Nat.add_zero] at cx
  simp only [List.length_cons] at c0 hrd he
  have hx := x.toNat_lt
  have hx82 : (8 : Int) < (x.toNat : Int) := by omega
  have hlen := hh.len.2
  unfold maxLen at hlen
  simp only [List.length_cons] at hlen
  have hl0 : (0 : Int) < (r.length : Int) + 1 := by omega
  clear hh hc
  go_enter Tryd.func32, Tryd.ntmps32
  go_wp2_with (first | (go_at_call 33; refine he.mono ?_; rintro e w' ⟨rfl, hw⟩; have hw2 := hw.symm; clear hw; subst hw2) | (go_at_call 61; refine (fail_said g _ 5 _ hrd).mono ?_; rintro e w2 ⟨rfl, hr2, ho2⟩))
  go_ret
  exact ⟨rfl, hr2, ho2⟩

set_option maxRecDepth 100000 in
set_option maxHeartbeats 1000000 in
theorem uint_short (g : Nat) (x : UInt8) (r : List UInt8) (most : Int) (w : World) (h : RR w g (x :: r) 0) (hx8 : x.toNat ≤ 8) (hs : r.length < x.toNat) : Calls Tryd.prog 32 #[.pointer (some ⟨g, 0, none⟩), .int .i64 most] w (Fell g w 3) := by
  have hcn := counted_short g (x :: r) w h (fun c r' e => by cases e; exact hs)
  obtain ⟨p, c, hrd, hh, _⟩ := h
  have he := rerr_any g _ 0 true w hrd
  simp only [if_true] at he
  obtain ⟨c0, c1, c2⟩ := hrd.cells
  obtain ⟨b, o, rfl, hc⟩ := hh.addr (by simp)
  have cx := hc 0 x rfl
  unfold bc at cx
  simp only [Nat.add_zero] at cx
  simp only [List.length_cons] at c0 hrd he
  have hx := x.toNat_lt
  have hx82 : (x.toNat : Int) ≤ 8 := by omega
  have hlen := hh.len.2
  unfold maxLen at hlen
  simp only [List.length_cons] at hlen
  have hl0 : (0 : Int) < (r.length : Int) + 1 := by omega
  clear hh hc
  go_enter Tryd.func32, Tryd.ntmps32
  go_wp2_with (first | (go_at_call 33; refine he.mono ?_; rintro e w' ⟨rfl, hw⟩; have hw2 := hw.symm; clear hw; subst hw2) | (go_at_call 62; refine hcn.mono ?_; rintro e w1 ⟨rfl, n1, hw1⟩; have hrd1 : RD w1 g (.slice (some ⟨b, o, none⟩) (r.length + 1) c) 0 true := (by rw [hw1]; exact hrd); have ho1 : Hid (Only g w w1) := (by show Only g w w1; rw [hw1]; exact (Only.refl g w).drewN n1); clear hw1) | (go_at_call 61; refine (fail_said g _ 3 _ hrd1).mono ?_; rintro e w2 ⟨rfl, hr2, ho2⟩))
  go_ret
  exact ⟨rfl, hr2, ho1.out.trans ho2⟩

end Go.Proofs.YtdjaemobfbbkoaaDoor

namespace Go.Proofs.YtdjaemobfbbkoaaDoor
open Go.RowKit

theorem valL_next (D : List UInt8) (k : Nat) (d : UInt8) (h : D[k]? = some d) : valL (D.take (k + 1)) = valL (D.take k) * 256 + d.toNat := by
  rw [List.take_add_one, h]
  exact valL_snoc _ _

theorem valL_take_lt (D : List UInt8) (k : Nat) (hk : k ≤ 7) : valL (D.take k) < 72057594037927936 := by
  have h1 := valL_lt (D.take k)
  have h2 : (256 : Nat) ^ (D.take k).length ≤ 256 ^ 7 := Nat.pow_le_pow_right (by omega) (by rw [List.length_take]; omega)
  have h3 : (256 : Nat) ^ 7 = 72057594037927936 := by decide
  omega

theorem wraps_u64 (n : Int) (h₀ : 0 ≤ n) (h₁ : n < 2 ^ 64) : IntKind.u64.wrap n = n := by rw [IntKind.wrap_u64]; omega
theorem or_low (V d : Nat) (hV : V < 72057594037927936) (hd : d < 256) : bits BinOp.or IntKind.u64 ((V : Int) * 256) (d : Int) = ((V * 256 + d : Nat) : Int) := by
  have h1 := (bits_nat .u64 64 (by decide) wraps_u64 (V * 256) d (by omega) (by omega)).2
  rw [show ((V * 256 : Nat) : Int) = (V : Int) * 256 by omega] at h1
  rw [h1]
  have h2 := Nat.two_pow_add_eq_or_of_lt (i := 8) (b := d) hd V
  rw [show (2 : Nat) ^ 8 * V = V * 256 by omega] at h2
  rw [← h2]

/-- What Uint answers. -/
def UintSaid (g : Nat) (w : World) (l : List UInt8) (most : Int) (x : Ending) (w' : World) : Prop := x = .returned (.int .i64 ((uintF l most).2.1 : Int)) ∧ RR w' g (uintF l most).2.2 (uintF l most).1 ∧ Only g w w'

set_option maxRecDepth 100000 in
set_option maxHeartbeats 2000000 in
theorem uint_pos (g : Nat) (x : UInt8) (r : List UInt8) (most : Int) (w : World) (h : RR w g (x :: r) 0) (hx1 : 1 ≤ x.toNat) (hx8 : x.toNat ≤ 8) (hs : x.toNat ≤ r.length) : Calls Tryd.prog 32 #[.pointer (some ⟨g, 0, none⟩), .int .i64 most] w (UintSaid g w (x :: r) most) := by
  obtain ⟨p, c, hrd, hh, hnb⟩ := h
  have he := rerr_any g _ 0 true w hrd
  simp only [if_true] at he
  obtain ⟨c0, c1, c2⟩ := hrd.cells
  obtain ⟨b, o, rfl, hc⟩ := hh.addr (by simp)
  have cx := hc 0 x rfl
  unfold bc at cx
  simp only [Nat.add_zero] at cx
  have hlen := hh.len.2
  unfold maxLen at hlen
  have hcn := counted_ok g x r w b o c hrd hh hs
  have ecut : cutP (some (⟨b, o, none⟩ : Addr)) c 1 = some ⟨b, o + 1, none⟩ := by
    unfold cutP
    rw [if_neg (by simp only [List.length_cons] at hlen; omega)]
    simp [Addr.add_lit]
  rw [ecut] at hcn
  obtain ⟨D, hD⟩ : ∃ D, D = r.take x.toNat := ⟨_, rfl⟩
  have hDl : D.length = x.toNat := by rw [hD, List.length_take]; omega
  have hDc : ∀ k d, D[k]? = some d → w.cell? ⟨b, o + 1 + k, none⟩ = some (.int .u8 (d.toNat : Int)) := by
    intro k d hd
    have := hc (k + 1) d (by rw [List.getElem?_cons_succ]; rw [hD, List.getElem?_take] at hd; split at hd; exact hd; cases hd)
    rw [show o + 1 + k = o + (k + 1) by omega]
    exact this
  obtain ⟨d0, D', hDD⟩ : ∃ d0 D', D = d0 :: D' := by
    cases D with
    | nil => simp at hDl; omega
    | cons d0 D' => exact ⟨d0, D', rfl⟩
  have cd0 := hDc 0 d0 (by rw [hDD]; rfl)
  simp only [Nat.add_zero] at cd0
  simp only [List.length_cons] at c0 hrd he hlen hh hnb
  have hx := x.toNat_lt
  have hd0 := d0.toNat_lt
  have hx82 : (x.toNat : Int) ≤ 8 := by omega
  have hl0 : (0 : Int) < (r.length : Int) + 1 := by omega
  have hx0 : (0 : Int) < (x.toNat : Int) := by omega
  clear hc
  by_cases hz : d0 = 0
  · have HU : Hid (uintF (x :: r) most = (5, 0, [])) := by
      show uintF (x :: r) most = (5, 0, [])
      simp only [uintF]
      rw [if_neg (by omega), if_neg (by omega), if_pos (by rw [← hD, hDD, hz]; rfl)]
    subst hz
    simp only [UInt8.toNat_zero] at cd0
    clear hD hDl hDD hDc hh hnb
    go_enter Tryd.func32, Tryd.ntmps32
    go_wp2_with (first | (go_at_call 33; refine he.mono ?_; rintro e w' ⟨rfl, hw⟩; have hw2 := hw.symm; clear hw; subst hw2) | (go_at_call 62; refine hcn.mono ?_; rintro e w1 ⟨rfl, n1, hw1⟩; have cd1 : w1.cell? ⟨b, o + 1, none⟩ = some (.int .u8 0) := (by rw [hw1]; exact cd0); have hrd1 : RD w1 g (.slice (some ⟨b, o, none⟩) (r.length + 1) c) 0 true := (by rw [hw1]; exact hrd); have ho1 : Hid (Only g w w1) := (by show Only g w w1; rw [hw1]; exact (Only.refl g w).drewN n1); clear hw1 cd0) | (go_at_call 61; refine (fail_said g _ 5 _ hrd1).mono ?_; rintro e w2 ⟨rfl, hr2, ho2⟩))
    go_ret
    refine ⟨?_, ?_, ho1.out.trans ho2⟩
    · rw [HU.out]; rfl
    · rw [HU.out]; exact hr2
  · have hzI : ¬ (d0.toNat : Int) = 0 := fun e => hz (UInt8.toNat_inj.1 (by simp; omega))
    have hzb : ((d0.toNat : Int) == 0) = false := by simpa using hzI
    go_enter Tryd.func32, Tryd.ntmps32
    go_wp2_with (first | (go_at_call 33; refine he.mono ?_; rintro e w' ⟨rfl, hw⟩; have hw2 := hw.symm; clear hw; subst hw2) | (go_at_call 62; refine hcn.mono ?_; rintro e w1 ⟨rfl, n1, hw1⟩; have cd1 : w1.cell? ⟨b, o + 1, none⟩ = some (.int .u8 (d0.toNat : Int)) := (by rw [hw1]; exact cd0); have hDc1 : ∀ k d, D[k]? = some d → w1.cell? ⟨b, o + 1 + k, none⟩ = some (.int .u8 (d.toNat : Int)) := (by rw [hw1]; exact hDc); have hrd1 : RD w1 g (.slice (some ⟨b, o, none⟩) (r.length + 1) c) 0 true := (by rw [hw1]; exact hrd); have hh1 : HBN w1 g (.slice (some ⟨b, o, none⟩) (r.length + 1) c) (x :: r) := (by rw [hw1]; exact ⟨hh, hnb⟩); have ho1 : Hid (Only g w w1) := (by show Only g w w1; rw [hw1]; exact (Only.refl g w).drewN n1); clear hw1 cd0 hDc hrd hh hnb c0 c1 c2 cx he hcn))
    go_loopw [7, 52] (fun n i wr => ∃ k : Nat, k ≤ x.toNat ∧ i = .int .i64 k ∧ n = .int .u64 (valL (D.take k) : Int) ∧ w1 = wr) (fun _ i _ => x.toNat - (intOf i).toNat)
    case atStart => exact ⟨0, Nat.zero_le _, rfl, rfl, rfl⟩
    case round =>
      obtain ⟨k, hk, rfl, rfl, rfl⟩ := hrel
      by_cases hlt : k < x.toNat
      · have gd : D[k]? = some (D[k]'(by omega)) := List.getElem?_eq_getElem (by omega)
        have cdk := hDc1 k _ gd
        have HVN := valL_next D k _ gd
        have hvl := valL_take_lt D k (by omega)
        generalize D[k]'(by omega) = d at *
        have HV : Hid (valL (D.take (k + 1)) = valL (D.take k) * 256 + d.toNat) := HVN
        generalize valL (D.take k) = V at *
        clear HVN gd
        have hd := d.toNat_lt
        have hlt2 : (k : Int) < (x.toNat : Int) := by omega
        have HO : Hid (bits BinOp.or IntKind.u64 ((V : Int) * 256) (d.toNat : Int) = ((V * 256 + d.toNat : Nat) : Int)) := or_low V d.toNat hvl hd
        go_wp2
        exact ⟨⟨k + 1, by omega, by go_num, by rw [HO.out, HV.out], trivial⟩, by simp [intOf]; omega⟩
      · obtain rfl : k = x.toNat := by omega
        have hV8 : valL D < 18446744073709551616 := by
          have h1 := valL_lt D
          have h2 : (256 : Nat) ^ D.length ≤ 256 ^ 8 := Nat.pow_le_pow_right (by omega) (by omega)
          have h3 : (256 : Nat) ^ 8 = 18446744073709551616 := by decide
          omega
        have hU : uintF (x :: r) most = if 4611686018427387904 < valL D then (5, 0, []) else if most < (valL D : Int) then (4, 0, []) else (0, valL D, r.drop x.toNat) := by
          simp only [uintF]
          rw [if_neg (by omega), if_neg (by omega), ← hD, if_neg (by rw [hDD]; simp; exact hz)]
        rw [List.take_of_length_le (by omega)]
        generalize valL D = V at *
        clear hDc1 hDD hD hz hzI hzb cd1 hDl
        by_cases hbig : 4611686018427387904 < V
        · rw [if_pos hbig] at hU
          have HU : Hid (uintF (x :: r) most = (5, 0, [])) := hU
          have hb2 : (4611686018427387904 : Int) < (V : Int) := by omega
          clear hU
          go_wp2_with (first | (go_at_call 61; refine (fail_said g _ 5 _ hrd1).mono ?_; rintro e w2 ⟨rfl, hr2, ho2⟩))
          go_ret
          refine ⟨?_, ?_, ho1.out.trans ho2⟩
          · rw [HU.out]; rfl
          · rw [HU.out]; exact hr2
        · rw [if_neg hbig] at hU
          have hb2 : (V : Int) ≤ 4611686018427387904 := by omega
          by_cases hmost : most < (V : Int)
          · rw [if_pos hmost] at hU
            have HU : Hid (uintF (x :: r) most = (4, 0, [])) := hU
            clear hU
            go_wp2_with (first | (go_at_call 61; refine (fail_said g _ 4 _ hrd1).mono ?_; rintro e w2 ⟨rfl, hr2, ho2⟩))
            go_ret
            refine ⟨?_, ?_, ho1.out.trans ho2⟩
            · rw [HU.out]; rfl
            · rw [HU.out]; exact hr2
          · rw [if_neg hmost] at hU
            have HU : Hid (uintF (x :: r) most = (0, V, r.drop x.toNat)) := hU
            have hm2 : (V : Int) ≤ most := by omega
            have hd : decide (most < (V : Int)) = false := by simpa using hmost
            obtain ⟨c0, c1, c2⟩ := hrd1.cells
            have f0 := hrd1.free 0
            have k3 : ∀ w, (Instr.slice 22 (.slice (some ⟨b, o, none⟩) (r.length + 1) c) (some (.int .i64 (1 + (x.toNat : Int)))) none none).run Tryd.prog w = .ok (.slice (cutP (some ⟨b, o, none⟩) c (1 + x.toNat)) (r.length - x.toNat) (c - (1 + x.toNat))) w := by
              intro w
              have := run_cut (P := Tryd.prog) Tryd.underlying22 s_u8 (some ⟨b, o, none⟩) (r.length + 1) c (1 + x.toNat) (1 + (x.toNat : Int)) (by omega) (by omega) w
              rw [this, show r.length + 1 - (1 + x.toNat) = r.length - x.toNat by omega]
            have hbh := hh1.behind (1 + x.toNat) (by omega)
            rw [show r.length + 1 - (1 + x.toNat) = r.length - x.toNat by omega, show (x :: r).drop (1 + x.toNat) = r.drop x.toNat by rw [Nat.add_comm, List.drop_succ_cons]] at hbh
            have HDL : Hid ((r.drop x.toNat).length = r.length - x.toNat) := by show _ = _; rw [List.length_drop]
            have HRD : Hid (RD w1 g (.slice (some ⟨b, o, none⟩) (r.length + 1) c) 0 true) := hrd1
            have HBH : Hid (HBN w1 g (.slice (cutP (some ⟨b, o, none⟩) c (1 + x.toNat)) (r.length - x.toNat) (c - (1 + x.toNat))) (r.drop x.toNat)) := hbh
            clear hU hbh hrd1 hh1
            go_wp2
            go_ret
            refine ⟨?_, ?_, ho1.out.trans ((Only.refl g w1).setCell 0 _)⟩
            · rw [HU.out]; rfl
            · rw [HU.out]
              refine ⟨cutP (some ⟨b, o, none⟩) c (1 + x.toNat), c - (1 + x.toNat), ?_, ?_⟩
              · rw [HDL.out]
                exact HRD.out.put0 _
              · rw [HDL.out]
                exact HBH.out.only ((Only.refl g w1).setCell 0 _)

end Go.Proofs.YtdjaemobfbbkoaaDoor

namespace Go.Proofs.YtdjaemobfbbkoaaDoor
open Go.RowKit

set_option maxRecDepth 100000 in
set_option maxHeartbeats 2000000 in
theorem uint_zero (g : Nat) (x : UInt8) (r : List UInt8) (most : Int) (w : World) (h : RR w g (x :: r) 0) (hx0 : x.toNat = 0) : Calls Tryd.prog 32 #[.pointer (some ⟨g, 0, none⟩), .int .i64 most] w (UintSaid g w (x :: r) most) := by
  obtain rfl : x = 0 := UInt8.toNat_inj.1 (by simpa using hx0)
  obtain ⟨p, c, hrd, hh, hnb⟩ := h
  have he := rerr_any g _ 0 true w hrd
  simp only [if_true] at he
  obtain ⟨c0, c1, c2⟩ := hrd.cells
  obtain ⟨b, o, rfl, hc⟩ := hh.addr (by simp)
  have cx := hc 0 0 rfl
  unfold bc at cx
  simp only [Nat.add_zero, UInt8.toNat_zero] at cx
  have hlen := hh.len.2
  unfold maxLen at hlen
  have hcn := counted_ok g 0 r w b o c hrd hh (by simp)
  simp only [UInt8.toNat_zero] at hcn
  simp only [List.length_cons] at c0 hrd he hlen hh hnb
  have hl0 : (0 : Int) < (r.length : Int) + 1 := by omega
  have hU : uintF (0 :: r) most = if most < 0 then (4, 0, []) else (0, 0, r) := by simp [uintF, valL]
  clear hc hx0
  by_cases hmost : most < 0
  · rw [if_pos hmost] at hU
    have HU : Hid (uintF (0 :: r) most = (4, 0, [])) := hU
    clear hU
    go_enter Tryd.func32, Tryd.ntmps32
    go_wp2_with (first | (go_at_call 33; refine he.mono ?_; rintro e w' ⟨rfl, hw⟩; have hw2 := hw.symm; clear hw; subst hw2) | (go_at_call 62; refine hcn.mono ?_; rintro e w1 ⟨rfl, n1, hw1⟩; have hrd1 : RD w1 g (.slice (some ⟨b, o, none⟩) (r.length + 1) c) 0 true := (by rw [hw1]; exact hrd); have ho1 : Hid (Only g w w1) := (by show Only g w w1; rw [hw1]; exact (Only.refl g w).drewN n1); clear hw1))
    go_loopw [7, 52] (fun n i wr => i = .int .i64 0 ∧ n = .int .u64 0 ∧ w1 = wr) (fun _ _ _ => 0)
    case atStart => exact ⟨rfl, rfl, rfl⟩
    case round =>
      obtain ⟨rfl, rfl, rfl⟩ := hrel
      go_wp2_with (first | (go_at_call 61; refine (fail_said g _ 4 _ hrd1).mono ?_; rintro e w2 ⟨rfl, hr2, ho2⟩))
      go_ret
      refine ⟨?_, ?_, ho1.out.trans ho2⟩
      · rw [HU.out]; rfl
      · rw [HU.out]; exact hr2
  · rw [if_neg hmost] at hU
    have HU : Hid (uintF (0 :: r) most = (0, 0, r)) := hU
    have hd : decide (most < 0) = false := by simpa using hmost
    have hm2 : 0 ≤ most := by omega
    have k3 : ∀ w, (Instr.slice 22 (.slice (some ⟨b, o, none⟩) (r.length + 1) c) (some (.int .i64 1)) none none).run Tryd.prog w = .ok (.slice (cutP (some ⟨b, o, none⟩) c 1) r.length (c - 1)) w := by
      intro w
      have := run_cut (P := Tryd.prog) Tryd.underlying22 s_u8 (some ⟨b, o, none⟩) (r.length + 1) c 1 1 rfl (by omega) w
      rwa [show r.length + 1 - 1 = r.length by omega] at this
    have hbh := HBN.behind (g := g) ⟨hh, hnb⟩ 1 (by omega)
    rw [show r.length + 1 - 1 = r.length by omega] at hbh
    simp only [List.drop_succ_cons, List.drop_zero] at hbh
    clear hU hh hnb
    go_enter Tryd.func32, Tryd.ntmps32
    go_wp2_with (first | (go_at_call 33; refine he.mono ?_; rintro e w' ⟨rfl, hw⟩; have hw2 := hw.symm; clear hw; subst hw2) | (go_at_call 62; refine hcn.mono ?_; rintro e w1 ⟨rfl, n1, hw1⟩; have hrd1 : RD w1 g (.slice (some ⟨b, o, none⟩) (r.length + 1) c) 0 true := (by rw [hw1]; exact hrd); have hbh1 : HBN w1 g (.slice (cutP (some ⟨b, o, none⟩) c 1) r.length (c - 1)) r := (by rw [hw1]; exact hbh); have ho1 : Hid (Only g w w1) := (by show Only g w w1; rw [hw1]; exact (Only.refl g w).drewN n1); clear hw1 hbh c0 c1 c2 cx hrd he hcn))
    go_loopw [7, 52] (fun n i wr => i = .int .i64 0 ∧ n = .int .u64 0 ∧ w1 = wr) (fun _ _ _ => 0)
    case atStart => exact ⟨rfl, rfl, rfl⟩
    case round =>
      obtain ⟨rfl, rfl, rfl⟩ := hrel
      obtain ⟨c0, c1, c2⟩ := hrd1.cells
      have f0 := hrd1.free 0
      go_wp2
      go_ret
      refine ⟨?_, ?_, ho1.out.trans ((Only.refl g w1).setCell 0 _)⟩
      · rw [HU.out]; rfl
      · rw [HU.out]
        exact ⟨cutP (some ⟨b, o, none⟩) c 1, c - 1, hrd1.put0 _, hbh1.only ((Only.refl g w1).setCell 0 _)⟩

theorem uint_any (g : Nat) (l : List UInt8) (most : Int) (w : World) (h : RR w g l 0) : Calls Tryd.prog 32 #[.pointer (some ⟨g, 0, none⟩), .int .i64 most] w (UintSaid g w l most) := by
  cases l with
  | nil => exact uint_nil g most w h
  | cons x r =>
    by_cases h8 : 8 < x.toNat
    · refine (uint_big g x r most w h h8).mono fun y w' ⟨h1, h2, h3⟩ => ?_
      have hU : uintF (x :: r) most = (5, 0, []) := by simp only [uintF]; rw [if_pos h8]
      exact ⟨by rw [hU]; exact h1, by rw [hU]; exact h2, h3⟩
    · by_cases hs : r.length < x.toNat
      · refine (uint_short g x r most w h (by omega) hs).mono fun y w' ⟨h1, h2, h3⟩ => ?_
        have hU : uintF (x :: r) most = (3, 0, []) := by simp only [uintF]; rw [if_neg h8, if_pos hs]
        exact ⟨by rw [hU]; exact h1, by rw [hU]; exact h2, h3⟩
      · by_cases h0 : x.toNat = 0
        · exact uint_zero g x r most w h h0
        · exact uint_pos g x r most w h (by omega) (by omega) (by omega)

theorem RR.rd {w : World} {g : Nat} {l : List UInt8} {e : Int} (h : RR w g l e) : ∃ v, RD w g v e true := by
  obtain ⟨p, c, h1, _⟩ := h
  exact ⟨_, h1⟩

theorem rr_err (g : Nat) (l : List UInt8) (e : Int) (w : World) (h : RR w g l e) : Calls Tryd.prog 33 #[.pointer (some ⟨g, 0, none⟩)] w fun x w' => x = .returned (.int .i64 e) ∧ w' = w := by
  obtain ⟨v, h1⟩ := h.rd
  exact rerr_any g v e true w h1

theorem rr_left (g : Nat) (l : List UInt8) (e : Int) (w : World) (h : RR w g l e) : Calls Tryd.prog 34 #[.pointer (some ⟨g, 0, none⟩)] w fun x w' => x = .returned (.int .i64 (l.length : Int)) ∧ w' = w := by
  obtain ⟨p, c, h1, _⟩ := h
  exact rleft_any g p l.length c e true w h1

/-- Behind an error nothing is read. -/
theorem uint_stays (g : Nat) (l : List UInt8) (e most : Int) (w : World) (h : RR w g l e) (he : e ≠ 0) : Calls Tryd.prog 32 #[.pointer (some ⟨g, 0, none⟩), .int .i64 most] w fun x w' => x = .returned (.int .i64 0) ∧ w' = w := by
  have k := rr_err g l e w h
  have hd : (e == 0) = false := by simpa using he
  clear h
  go_enter Tryd.func32, Tryd.ntmps32
  go_wp2_with (first | (go_at_call 33; refine k.mono ?_; rintro e w' ⟨rfl, rfl⟩))
  go_ret
  exact ⟨rfl, rfl⟩

end Go.Proofs.YtdjaemobfbbkoaaDoor

namespace Go.Proofs.YtdjaemobfbbkoaaDoor
open Go.RowKit

/-- 'copy(dst, src)', dst a whole row of n bytes that the call owns, src of n bytes or more. -/
theorem wpList_copy_part {P : Program} {w : World} {ops : Array Oper} {rest : List Oper} {o : Oper} {a : Act} {Q : Exit → Act → World → Prop} (hgd : o.guard = none) (d s : Operand) (dT sT : TypeId)
    (ho : o.op = .call { callee := .builtin .copy, args := #[d, s], argTypes := #[dT, sT] }) (e : TypeId) (hu : P.underlying dT = some (.slice e)) (hsz : (P.info? e).map (·.size) = some 1)
    (g n : Nat) (p : Option Addr) (m c : Nat) (hd : a.eval d = .slice (some ⟨g, 0, none⟩) n n) (hs : a.eval s = .slice p m c)
    (base : Nat) (xs : List Value) (hown : w.ownsRow base e 1 (.slice (some ⟨g, 0, none⟩) n n) n xs) (l : List UInt8) (hsrc : HB w (.slice p m c) l) (hl : n ≤ m)
    (h : ∀ w', w'.ownsRow base e 1 (.slice (some ⟨g, 0, none⟩) n n) n (bcs (l.take n)) → w.grownBy w' (some g) → wpList P ops Q rest (a.put o.dst (goInt n)) w') : wpList P ops Q (o :: rest) a w := by
  have hm := hsrc.len.1
  rcases Nat.eq_zero_or_pos n with h0 | h0
  · subst h0
    refine wpList_copy_nothing hgd d s dT sT ho e hu hsz _ _ _ _ _ _ hd hs (Nat.min_zero m) (h w ?_ (World.grownBy.refl _ _))
    obtain ⟨q1, q2⟩ := hown
    obtain rfl : xs = [] := List.eq_nil_of_length_eq_zero (by simpa using q1)
    rw [List.take_zero]
    exact ⟨q1, q2⟩
  · obtain ⟨b, o', rfl, hc⟩ := hsrc.addr (by omega)
    obtain ⟨q1, q2⟩ := hown
    rcases q2 with ⟨q3, _⟩ | ⟨g', cap, cur, q3, hb, hg, hle, hmx, hcs, htk⟩
    · cases q3
    · simp only [Value.slice.injEq, Option.some.injEq, Addr.mk.injEq, and_true, true_and] at q3
      obtain ⟨rfl, rfl⟩ := q3
      have hlen : (bcs (l.take n)).length = n := by rw [bcs_length, List.length_take]; omega
      have hcells := (hsrc.front n hl).cells
      refine wpList_copy_own hgd d s dT sT ho e hu hsz g 0 n n ⟨b, o', none⟩ m c hd hs cur e hg (bcs (l.take n)) (by rw [hlen]; exact (Nat.min_eq_right hl).symm) hcells (by rw [hlen]; omega) (bcs_one _) ?_
      rw [hlen]
      refine h _ ⟨by rw [hlen]; omega, .inr ⟨g, n, _, rfl, hb, setRow_heap w g cur _ e (0, 0) hg, Nat.le_refl _, hmx, ?_, ?_⟩⟩ (grownBy_setRow w g _)
      · simp [hlen]
        omega
      · simp [hlen]

theorem wpList_copy_into {P : Program} {w : World} {ops : Array Oper} {rest : List Oper} {o : Oper} {a : Act} {Q : Exit → Act → World → Prop} (hgd : o.guard = none) (d s : Operand) (dT sT : TypeId)
    (ho : o.op = .call { callee := .builtin .copy, args := #[d, s], argTypes := #[dT, sT] }) (e : TypeId) (hu : P.underlying dT = some (.slice e)) (hsz : (P.info? e).map (·.size) = some 1)
    (g n : Nat) (p : Option Addr) (m c : Nat) (hd : a.eval d = .slice (some ⟨g, 0, none⟩) n n) (hs : a.eval s = .slice p m c)
    (base : Nat) (x : List UInt8) (hown : w.ownsRow base e 1 (.slice (some ⟨g, 0, none⟩) n n) n (bcs x)) (l : List UInt8) (hsrc : HB w (.slice p m c) l)
    (h : ∀ w' k, w'.ownsRow base e 1 (.slice (some ⟨g, 0, none⟩) n n) n (bcs (l.take n ++ x.drop l.length)) → w.grownBy w' (some g) → wpList P ops Q rest (a.put o.dst (goInt k)) w') : wpList P ops Q (o :: rest) a w := by
  have hm := hsrc.len.1
  have hx : x.length = n := by have := hown.1; rw [bcs_length] at this; omega
  rcases Nat.le_total m n with hle | hle
  · refine wpList_copy_front hgd d s dT sT ho e hu hsz g n p m c hd hs base (bcs x) hown l hsrc hle fun w' o' hg => h w' m ?_ hg
    rw [List.take_of_length_le (by omega), bcs_append, ← bcs_drop, ← hm]
    exact o'
  · refine wpList_copy_part hgd d s dT sT ho e hu hsz g n p m c hd hs base (bcs x) hown l hsrc hle fun w' o' hg => h w' n ?_ hg
    rw [List.drop_eq_nil_of_le (by omega), List.append_nil]
    exact o'

end Go.Proofs.YtdjaemobfbbkoaaDoor

namespace Go.Proofs.YtdjaemobfbbkoaaDoor
open Go.RowKit

/-- What Flag answers. -/
def FlagSaid (g : Nat) (w : World) (l : List UInt8) (x : Ending) (w' : World) : Prop := x = .returned (.bool (flagF l).2.1) ∧ RR w' g (flagF l).2.2 (flagF l).1 ∧ Only g w w'

theorem uintF_le (l : List UInt8) (most : Int) : (uintF l most).2.2.length ≤ l.length := by
  cases l with
  | nil => simp [uintF]
  | cons x r =>
    simp only [uintF]
    repeat' split
    all_goals simp
    omega

theorem uintF_err (l : List UInt8) (most : Int) : (uintF l most).1 = 0 ∨ (uintF l most).1 = 3 ∨ (uintF l most).1 = 4 ∨ (uintF l most).1 = 5 := by
  cases l with
  | nil => simp [uintF]
  | cons x r =>
    simp only [uintF]
    repeat' split
    all_goals simp

theorem uintF_fell (l : List UInt8) (most : Int) (h : (uintF l most).1 ≠ 0) : (uintF l most).2 = (0, []) := by
  cases l with
  | nil => simp [uintF]
  | cons x r =>
    revert h
    simp only [uintF]
    repeat' split
    all_goals simp

/-- What Bytes answers. -/
def BytesSaid (g : Nat) (w : World) (l : List UInt8) (most : Int) (x : Ending) (w' : World) : Prop := ∃ p c, x = .returned (.slice p (bytesF l most).2.1.length c) ∧ HBN w' g (.slice p (bytesF l most).2.1.length c) (bytesF l most).2.1 ∧ RR w' g (bytesF l most).2.2 (bytesF l most).1 ∧ Only g w w'

set_option maxRecDepth 100000 in
set_option maxHeartbeats 1000000 in
theorem open_any (v : Value) (l : List UInt8) (w : World) (h : HB w v l) (hsz : l.length ≤ 140737488355328) :
    Calls Tryd.prog 31 #[v] w fun x w' => ∃ g, w.heap.size ≤ g ∧ x = .returned (.pointer (some ⟨g, 0, none⟩)) ∧ RR w' g l 0 ∧ Below w.heap.size w w' := by
  obtain ⟨p, c, rfl⟩ := h.shape
  go_enter Tryd.func31, Tryd.ntmps31
  go_wp2_with (first | (at_builtin; refine wpList_append_hb rfl (.const (.slice none 0 0)) (.tmp 3) 22 rfl w.heap.size 5 Tryd.underlying22 i_u8 _ 0 [] rfl (World.ownsRow_nil w _ _ _) _ _ _ l rfl h ?qa ?qb ?_))
  case qa => omega
  case qb => exact Nat.le_refl _
  intro v1 w1 hown1 hgrow1
  have hb1 : Below w.heap.size w w1 := (Below.refl _ w).grown hgrow1 (Nat.le_refl _) (by intro k hk; cases hk)
  have hown1' : w1.ownsRow w.heap.size 5 1 v1 l.length (bcs l) := by simpa using hown1
  have hlt := hown1'.lt
  obtain ⟨p1, c1, rfl⟩ := owns_shape hown1'
  have hh := HB.of_owns hown1'
  clear hgrow1 hown1 hown1'
  go_wp2
  go_ret
  refine ⟨w1.heap.size, hb1.size, rfl, ⟨p1, c1, heap_alloc_new w1 _, hh.later ((Below.refl _ w1).alloc (Nat.le_refl _) _), fun a n c e => ?_⟩, hb1.alloc hb1.size _⟩
  have := (hlt a.block (by rw [e]; rfl)).2
  omega

end Go.Proofs.YtdjaemobfbbkoaaDoor
