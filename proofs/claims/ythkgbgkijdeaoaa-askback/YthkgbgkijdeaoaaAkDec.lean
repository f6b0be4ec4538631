/- What this text holds: what ask.Decode reads of bytes, plainly (no walk). (By program: mkaktr.py.) -/
import Derived.Test.YthkgbgkijdeaoaaAkRBatch
namespace Go.Proofs.Ythkgbgkijdeaoaa
open Go.RowKit

/-- The first of two errors. -/
def andE (a b : Int) : Int := if a = 0 then b else a
theorem andE_pos {a b : Int} (h : a = 0) : andE a b = b := if_pos h
theorem andE_neg {a b : Int} (h : a ≠ 0) : andE a b = a := if_neg h
theorem andE_z {a b : Int} (h : andE a b = 0) : a = 0 ∧ b = 0 := by
  unfold andE at h
  split at h
  · exact ⟨by assumption, h⟩
  · contradiction

/-- A request, but for its kind. -/
structure AP where
  id : List UInt8
  fr : Nat
  to : Nat
  ti : Nat
  so : Bool
  ep : Nat
  ix : Nat
  li : Nat
  bs : List (List UInt8 × List UInt8)
def AP0 : AP := ⟨[], 0, 0, 0, false, 0, 0, 0, []⟩

/-- Some numbers, one behind the other, into a request's cells. -/
def numsF : List Nat → List UInt8 → Array Value → Int × List UInt8 × Array Value
  | [], l, cs => (0, l, cs)
  | i :: r, l, cs => (andE (uintF l 2147483648).1 (numsF r (uintF l 2147483648).2.2 (cs.setIfInBounds i (.int .i64 ((uintF l 2147483648).2.1 : Int)))).1, (numsF r (uintF l 2147483648).2.2 (cs.setIfInBounds i (.int .i64 ((uintF l 2147483648).2.1 : Int)))).2)

/-- So many numbers, one behind the other. -/
def numsG : Nat → List UInt8 → Int × List UInt8 × List Nat
  | 0, l => (0, l, [])
  | n + 1, l => (andE (uintF l 2147483648).1 (numsG n (uintF l 2147483648).2.2).1, (numsG n (uintF l 2147483648).2.2).2.1, (uintF l 2147483648).2.1 :: (numsG n (uintF l 2147483648).2.2).2.2)

def dec1 (l : List UInt8) : Int × List UInt8 × AP := ((crS 24 48 l).2.2, (crS 24 48 l).2.1, { AP0 with bs := (crS 24 48 l).1 })
def dec2 (l : List UInt8) : Int × List UInt8 × AP := ((uintF l 1125899906842624).1, (uintF l 1125899906842624).2.2, { AP0 with ti := (uintF l 1125899906842624).2.1 })
def dec3 (l : List UInt8) : Int × List UInt8 × AP := ((andE (bytesF l 24).1 (uintF (bytesF l 24).2.2 2147483648).1), (uintF (bytesF l 24).2.2 2147483648).2.2, { AP0 with id := (bytesF l 24).2.1, to := (uintF (bytesF l 24).2.2 2147483648).2.1 })
def dec4 (l : List UInt8) : Int × List UInt8 × AP := ((andE (bytesF l 24).1 (andE (uintF (bytesF l 24).2.2 1125899906842624).1 (uintF (uintF (bytesF l 24).2.2 1125899906842624).2.2 2147483648).1)), (uintF (uintF (bytesF l 24).2.2 1125899906842624).2.2 2147483648).2.2, { AP0 with id := (bytesF l 24).2.1, ti := (uintF (bytesF l 24).2.2 1125899906842624).2.1, to := (uintF (uintF (bytesF l 24).2.2 1125899906842624).2.2 2147483648).2.1 })
def dec5 (l : List UInt8) : Int × List UInt8 × AP := ((andE (bytesF l 24).1 (numsG 2 (bytesF l 24).2.2).1), (numsG 2 (bytesF l 24).2.2).2.1, { AP0 with id := (bytesF l 24).2.1, fr := (numsG 2 (bytesF l 24).2.2).2.2.getD 0 0, to := (numsG 2 (bytesF l 24).2.2).2.2.getD 1 0 })
def dec6a (l : List UInt8) : Int × List UInt8 × AP := ((andE (numsG 2 l).1 (andE (flagF (numsG 2 l).2.1).1 (andE (bytesF (flagF (numsG 2 l).2.1).2.2 24).1 (uintF (bytesF (flagF (numsG 2 l).2.1).2.2 24).2.2 2147483648).1))), (uintF (bytesF (flagF (numsG 2 l).2.1).2.2 24).2.2 2147483648).2.2, { AP0 with fr := (numsG 2 l).2.2.getD 0 0, to := (numsG 2 l).2.2.getD 1 0, so := (flagF (numsG 2 l).2.1).2.1, id := (bytesF (flagF (numsG 2 l).2.1).2.2 24).2.1, li := (uintF (bytesF (flagF (numsG 2 l).2.1).2.2 24).2.2 2147483648).2.1 })
def dec6b (l : List UInt8) : Int × List UInt8 × AP := ((andE (numsG 2 l).1 (andE (flagF (numsG 2 l).2.1).1 (uintF (flagF (numsG 2 l).2.1).2.2 2147483648).1)), (uintF (flagF (numsG 2 l).2.1).2.2 2147483648).2.2, { AP0 with fr := (numsG 2 l).2.2.getD 0 0, to := (numsG 2 l).2.2.getD 1 0, so := (flagF (numsG 2 l).2.1).2.1, li := (uintF (flagF (numsG 2 l).2.1).2.2 2147483648).2.1 })
def dec7 (l : List UInt8) : Int × List UInt8 × AP := ((numsG 5 l).1, (numsG 5 l).2.1, { AP0 with fr := (numsG 5 l).2.2.getD 0 0, to := (numsG 5 l).2.2.getD 1 0, ep := (numsG 5 l).2.2.getD 2 0, ix := (numsG 5 l).2.2.getD 3 0, li := (numsG 5 l).2.2.getD 4 0 })
def dec10 (l : List UInt8) : Int × List UInt8 × AP := ((andE (bytesF l 24).1 (numsG 3 (bytesF l 24).2.2).1), (numsG 3 (bytesF l 24).2.2).2.1, { AP0 with id := (bytesF l 24).2.1, fr := (numsG 3 (bytesF l 24).2.2).2.2.getD 0 0, to := (numsG 3 (bytesF l 24).2.2).2.2.getD 1 0, li := (numsG 3 (bytesF l 24).2.2).2.2.getD 2 0 })
def dec6 (l : List UInt8) : Int × List UInt8 × AP := if (flagF (numsG 2 l).2.1).2.1 = true then dec6a l else dec6b l

/-- What a kind has. -/
def decB (k : Nat) (l : List UInt8) : Int × List UInt8 × AP :=
  if k = 1 then dec1 l else if k = 2 then dec2 l else if k = 3 then dec3 l else if k = 4 then dec4 l else if k = 5 then dec5 l else if k = 6 then dec6 l else if k = 7 then dec7 l else if k = 10 then dec10 l else if k = 8 ∨ k = 9 then (0, l, AP0) else (87, l, AP0)

end Go.Proofs.Ythkgbgkijdeaoaa
