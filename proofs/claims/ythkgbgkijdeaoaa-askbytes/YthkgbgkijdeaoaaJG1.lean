/- What this text proves: plain facts: what the document's fields read of bytes is what ask.Decode reads (no walk). (By program: mkakrplain.py.) What this text proves: the walk of annalsref25.fields over this program, whatever the kind (but for a batch), by one contract. (By program: mkakrfall.py.) -/
import Derived.Test.YthkgbgkijdeaoaaJAkRFields
namespace Go.Proofs.Ythkgbgkijdeaoaa
open Go.RowKit

theorem rdZ : (∀ l m, rdU l 0 m = uintF l m) ∧ (∀ l m, rdB l 0 m = bytesF l m) ∧ (∀ l, rdG l 0 = flagF l) ∧ ∀ b, andE 0 b = b := ⟨fun _ _ => if_pos rfl, fun _ _ => if_pos rfl, fun _ => if_pos rfl, fun _ => if_pos rfl⟩
theorem rdN {e : Int} (h : e ≠ 0) : (∀ l m, (rdU l e m).1 = e) ∧ (∀ l m, (rdB l e m).1 = e) ∧ (∀ l, (rdG l e).1 = e) ∧ ∀ b, andE e b = e := ⟨fun _ _ => by unfold rdU; rw [if_neg h], fun _ _ => by unfold rdB; rw [if_neg h], fun _ => by unfold rdG; rw [if_neg h], fun _ => if_neg h⟩

theorem rchE2 (l : List UInt8) : (rch2 l).1 = (dec2 l).1 ∧ ((dec2 l).1 = 0 → (rch2 l).2 = (dec2 l).2) := by
  unfold rch2 dec2
  simp only [rdZ]
  by_cases h1 : (uintF l 1125899906842624).1 = 0
  rotate_left
  · first | exact ⟨rfl, fun h => absurd h h1⟩ | exact ⟨trivial, fun h => absurd h h1⟩ | (simp only [rdN h1]; first | exact ⟨trivial, fun h => absurd h h1⟩ | exact ⟨rfl, fun h => absurd h h1⟩)
  simp only [h1]
  exact ⟨by first | rfl | trivial, fun _ => by first | rfl | trivial⟩

theorem rchE3 (l : List UInt8) : (rch3 l).1 = (dec3 l).1 ∧ ((dec3 l).1 = 0 → (rch3 l).2 = (dec3 l).2) := by
  unfold rch3 dec3
  simp only [rdZ]
  by_cases h1 : (bytesF l 24).1 = 0
  rotate_left
  · first | exact ⟨rfl, fun h => absurd h h1⟩ | exact ⟨trivial, fun h => absurd h h1⟩ | (simp only [rdN h1]; first | exact ⟨trivial, fun h => absurd h h1⟩ | exact ⟨rfl, fun h => absurd h h1⟩)
  simp only [h1, rdZ]
  by_cases h2 : (uintF (bytesF l 24).2.2 2147483648).1 = 0
  rotate_left
  · first | exact ⟨rfl, fun h => absurd h h2⟩ | exact ⟨trivial, fun h => absurd h h2⟩ | (simp only [rdN h2]; first | exact ⟨trivial, fun h => absurd h h2⟩ | exact ⟨rfl, fun h => absurd h h2⟩)
  simp only [h2]
  exact ⟨by first | rfl | trivial, fun _ => by first | rfl | trivial⟩

theorem rchE4 (l : List UInt8) : (rch4 l).1 = (dec4 l).1 ∧ ((dec4 l).1 = 0 → (rch4 l).2 = (dec4 l).2) := by
  unfold rch4 dec4
  simp only [rdZ]
  by_cases h1 : (bytesF l 24).1 = 0
  rotate_left
  · first | exact ⟨rfl, fun h => absurd h h1⟩ | exact ⟨trivial, fun h => absurd h h1⟩ | (simp only [rdN h1]; first | exact ⟨trivial, fun h => absurd h h1⟩ | exact ⟨rfl, fun h => absurd h h1⟩)
  simp only [h1, rdZ]
  by_cases h2 : (uintF (bytesF l 24).2.2 1125899906842624).1 = 0
  rotate_left
  · first | exact ⟨rfl, fun h => absurd h h2⟩ | exact ⟨trivial, fun h => absurd h h2⟩ | (simp only [rdN h2]; first | exact ⟨trivial, fun h => absurd h h2⟩ | exact ⟨rfl, fun h => absurd h h2⟩)
  simp only [h2, rdZ]
  by_cases h3 : (uintF (uintF (bytesF l 24).2.2 1125899906842624).2.2 2147483648).1 = 0
  rotate_left
  · first | exact ⟨rfl, fun h => absurd h h3⟩ | exact ⟨trivial, fun h => absurd h h3⟩ | (simp only [rdN h3]; first | exact ⟨trivial, fun h => absurd h h3⟩ | exact ⟨rfl, fun h => absurd h h3⟩)
  simp only [h3]
  exact ⟨by first | rfl | trivial, fun _ => by first | rfl | trivial⟩

theorem rchE5 (l : List UInt8) : (rch5 l).1 = (dec5 l).1 ∧ ((dec5 l).1 = 0 → (rch5 l).2 = (dec5 l).2) := by
  unfold rch5 dec5
  simp only [numsG, rdZ]
  by_cases h1 : (bytesF l 24).1 = 0
  rotate_left
  · first | exact ⟨rfl, fun h => absurd h h1⟩ | exact ⟨trivial, fun h => absurd h h1⟩ | (simp only [rdN h1]; first | exact ⟨trivial, fun h => absurd h h1⟩ | exact ⟨rfl, fun h => absurd h h1⟩)
  simp only [h1, rdZ]
  by_cases h2 : (uintF (bytesF l 24).2.2 2147483648).1 = 0
  rotate_left
  · first | exact ⟨rfl, fun h => absurd h h2⟩ | exact ⟨trivial, fun h => absurd h h2⟩ | (simp only [rdN h2]; first | exact ⟨trivial, fun h => absurd h h2⟩ | exact ⟨rfl, fun h => absurd h h2⟩)
  simp only [h2, rdZ]
  by_cases h3 : (uintF (uintF (bytesF l 24).2.2 2147483648).2.2 2147483648).1 = 0
  rotate_left
  · first | exact ⟨rfl, fun h => absurd h h3⟩ | exact ⟨trivial, fun h => absurd h h3⟩ | (simp only [rdN h3]; first | exact ⟨trivial, fun h => absurd h h3⟩ | exact ⟨rfl, fun h => absurd h h3⟩)
  simp only [h3, rdZ]
  exact ⟨by first | rfl | trivial, fun _ => by first | rfl | trivial⟩

theorem rchE6a (l : List UInt8) : (rch6a l).1 = (dec6a l).1 ∧ ((dec6a l).1 = 0 → (rch6a l).2 = (dec6a l).2) := by
  unfold rch6a dec6a
  simp only [numsG, rdZ]
  by_cases h1 : (uintF l 2147483648).1 = 0
  rotate_left
  · first | exact ⟨rfl, fun h => absurd h h1⟩ | exact ⟨trivial, fun h => absurd h h1⟩ | (simp only [rdN h1]; first | exact ⟨trivial, fun h => absurd h h1⟩ | exact ⟨rfl, fun h => absurd h h1⟩)
  simp only [h1, rdZ]
  by_cases h2 : (uintF (uintF l 2147483648).2.2 2147483648).1 = 0
  rotate_left
  · first | exact ⟨rfl, fun h => absurd h h2⟩ | exact ⟨trivial, fun h => absurd h h2⟩ | (simp only [rdN h2]; first | exact ⟨trivial, fun h => absurd h h2⟩ | exact ⟨rfl, fun h => absurd h h2⟩)
  simp only [h2, rdZ]
  by_cases h3 : (flagF (uintF (uintF l 2147483648).2.2 2147483648).2.2).1 = 0
  rotate_left
  · first | exact ⟨rfl, fun h => absurd h h3⟩ | exact ⟨trivial, fun h => absurd h h3⟩ | (simp only [rdN h3]; first | exact ⟨trivial, fun h => absurd h h3⟩ | exact ⟨rfl, fun h => absurd h h3⟩)
  simp only [h3, rdZ]
  by_cases h4 : (bytesF (flagF (uintF (uintF l 2147483648).2.2 2147483648).2.2).2.2 24).1 = 0
  rotate_left
  · first | exact ⟨rfl, fun h => absurd h h4⟩ | exact ⟨trivial, fun h => absurd h h4⟩ | (simp only [rdN h4]; first | exact ⟨trivial, fun h => absurd h h4⟩ | exact ⟨rfl, fun h => absurd h h4⟩)
  simp only [h4, rdZ]
  by_cases h5 : (uintF (bytesF (flagF (uintF (uintF l 2147483648).2.2 2147483648).2.2).2.2 24).2.2 2147483648).1 = 0
  rotate_left
  · first | exact ⟨rfl, fun h => absurd h h5⟩ | exact ⟨trivial, fun h => absurd h h5⟩ | (simp only [rdN h5]; first | exact ⟨trivial, fun h => absurd h h5⟩ | exact ⟨rfl, fun h => absurd h h5⟩)
  simp only [h5]
  exact ⟨by first | rfl | trivial, fun _ => by first | rfl | trivial⟩

theorem rchE6b (l : List UInt8) : (rch6b l).1 = (dec6b l).1 ∧ ((dec6b l).1 = 0 → (rch6b l).2 = (dec6b l).2) := by
  unfold rch6b dec6b
  simp only [numsG, rdZ]
  by_cases h1 : (uintF l 2147483648).1 = 0
  rotate_left
  · first | exact ⟨rfl, fun h => absurd h h1⟩ | exact ⟨trivial, fun h => absurd h h1⟩ | (simp only [rdN h1]; first | exact ⟨trivial, fun h => absurd h h1⟩ | exact ⟨rfl, fun h => absurd h h1⟩)
  simp only [h1, rdZ]
  by_cases h2 : (uintF (uintF l 2147483648).2.2 2147483648).1 = 0
  rotate_left
  · first | exact ⟨rfl, fun h => absurd h h2⟩ | exact ⟨trivial, fun h => absurd h h2⟩ | (simp only [rdN h2]; first | exact ⟨trivial, fun h => absurd h h2⟩ | exact ⟨rfl, fun h => absurd h h2⟩)
  simp only [h2, rdZ]
  by_cases h3 : (flagF (uintF (uintF l 2147483648).2.2 2147483648).2.2).1 = 0
  rotate_left
  · first | exact ⟨rfl, fun h => absurd h h3⟩ | exact ⟨trivial, fun h => absurd h h3⟩ | (simp only [rdN h3]; first | exact ⟨trivial, fun h => absurd h h3⟩ | exact ⟨rfl, fun h => absurd h h3⟩)
  simp only [h3, rdZ]
  by_cases h4 : (uintF (flagF (uintF (uintF l 2147483648).2.2 2147483648).2.2).2.2 2147483648).1 = 0
  rotate_left
  · first | exact ⟨rfl, fun h => absurd h h4⟩ | exact ⟨trivial, fun h => absurd h h4⟩ | (simp only [rdN h4]; first | exact ⟨trivial, fun h => absurd h h4⟩ | exact ⟨rfl, fun h => absurd h h4⟩)
  simp only [h4]
  exact ⟨by first | rfl | trivial, fun _ => by first | rfl | trivial⟩

theorem rchE7 (l : List UInt8) : (rch7 l).1 = (dec7 l).1 ∧ ((dec7 l).1 = 0 → (rch7 l).2 = (dec7 l).2) := by
  unfold rch7 dec7
  simp only [numsG, rdZ]
  by_cases h1 : (uintF l 2147483648).1 = 0
  rotate_left
  · first | exact ⟨rfl, fun h => absurd h h1⟩ | exact ⟨trivial, fun h => absurd h h1⟩ | (simp only [rdN h1]; first | exact ⟨trivial, fun h => absurd h h1⟩ | exact ⟨rfl, fun h => absurd h h1⟩)
  simp only [h1, rdZ]
  by_cases h2 : (uintF (uintF l 2147483648).2.2 2147483648).1 = 0
  rotate_left
  · first | exact ⟨rfl, fun h => absurd h h2⟩ | exact ⟨trivial, fun h => absurd h h2⟩ | (simp only [rdN h2]; first | exact ⟨trivial, fun h => absurd h h2⟩ | exact ⟨rfl, fun h => absurd h h2⟩)
  simp only [h2, rdZ]
  by_cases h3 : (uintF (uintF (uintF l 2147483648).2.2 2147483648).2.2 2147483648).1 = 0
  rotate_left
  · first | exact ⟨rfl, fun h => absurd h h3⟩ | exact ⟨trivial, fun h => absurd h h3⟩ | (simp only [rdN h3]; first | exact ⟨trivial, fun h => absurd h h3⟩ | exact ⟨rfl, fun h => absurd h h3⟩)
  simp only [h3, rdZ]
  by_cases h4 : (uintF (uintF (uintF (uintF l 2147483648).2.2 2147483648).2.2 2147483648).2.2 2147483648).1 = 0
  rotate_left
  · first | exact ⟨rfl, fun h => absurd h h4⟩ | exact ⟨trivial, fun h => absurd h h4⟩ | (simp only [rdN h4]; first | exact ⟨trivial, fun h => absurd h h4⟩ | exact ⟨rfl, fun h => absurd h h4⟩)
  simp only [h4, rdZ]
  by_cases h5 : (uintF (uintF (uintF (uintF (uintF l 2147483648).2.2 2147483648).2.2 2147483648).2.2 2147483648).2.2 2147483648).1 = 0
  rotate_left
  · first | exact ⟨rfl, fun h => absurd h h5⟩ | exact ⟨trivial, fun h => absurd h h5⟩ | (simp only [rdN h5]; first | exact ⟨trivial, fun h => absurd h h5⟩ | exact ⟨rfl, fun h => absurd h h5⟩)
  simp only [h5]
  exact ⟨by first | rfl | trivial, fun _ => by first | rfl | trivial⟩

theorem rchE10 (l : List UInt8) : (rch10 l).1 = (dec10 l).1 ∧ ((dec10 l).1 = 0 → (rch10 l).2 = (dec10 l).2) := by
  unfold rch10 dec10
  simp only [numsG, rdZ]
  by_cases h1 : (bytesF l 24).1 = 0
  rotate_left
  · first | exact ⟨rfl, fun h => absurd h h1⟩ | exact ⟨trivial, fun h => absurd h h1⟩ | (simp only [rdN h1]; first | exact ⟨trivial, fun h => absurd h h1⟩ | exact ⟨rfl, fun h => absurd h h1⟩)
  simp only [h1, rdZ]
  by_cases h2 : (uintF (bytesF l 24).2.2 2147483648).1 = 0
  rotate_left
  · first | exact ⟨rfl, fun h => absurd h h2⟩ | exact ⟨trivial, fun h => absurd h h2⟩ | (simp only [rdN h2]; first | exact ⟨trivial, fun h => absurd h h2⟩ | exact ⟨rfl, fun h => absurd h h2⟩)
  simp only [h2, rdZ]
  by_cases h3 : (uintF (uintF (bytesF l 24).2.2 2147483648).2.2 2147483648).1 = 0
  rotate_left
  · first | exact ⟨rfl, fun h => absurd h h3⟩ | exact ⟨trivial, fun h => absurd h h3⟩ | (simp only [rdN h3]; first | exact ⟨trivial, fun h => absurd h h3⟩ | exact ⟨rfl, fun h => absurd h h3⟩)
  simp only [h3, rdZ]
  by_cases h4 : (uintF (uintF (uintF (bytesF l 24).2.2 2147483648).2.2 2147483648).2.2 2147483648).1 = 0
  rotate_left
  · first | exact ⟨rfl, fun h => absurd h h4⟩ | exact ⟨trivial, fun h => absurd h h4⟩ | (simp only [rdN h4]; first | exact ⟨trivial, fun h => absurd h h4⟩ | exact ⟨rfl, fun h => absurd h h4⟩)
  simp only [h4]
  exact ⟨by first | rfl | trivial, fun _ => by first | rfl | trivial⟩

theorem rchE8 (l : List UInt8) : rch8 l = (0, l, AP0) := rfl
theorem rchE9 (l : List UInt8) : rch9 l = (0, l, AP0) := rfl
end Go.Proofs.Ythkgbgkijdeaoaa

namespace Go.Proofs.Ythkgbgkijdeaoaa
open Go.RowKit

/-- What fields tells: the request, the reader behind it, as ask.Decode reads them. -/
def FldT (k : Nat) (g : Nat) (l : List UInt8) (w : World) (x : Ending) (w' : World) : Prop :=
  ∃ idv e rest ap, x = .returned (.agg #[.int .i64 (k : Int), idv, .int .i64 (AP.fr ap : Int), .int .i64 (ap.to : Int), .int .i64 (ap.ti : Int), .bool ap.so, .int .i64 (ap.ep : Int), .int .i64 (ap.ix : Int), .int .i64 (ap.li : Int), .slice none 0 0]) ∧ HBN w' g idv ap.id ∧ XR w' g rest e ∧ Only g w w' ∧ e = (decB k l).1 ∧ ((decB k l).1 = 0 → (rest, ap) = (decB k l).2)

def fl6 (l : List UInt8) : Bool := (rdG (rdU (rdU l 0 2147483648).2.2 (rdU l 0 2147483648).1 2147483648).2.2 (rdU (rdU l 0 2147483648).2.2 (rdU l 0 2147483648).1 2147483648).1).2.1
theorem fl6_ok (l : List UInt8) (h : (numsG 2 l).1 = 0) : fl6 l = (flagF (numsG 2 l).2.1).2.1 := by
  obtain ⟨h1, h2⟩ := andE_z h
  obtain ⟨h3, _⟩ := andE_z h2
  unfold fl6
  simp only [rdZ, h1, h3]
  rfl
theorem dec6_bad (l : List UInt8) (h : (numsG 2 l).1 ≠ 0) : (dec6a l).1 = (numsG 2 l).1 ∧ (dec6b l).1 = (numsG 2 l).1 := ⟨andE_neg h, andE_neg h⟩

theorem fld2 (g : Nat) (l : List UInt8) (w : World) (h : XR w g l 0) (hsz : l.length ≤ 140737488355328) : Calls Try.prog 34 #[.pointer (some ⟨g, 0, none⟩), .int .i64 ((2 : Nat) : Int)] w (FldT 2 g l w) :=
  (xf2 g l w h hsz).mono fun _ _ ⟨v, h1, h2, h3, h4⟩ => ⟨v, _, _, _, h1, h2, h3, h4, (rchE2 l).1, (rchE2 l).2⟩
theorem fld3 (g : Nat) (l : List UInt8) (w : World) (h : XR w g l 0) (hsz : l.length ≤ 140737488355328) : Calls Try.prog 34 #[.pointer (some ⟨g, 0, none⟩), .int .i64 ((3 : Nat) : Int)] w (FldT 3 g l w) :=
  (xf3 g l w h hsz).mono fun _ _ ⟨v, h1, h2, h3, h4⟩ => ⟨v, _, _, _, h1, h2, h3, h4, (rchE3 l).1, (rchE3 l).2⟩
theorem fld4 (g : Nat) (l : List UInt8) (w : World) (h : XR w g l 0) (hsz : l.length ≤ 140737488355328) : Calls Try.prog 34 #[.pointer (some ⟨g, 0, none⟩), .int .i64 ((4 : Nat) : Int)] w (FldT 4 g l w) :=
  (xf4 g l w h hsz).mono fun _ _ ⟨v, h1, h2, h3, h4⟩ => ⟨v, _, _, _, h1, h2, h3, h4, (rchE4 l).1, (rchE4 l).2⟩
theorem fld5 (g : Nat) (l : List UInt8) (w : World) (h : XR w g l 0) (hsz : l.length ≤ 140737488355328) : Calls Try.prog 34 #[.pointer (some ⟨g, 0, none⟩), .int .i64 ((5 : Nat) : Int)] w (FldT 5 g l w) :=
  (xf5 g l w h hsz).mono fun _ _ ⟨v, h1, h2, h3, h4⟩ => ⟨v, _, _, _, h1, h2, h3, h4, (rchE5 l).1, (rchE5 l).2⟩
theorem fld7 (g : Nat) (l : List UInt8) (w : World) (h : XR w g l 0) (hsz : l.length ≤ 140737488355328) : Calls Try.prog 34 #[.pointer (some ⟨g, 0, none⟩), .int .i64 ((7 : Nat) : Int)] w (FldT 7 g l w) :=
  (xf7 g l w h hsz).mono fun _ _ ⟨v, h1, h2, h3, h4⟩ => ⟨v, _, _, _, h1, h2, h3, h4, (rchE7 l).1, (rchE7 l).2⟩
theorem fld8 (g : Nat) (l : List UInt8) (w : World) (h : XR w g l 0) (hsz : l.length ≤ 140737488355328) : Calls Try.prog 34 #[.pointer (some ⟨g, 0, none⟩), .int .i64 ((8 : Nat) : Int)] w (FldT 8 g l w) :=
  (xf8 g l w h hsz).mono fun _ _ ⟨v, h1, h2, h3, h4⟩ => ⟨v, _, _, _, h1, h2, h3, h4, rfl, fun _ => rfl⟩
theorem fld9 (g : Nat) (l : List UInt8) (w : World) (h : XR w g l 0) (hsz : l.length ≤ 140737488355328) : Calls Try.prog 34 #[.pointer (some ⟨g, 0, none⟩), .int .i64 ((9 : Nat) : Int)] w (FldT 9 g l w) :=
  (xf9 g l w h hsz).mono fun _ _ ⟨v, h1, h2, h3, h4⟩ => ⟨v, _, _, _, h1, h2, h3, h4, rfl, fun _ => rfl⟩
theorem fld10 (g : Nat) (l : List UInt8) (w : World) (h : XR w g l 0) (hsz : l.length ≤ 140737488355328) : Calls Try.prog 34 #[.pointer (some ⟨g, 0, none⟩), .int .i64 ((10 : Nat) : Int)] w (FldT 10 g l w) :=
  (xf10 g l w h hsz).mono fun _ _ ⟨v, h1, h2, h3, h4⟩ => ⟨v, _, _, _, h1, h2, h3, h4, (rchE10 l).1, (rchE10 l).2⟩
theorem fld6 (g : Nat) (l : List UInt8) (w : World) (h : XR w g l 0) (hsz : l.length ≤ 140737488355328) : Calls Try.prog 34 #[.pointer (some ⟨g, 0, none⟩), .int .i64 ((6 : Nat) : Int)] w (FldT 6 g l w) := by
  by_cases hN : (numsG 2 l).1 = 0
  · have hX := fl6_ok l hN
    by_cases hF : (flagF (numsG 2 l).2.1).2.1 = true
    · have hD : decB 6 l = dec6a l := if_pos hF
      refine (xf6a g l w h hsz (hX.trans hF)).mono fun _ _ ⟨v, h1, h2, h3, h4⟩ => ⟨v, _, _, _, h1, h2, h3, h4, ?_⟩
      rw [hD]
      exact rchE6a l
    · have hD : decB 6 l = dec6b l := if_neg hF
      refine (xf6b g l w h hsz (hX.trans (Bool.eq_false_iff.2 hF))).mono fun _ _ ⟨v, h1, h2, h3, h4⟩ => ⟨v, _, _, _, h1, h2, h3, h4, ?_⟩
      rw [hD]
      exact rchE6b l
  · obtain ⟨d1, d2⟩ := dec6_bad l hN
    have hD : (decB 6 l).1 = (numsG 2 l).1 := by
      show (dec6 l).1 = _
      unfold dec6
      split
      · exact d1
      · exact d2
    cases hX : fl6 l with
    | true =>
      refine (xf6a g l w h hsz hX).mono fun _ _ ⟨v, h1, h2, h3, h4⟩ => ⟨v, _, _, _, h1, h2, h3, h4, ?_⟩
      rw [hD]
      exact ⟨(rchE6a l).1.trans d1, fun h => absurd h hN⟩
    | false =>
      refine (xf6b g l w h hsz hX).mono fun _ _ ⟨v, h1, h2, h3, h4⟩ => ⟨v, _, _, _, h1, h2, h3, h4, ?_⟩
      rw [hD]
      exact ⟨(rchE6b l).1.trans d2, fun h => absurd h hN⟩

theorem fields_any (k : Nat) (hk : 2 ≤ k ∧ k ≤ 10) (g : Nat) (l : List UInt8) (w : World) (h : XR w g l 0) (hsz : l.length ≤ 140737488355328) : Calls Try.prog 34 #[.pointer (some ⟨g, 0, none⟩), .int .i64 (k : Int)] w (FldT k g l w) := by
  obtain rfl | rfl | rfl | rfl | rfl | rfl | rfl | rfl | rfl : k = 2 ∨ k = 3 ∨ k = 4 ∨ k = 5 ∨ k = 6 ∨ k = 7 ∨ k = 8 ∨ k = 9 ∨ k = 10 := by omega
  · exact fld2 g l w h hsz
  · exact fld3 g l w h hsz
  · exact fld4 g l w h hsz
  · exact fld5 g l w h hsz
  · exact fld6 g l w h hsz
  · exact fld7 g l w h hsz
  · exact fld8 g l w h hsz
  · exact fld9 g l w h hsz
  · exact fld10 g l w h hsz

end Go.Proofs.Ythkgbgkijdeaoaa
