/- What this text proves: a codec.Reader in memory; the walks of its Err, Left, End and fail over this program. What this text holds: plain facts: worlds that part in one block alone; a reader with what is left; what is read of bytes (no program). What this text proves: the walks of the reader's counted and Uint over this program. What this text proves: the walk of the reader's Uint over this program: the next number, or the error. What this text proves: the walk of the reader's Uint over this program where the bytes of the number are there. -/
import Derived.Test.YthkgbgkijdeaoaaOwn
import Derived.BigQuiet
import Derived.Test.YthkgbgkijdeaoaaCodecPlain
import Derived.Test.YthkgbgkijdeaoaaOnlyT
namespace Go.Proofs.Ythkgbgkijdeaoaa
open Go.RowKit

/-- Block g holds a reader: what is left, the first error, whether Open made it. -/
def RD (w : World) (g : Nat) (v : Value) (e : Int) (b : Bool) : Prop := w.heap[g]? = some (.cells #[v, .int .i64 e, .bool b] 106 (0, 0))

theorem RD.cells {w : World} {g : Nat} {v : Value} {e : Int} {b : Bool} (h : RD w g v e b) : w.cell? ⟨g, 0, none⟩ = some v ∧ w.cell? ⟨g, 1, none⟩ = some (.int .i64 e) ∧ w.cell? ⟨g, 2, none⟩ = some (.bool b) := by
  refine ⟨?_, ?_, ?_⟩ <;> rw [cell_of_row w g _ _ _ _ h] <;> rfl

theorem RD.later {w w' : World} {g : Nat} {v : Value} {e : Int} {b : Bool} (h : RD w g v e b) (hb : Below w.heap.size w w') : RD w' g v e b := by
  unfold RD
  rw [hb.block g (Array.getElem?_eq_some_iff.1 h).1]
  exact h

theorem RD.lt {w : World} {g : Nat} {v : Value} {e : Int} {b : Bool} (h : RD w g v e b) : g < w.heap.size := (Array.getElem?_eq_some_iff.1 h).1

theorem RD.put0 {w : World} {g : Nat} {v : Value} {e : Int} {b : Bool} (h : RD w g v e b) (v' : Value) : RD (w.setCell ⟨g, 0, none⟩ v') g v' e b := by
  unfold RD
  rw [heap_setCell_same w g 0 _ _ _ h]
  rfl

theorem RD.put1 {w : World} {g : Nat} {v : Value} {e : Int} {b : Bool} (h : RD w g v e b) (e' : Int) : RD (w.setCell ⟨g, 1, none⟩ (.int .i64 e')) g v e' b := by
  unfold RD
  rw [heap_setCell_same w g 1 _ _ _ h]
  rfl

theorem RD.other {w : World} {g : Nat} {v : Value} {e : Int} {b : Bool} (h : RD w g v e b) (a : Addr) (u : Value) (hne : g ≠ a.block) : RD (w.setCell a u) g v e b := by
  unfold RD
  rw [heap_setCell_other w a g u hne]
  exact h

theorem RD.free {w : World} {g : Nat} {v : Value} {e : Int} {b : Bool} (h : RD w g v e b) (i : Nat) : w.frozen? ⟨g, i, none⟩ = false := by
  unfold RD at h
  simp [World.frozen?, h]

set_option maxRecDepth 100000 in
set_option maxHeartbeats 400000 in
theorem rerr_nil (w : World) : Calls Try.prog 46 #[.pointer none] w fun e w' => e = .returned (.int .i64 2) ∧ w' = w := by
  go_enter Try.func46, Try.ntmps46
  go_wp2
  go_ret
  exact ⟨rfl, rfl⟩

set_option maxRecDepth 100000 in
set_option maxHeartbeats 400000 in
theorem rerr_any (g : Nat) (v : Value) (e : Int) (b : Bool) (w : World) (h : RD w g v e b) :
    Calls Try.prog 46 #[.pointer (some ⟨g, 0, none⟩)] w fun x w' => x = .returned (.int .i64 (if b then e else 2)) ∧ w' = w := by
  obtain ⟨c0, c1, c2⟩ := h.cells
  clear h
  cases b
  · go_enter Try.func46, Try.ntmps46
    go_wp2
    go_ret
    exact ⟨rfl, rfl⟩
  · go_enter Try.func46, Try.ntmps46
    go_wp2
    go_ret
    exact ⟨rfl, rfl⟩

set_option maxRecDepth 100000 in
set_option maxHeartbeats 400000 in
theorem rleft_nil (w : World) : Calls Try.prog 56 #[.pointer none] w fun e w' => e = .returned (.int .i64 0) ∧ w' = w := by
  go_enter Try.func56, Try.ntmps56
  go_wp2
  go_ret
  exact ⟨rfl, rfl⟩

set_option maxRecDepth 100000 in
set_option maxHeartbeats 400000 in
theorem rleft_any (g : Nat) (p : Option Addr) (n c : Nat) (e : Int) (b : Bool) (w : World) (h : RD w g (.slice p n c) e b) :
    Calls Try.prog 56 #[.pointer (some ⟨g, 0, none⟩)] w fun x w' => x = .returned (.int .i64 (n : Int)) ∧ w' = w := by
  obtain ⟨c0, c1, c2⟩ := h.cells
  clear h
  go_enter Try.func56, Try.ntmps56
  go_wp2
  go_ret
  exact ⟨rfl, rfl⟩

set_option maxRecDepth 100000 in
set_option maxHeartbeats 400000 in
theorem rend_nil (w : World) : Calls Try.prog 47 #[.pointer none] w fun e w' => e = .returned (.int .i64 2) ∧ w' = w := by
  go_enter Try.func47, Try.ntmps47
  go_wp2_with (first | (go_at_call 46; refine (rerr_nil _).mono ?_; rintro e w' ⟨rfl, rfl⟩))
  go_ret
  exact ⟨rfl, rfl⟩

/-- The first error, or ErrForm, if something is left. -/
def endF (n : Nat) (e : Int) : Int := if e = 0 ∧ 0 < n then 5 else e

set_option maxRecDepth 100000 in
set_option maxHeartbeats 400000 in
theorem rend_any (g : Nat) (p : Option Addr) (n c : Nat) (e : Int) (b : Bool) (w : World) (h : RD w g (.slice p n c) e b) :
    Calls Try.prog 47 #[.pointer (some ⟨g, 0, none⟩)] w fun x w' => x = .returned (.int .i64 (endF n (if b then e else 2))) ∧ w' = w := by
  have k1 := fun W (h : RD W g (.slice p n c) e b) => rerr_any g _ e b W h
  have k2 := fun W (h : RD W g (.slice p n c) e b) => rleft_any g p n c e b W h
  generalize (if b then e else 2) = E at *
  by_cases hE : E = 0
  · subst hE
    by_cases hn : 0 < n
    · have hn2 : (0 : Int) < (n : Int) := by omega
      have HF : Hid (endF n 0 = 5) := by show endF n 0 = 5; unfold endF; rw [if_pos ⟨rfl, hn⟩]
      go_enter Try.func47, Try.ntmps47
      go_wp2_with (first | (go_at_call 46; refine (k1 _ h).mono ?_; rintro e w' ⟨rfl, rfl⟩) | (go_at_call 56; refine (k2 _ h).mono ?_; rintro e w' ⟨rfl, rfl⟩))
      go_ret
      exact ⟨by rw [HF.out]; rfl, rfl⟩
    · obtain rfl : n = 0 := by omega
      have HF : Hid (endF 0 0 = 0) := by show endF 0 0 = 0; rfl
      go_enter Try.func47, Try.ntmps47
      go_wp2_with (first | (go_at_call 46; refine (k1 _ h).mono ?_; rintro e w' ⟨rfl, rfl⟩) | (go_at_call 56; refine (k2 _ h).mono ?_; rintro e w' ⟨rfl, rfl⟩))
      go_ret
      exact ⟨by rw [HF.out]; rfl, rfl⟩
  · have HF : Hid (endF n E = E) := by show endF n E = E; unfold endF; rw [if_neg (fun h => hE h.1)]
    have hd : (E == 0) = false := by simpa using hE
    go_enter Try.func47, Try.ntmps47
    go_wp2_with (first | (go_at_call 46; refine (k1 _ h).mono ?_; rintro e w' ⟨rfl, rfl⟩) | (go_at_call 56; refine (k2 _ h).mono ?_; rintro e w' ⟨rfl, rfl⟩))
    go_ret
    exact ⟨by rw [HF.out]; rfl, rfl⟩

set_option maxRecDepth 100000 in
set_option maxHeartbeats 400000 in
theorem rfail_any (g : Nat) (v : Value) (e e' : Int) (b : Bool) (w : World) (h : RD w g v e b) :
    Calls Try.prog 54 #[.pointer (some ⟨g, 0, none⟩), .int .i64 e'] w fun x w' => x = .returned (.int .i64 0) ∧ w' = (w.setCell ⟨g, 1, none⟩ (.int .i64 e')).setCell ⟨g, 0, none⟩ (.slice none 0 0) := by
  obtain ⟨c0, c1, c2⟩ := h.cells
  have f0 := h.free 0
  have f1 := h.free 1
  obtain ⟨c0', _, _⟩ := (h.put1 e').cells
  have f0' := (h.put1 e').free 0
  clear h
  go_enter Try.func54, Try.ntmps54
  go_wp2
  go_ret
  exact ⟨rfl, rfl⟩

end Go.Proofs.Ythkgbgkijdeaoaa

namespace Go.Proofs.Ythkgbgkijdeaoaa
open Go.RowKit

/-- Block k is a block of bytes. -/
def TY (w : World) (k : Nat) : Prop := ∃ cur fr, w.heap[k]? = some (.cells cur 5 fr)
theorem TY.keep {w w' : World} {k : Nat} (h : TY w k) (e : w'.heap[k]? = w.heap[k]?) : TY w' k := by
  obtain ⟨cur, fr, hk⟩ := h
  exact ⟨cur, fr, e.trans hk⟩
theorem TY.lt {w : World} {k : Nat} (h : TY w k) : k < w.heap.size := by
  obtain ⟨cur, fr, hk⟩ := h
  exact (Array.getElem?_eq_some_iff.1 hk).1
theorem TY.later {w w' : World} {k : Nat} (h : TY w k) (hb : Below w.heap.size w w') : TY w' k := h.keep (hb.block k h.lt)
theorem TY.only {w w' : World} {g k : Nat} (h : TY w k) (ho : Only g w w') (hne : k ≠ g) : TY w' k := h.keep (ho.block k hne h.lt)
theorem TY.of_owns {w : World} {base n m c : Nat} {a : Addr} {v : Value} {xs : List Value} (h : w.ownsRow base 5 1 v n xs) (e : v = .slice (some a) m c) : TY w a.block := by
  rcases h.2 with ⟨e1, _⟩ | ⟨g, cap, cur, e1, _, hg, _⟩
  · rw [e1] at e; cases e
  · rw [e1] at e
    simp only [Value.slice.injEq, Option.some.injEq] at e
    rw [← e.1]
    exact ⟨cur, _, hg⟩

/-- Bytes that don't lie in block g, in a block of bytes. -/
def HBN (w : World) (g : Nat) (v : Value) (l : List UInt8) : Prop := HB w v l ∧ ∀ a n c, v = .slice (some a) n c → a.block ≠ g ∧ TY w a.block

theorem HBN.only {w w' : World} {g : Nat} {v : Value} {l : List UInt8} (h : HBN w g v l) (ho : Only g w w') : HBN w' g v l := ⟨h.1.only (fun a n c e => (h.2 a n c e).1) ho, fun a n c e => ⟨(h.2 a n c e).1, (h.2 a n c e).2.only ho (h.2 a n c e).1⟩⟩
theorem HBN.later {w w' : World} {g : Nat} {v : Value} {l : List UInt8} (h : HBN w g v l) (hb : Below w.heap.size w w') : HBN w' g v l := ⟨h.1.later hb, fun a n c e => ⟨(h.2 a n c e).1, (h.2 a n c e).2.later hb⟩⟩
theorem HBN.nil (w : World) (g : Nat) : HBN w g (.slice none 0 0) [] := ⟨HB.nil w, fun _ _ _ h => by cases h⟩
theorem HBN.behind {w : World} {g : Nat} {p : Option Addr} {n c : Nat} {l : List UInt8} (h : HBN w g (.slice p n c) l) (k : Nat) (hk : k ≤ n) : HBN w g (.slice (cutP p c k) (n - k) (c - k)) (l.drop k) := by
  refine ⟨h.1.behind k hk, fun a n' c' e => ?_⟩
  simp only [Value.slice.injEq] at e
  unfold cutP at e
  split at e
  · exact h.2 a n c (by rw [e.1])
  · cases p with
    | none => simp at e
    | some a' =>
      have := e.1
      simp only [Option.map_some, Option.some.injEq] at this
      have h2 := h.2 a' n c rfl
      rw [← this]
      unfold Addr.add
      split <;> exact h2

/-- A reader that Open made: what is left, and the first error. -/
def RR (w : World) (g : Nat) (l : List UInt8) (e : Int) : Prop := ∃ p c, RD w g (.slice p l.length c) e true ∧ HBN w g (.slice p l.length c) l

theorem RR.later {w w' : World} {g : Nat} {l : List UInt8} {e : Int} (h : RR w g l e) (hb : Below w.heap.size w w') : RR w' g l e := by
  obtain ⟨p, c, h1, h2⟩ := h
  exact ⟨p, c, h1.later hb, h2.later hb⟩
/-- What is written elsewhere leaves it as it was, if what is left does not lie there. -/
theorem RD.only {w w' : World} {g g' : Nat} {v : Value} {e : Int} {b : Bool} (h : RD w g v e b) (ho : Only g' w w') (hne : g ≠ g') : RD w' g v e b := by
  unfold RD
  rw [ho.block g hne h.lt]
  exact h

/-- What a number is read as: the error, the number, what is left. -/
def uintF (l : List UInt8) (most : Int) : Int × Nat × List UInt8 :=
  match l with
  | [] => (3, 0, [])
  | c :: r =>
    if 8 < c.toNat then (5, 0, [])
    else if r.length < c.toNat then (3, 0, [])
    else if (r.take c.toNat).head? = some 0 then (5, 0, [])
    else if 4611686018427387904 < valL (r.take c.toNat) then (5, 0, [])
    else if most < (valL (r.take c.toNat) : Int) then (4, 0, [])
    else (0, valL (r.take c.toNat), r.drop c.toNat)

/-- What a text is read as: the error, the text, what is left. -/
def bytesF (l : List UInt8) (most : Int) : Int × List UInt8 × List UInt8 :=
  let u := uintF l most
  if u.1 ≠ 0 then (u.1, [], [])
  else if u.2.2.length < u.2.1 then (3, [], [])
  else (0, u.2.2.take u.2.1, u.2.2.drop u.2.1)

/-- What a yes or no is read as: the error, it, what is left. -/
def flagF (l : List UInt8) : Int × Bool × List UInt8 :=
  match l with
  | [] => (3, false, [])
  | x :: r => if 1 < x.toNat then (5, false, []) else (0, x == 1, r)

end Go.Proofs.Ythkgbgkijdeaoaa

namespace Go.Proofs.Ythkgbgkijdeaoaa
open Go.RowKit

theorem wrapI (n : Nat) (h : n ≤ 9223372036854775807) : IntKind.i64.wrap (n : Int) = (n : Int) := by
  rw [IntKind.wrap_i64]
  omega

set_option maxRecDepth 100000 in
set_option maxHeartbeats 1000000 in
theorem counted_short (g : Nat) (l : List UInt8) (w : World) (h : RR w g l 0) (hs : ∀ c r, l = c :: r → r.length < c.toNat) :
    Calls Try.prog 55 #[.pointer (some ⟨g, 0, none⟩)] w fun x w' => x = .returned (.tuple #[.slice none 0 0, .bool false]) ∧ ∃ n, w' = w.drewN n := by
  obtain ⟨p, c, hrd, hh, _⟩ := h
  obtain ⟨c0, c1, c2⟩ := hrd.cells
  cases l with
  | nil =>
    clear hrd hh hs
    simp only [List.length_nil] at c0
    go_enter Try.func55, Try.ntmps55
    go_wp2
    go_quiet (fail)
    go_wp2
    go_ret2
    exact ⟨rfl, _, rfl⟩
  | cons x r =>
    have hlt := hs x r rfl
    obtain ⟨b, o, rfl, hc⟩ := hh.addr (by simp)
    have cx := hc 0 x rfl
    unfold bc at cx
    simp only [Nat.add_zero] at cx
    have hm := hh.len.2.2.1
    have hlc := hh.len.2.1
    unfold maxLen at hm
    simp only [List.length_cons] at c0 hlc
    have hx := x.toNat_lt
    have hlt2 : (r.length : Int) < (x.toNat : Int) := by omega
    have hw1 := wrapI r.length (by omega)
    have hw2 := wrapI x.toNat (by omega)
    clear hrd hh hs hc
    go_enter Try.func55, Try.ntmps55
    go_wp2
    go_quiet (fail)
    go_wp2
    go_ret2
    exact ⟨rfl, _, rfl⟩

set_option maxRecDepth 100000 in
set_option maxHeartbeats 1000000 in
theorem counted_ok (g : Nat) (x : UInt8) (r : List UInt8) (w : World) (b o c : Nat) (hrd : RD w g (.slice (some ⟨b, o, none⟩) (r.length + 1) c) 0 true) (hh : HB w (.slice (some ⟨b, o, none⟩) (r.length + 1) c) (x :: r)) (hs : x.toNat ≤ r.length) :
    Calls Try.prog 55 #[.pointer (some ⟨g, 0, none⟩)] w fun y w' => y = .returned (.tuple #[.slice (cutP (some ⟨b, o, none⟩) c 1) x.toNat (c - 1), .bool true]) ∧ ∃ n, w' = w.drewN n := by
  obtain ⟨c0, c1, c2⟩ := hrd.cells
  obtain ⟨b', o', e, hc⟩ := hh.addr (by simp)
  simp only [Option.some.injEq, Addr.mk.injEq, and_true] at e
  obtain ⟨rfl, rfl⟩ := e
  have cx := hc 0 x rfl
  unfold bc at cx
  simp only [Nat.add_zero] at cx
  have hm := hh.len.2.2.1
  have hlc := hh.len.2.1
  unfold maxLen at hm
  have hx := x.toNat_lt
  have hlt2 : (x.toNat : Int) ≤ (r.length : Int) := by omega
  have hw1 := wrapI r.length (by omega)
  have hw2 := wrapI x.toNat (by omega)
  have hw3 : IntKind.i64.wrap (1 + (x.toNat : Int)) = 1 + (x.toNat : Int) := by rw [IntKind.wrap_i64]; omega
  have k3 : ∀ w, (Instr.slice 22 (.slice (some ⟨b, o, none⟩) (r.length + 1) c) (some (.int .i64 1)) (some (.int .i64 (1 + (x.toNat : Int)))) none).run Try.prog w = .ok (.slice (cutP (some ⟨b, o, none⟩) c 1) x.toNat (c - 1)) w := by
    intro w
    have := run_cut2 (P := Try.prog) Try.underlying22 s_u8 (some ⟨b, o, none⟩) (r.length + 1) c 1 (1 + x.toNat) 1 (1 + (x.toNat : Int)) rfl (by omega) (by omega) (by omega) w
    rwa [show 1 + x.toNat - 1 = x.toNat by omega] at this
  have hd : decide ((r.length : Int) < (x.toNat : Int)) = false := by simp; omega
  have hdn : decide (r.length < x.toNat) = false := by simp; omega
  have hz : ((r.length : Int) + 1 == 0) = false := by simp; omega
  clear hrd hh hs hc
  go_enter Try.func55, Try.ntmps55
  go_wp2
  go_quiet (fail)
  have c0' : (w.drewN nq).cell? ⟨g, 0, none⟩ = some (.slice (some ⟨b, o, none⟩) (r.length + 1) c) := c0
  have cx' : (w.drewN nq).cell? ⟨b, o, none⟩ = some (.int .u8 (x.toNat : Int)) := cx
  have hwn : Hid (∃ n, w.drewN nq = w.drewN n) := ⟨_, rfl⟩
  clear c0 cx c1 c2
  generalize w.drewN nq = w2 at *
  go_wp2
  go_quiet (fail)
  go_wp2
  go_ret2
  obtain ⟨n2, hwn⟩ := hwn.out
  refine ⟨rfl, n2 + nq, ?_⟩
  rw [hwn, World.drewN_drewN]

end Go.Proofs.Ythkgbgkijdeaoaa

namespace Go.Proofs.Ythkgbgkijdeaoaa
open Go.RowKit

theorem RD.failed {w : World} {g : Nat} {v : Value} {e : Int} (h : RD w g v e true) (e' : Int) : RR ((w.setCell ⟨g, 1, none⟩ (.int .i64 e')).setCell ⟨g, 0, none⟩ (.slice none 0 0)) g [] e' ∧ Only g w ((w.setCell ⟨g, 1, none⟩ (.int .i64 e')).setCell ⟨g, 0, none⟩ (.slice none 0 0)) :=
  ⟨⟨none, 0, (h.put1 e').put0 _, HBN.nil _ _⟩, ((Only.refl g w).setCell 1 _).setCell 0 _⟩

/-- What Uint answers where it fails. -/
def Fell (g : Nat) (w : World) (e' : Int) (x : Ending) (w' : World) : Prop := x = .returned (.int .i64 0) ∧ RR w' g [] e' ∧ Only g w w'

theorem fail_said (g : Nat) (v : Value) (e' : Int) (w : World) (h : RD w g v 0 true) : Calls Try.prog 54 #[.pointer (some ⟨g, 0, none⟩), .int .i64 e'] w fun x w' => x = .returned (.int .i64 0) ∧ RR w' g [] e' ∧ Only g w w' :=
  (rfail_any g v 0 e' true w h).mono fun x w' ⟨hx, hw⟩ => by subst hw; exact ⟨hx, h.failed e'⟩

set_option maxRecDepth 100000 in
set_option maxHeartbeats 1000000 in
theorem uint_nil (g : Nat) (most : Int) (w : World) (h : RR w g [] 0) : Calls Try.prog 45 #[.pointer (some ⟨g, 0, none⟩), .int .i64 most] w (Fell g w 3) := by
  have hc := counted_short g [] w h (fun _ _ e => by cases e)
  obtain ⟨p, c, hrd, hh⟩ := h
  have he := rerr_any g _ 0 true w hrd
  simp only [if_true] at he
  obtain ⟨c0, c1, c2⟩ := hrd.cells
  simp only [List.length_nil] at c0
  go_enter Try.func45, Try.ntmps45
  go_wp2_with (first | (go_at_call 46; refine he.mono ?_; rintro e w' ⟨rfl, hw⟩; have hw2 := hw.symm; clear hw; subst hw2) | (go_at_call 55; refine hc.mono ?_; rintro e w1 ⟨rfl, n1, hw1⟩; have hrd1 : RD w1 g (.slice p 0 c) 0 true := (by rw [hw1]; exact hrd); have ho1 : Hid (Only g w w1) := (by show Only g w w1; rw [hw1]; exact (Only.refl g w).drewN n1); clear hw1) | (go_at_call 54; refine (fail_said g _ 3 _ hrd1).mono ?_; rintro e w2 ⟨rfl, hr2, ho2⟩))
  go_ret
  exact ⟨rfl, hr2, ho1.out.trans ho2⟩

set_option maxRecDepth 100000 in
set_option maxHeartbeats 1000000 in
theorem uint_big (g : Nat) (x : UInt8) (r : List UInt8) (most : Int) (w : World) (h : RR w g (x :: r) 0) (hx8 : 8 < x.toNat) : Calls Try.prog 45 #[.pointer (some ⟨g, 0, none⟩), .int .i64 most] w (Fell g w 5) := by
  obtain ⟨p, c, hrd, hh, _⟩ := h
  have he := rerr_any g _ 0 true w hrd
  simp only [if_true] at he
  obtain ⟨c0, c1, c2⟩ := hrd.cells
  obtain ⟨b, o, rfl, hc⟩ := hh.addr (by simp)
  have cx := hc 0 x rfl
  unfold bc at cx
  simp only [Nat.add_zero] at cx
  simp only [List.length_cons] at c0 hrd he
  have hx := x.toNat_lt
  have hx82 : (8 : Int) < (x.toNat : Int) := by omega
  have hlen := hh.len.2
  unfold maxLen at hlen
  simp only [List.length_cons] at hlen
  have hl0 : (0 : Int) < (r.length : Int) + 1 := by omega
  clear hh hc
  go_enter Try.func45, Try.ntmps45
  go_wp2_with (first | (go_at_call 46; refine he.mono ?_; rintro e w' ⟨rfl, hw⟩; have hw2 := hw.symm; clear hw; subst hw2) | (go_at_call 54; refine (fail_said g _ 5 _ hrd).mono ?_; rintro e w2 ⟨rfl, hr2, ho2⟩))
  go_ret
  exact ⟨rfl, hr2, ho2⟩

set_option maxRecDepth 100000 in
set_option maxHeartbeats 1000000 in
theorem uint_short (g : Nat) (x : UInt8) (r : List UInt8) (most : Int) (w : World) (h : RR w g (x :: r) 0) (hx8 : x.toNat ≤ 8) (hs : r.length < x.toNat) : Calls Try.prog 45 #[.pointer (some ⟨g, 0, none⟩), .int .i64 most] w (Fell g w 3) := by
  have hcn := counted_short g (x :: r) w h (fun c r' e => by cases e; exact hs)
  obtain ⟨p, c, hrd, hh, _⟩ := h
  have he := rerr_any g _ 0 true w hrd
  simp only [if_true] at he
  obtain ⟨c0, c1, c2⟩ := hrd.cells
  obtain ⟨b, o, rfl, hc⟩ := hh.addr (by simp)
  have cx := hc 0 x rfl
  unfold bc at cx
  simp only [Nat.add_zero] at cx
  simp only [List.length_cons] at c0 hrd he
  have hx := x.toNat_lt
  have hx82 : (x.toNat : Int) ≤ 8 := by omega
  have hlen := hh.len.2
  unfold maxLen at hlen
  simp only [List.length_cons] at hlen
  have hl0 : (0 : Int) < (r.length : Int) + 1 := by omega
  clear hh hc
  go_enter Try.func45, Try.ntmps45
  go_wp2_with (first | (go_at_call 46; refine he.mono ?_; rintro e w' ⟨rfl, hw⟩; have hw2 := hw.symm; clear hw; subst hw2) | (go_at_call 55; refine hcn.mono ?_; rintro e w1 ⟨rfl, n1, hw1⟩; have hrd1 : RD w1 g (.slice (some ⟨b, o, none⟩) (r.length + 1) c) 0 true := (by rw [hw1]; exact hrd); have ho1 : Hid (Only g w w1) := (by show Only g w w1; rw [hw1]; exact (Only.refl g w).drewN n1); clear hw1) | (go_at_call 54; refine (fail_said g _ 3 _ hrd1).mono ?_; rintro e w2 ⟨rfl, hr2, ho2⟩))
  go_ret
  exact ⟨rfl, hr2, ho1.out.trans ho2⟩

end Go.Proofs.Ythkgbgkijdeaoaa

namespace Go.Proofs.Ythkgbgkijdeaoaa
open Go.RowKit

theorem valL_next (D : List UInt8) (k : Nat) (d : UInt8) (h : D[k]? = some d) : valL (D.take (k + 1)) = valL (D.take k) * 256 + d.toNat := by
  rw [List.take_add_one, h]
  exact valL_snoc _ _

theorem valL_take_lt (D : List UInt8) (k : Nat) (hk : k ≤ 7) : valL (D.take k) < 72057594037927936 := by
  have h1 := valL_lt (D.take k)
  have h2 : (256 : Nat) ^ (D.take k).length ≤ 256 ^ 7 := Nat.pow_le_pow_right (by omega) (by rw [List.length_take]; omega)
  have h3 : (256 : Nat) ^ 7 = 72057594037927936 := by decide
  omega

theorem wraps_u64 (n : Int) (h₀ : 0 ≤ n) (h₁ : n < 2 ^ 64) : IntKind.u64.wrap n = n := by rw [IntKind.wrap_u64]; omega
theorem or_low (V d : Nat) (hV : V < 72057594037927936) (hd : d < 256) : bits BinOp.or IntKind.u64 ((V : Int) * 256) (d : Int) = ((V * 256 + d : Nat) : Int) := by
  have h1 := (bits_nat .u64 64 (by decide) wraps_u64 (V * 256) d (by omega) (by omega)).2
  rw [show ((V * 256 : Nat) : Int) = (V : Int) * 256 by omega] at h1
  rw [h1]
  have h2 := Nat.two_pow_add_eq_or_of_lt (i := 8) (b := d) hd V
  rw [show (2 : Nat) ^ 8 * V = V * 256 by omega] at h2
  rw [← h2]

/-- What Uint answers. -/
def UintSaid (g : Nat) (w : World) (l : List UInt8) (most : Int) (x : Ending) (w' : World) : Prop := x = .returned (.int .i64 ((uintF l most).2.1 : Int)) ∧ RR w' g (uintF l most).2.2 (uintF l most).1 ∧ Only g w w'

set_option maxRecDepth 100000 in
set_option maxHeartbeats 2000000 in
theorem uint_pos (g : Nat) (x : UInt8) (r : List UInt8) (most : Int) (w : World) (h : RR w g (x :: r) 0) (hx1 : 1 ≤ x.toNat) (hx8 : x.toNat ≤ 8) (hs : x.toNat ≤ r.length) : Calls Try.prog 45 #[.pointer (some ⟨g, 0, none⟩), .int .i64 most] w (UintSaid g w (x :: r) most) := by
  obtain ⟨p, c, hrd, hh, hnb⟩ := h
  have he := rerr_any g _ 0 true w hrd
  simp only [if_true] at he
  obtain ⟨c0, c1, c2⟩ := hrd.cells
  obtain ⟨b, o, rfl, hc⟩ := hh.addr (by simp)
  have cx := hc 0 x rfl
  unfold bc at cx
  simp only [Nat.add_zero] at cx
  have hlen := hh.len.2
  unfold maxLen at hlen
  have hcn := counted_ok g x r w b o c hrd hh hs
  have ecut : cutP (some (⟨b, o, none⟩ : Addr)) c 1 = some ⟨b, o + 1, none⟩ := by
    unfold cutP
    rw [if_neg (by simp only [List.length_cons] at hlen; omega)]
    simp [Addr.add_lit]
  rw [ecut] at hcn
  obtain ⟨D, hD⟩ : ∃ D, D = r.take x.toNat := ⟨_, rfl⟩
  have hDl : D.length = x.toNat := by rw [hD, List.length_take]; omega
  have hDc : ∀ k d, D[k]? = some d → w.cell? ⟨b, o + 1 + k, none⟩ = some (.int .u8 (d.toNat : Int)) := by
    intro k d hd
    have := hc (k + 1) d (by rw [List.getElem?_cons_succ]; rw [hD, List.getElem?_take] at hd; split at hd; exact hd; cases hd)
    rw [show o + 1 + k = o + (k + 1) by omega]
    exact this
  obtain ⟨d0, D', hDD⟩ : ∃ d0 D', D = d0 :: D' := by
    cases D with
    | nil => simp at hDl; omega
    | cons d0 D' => exact ⟨d0, D', rfl⟩
  have cd0 := hDc 0 d0 (by rw [hDD]; rfl)
  simp only [Nat.add_zero] at cd0
  simp only [List.length_cons] at c0 hrd he hlen hh hnb
  have hx := x.toNat_lt
  have hd0 := d0.toNat_lt
  have hx82 : (x.toNat : Int) ≤ 8 := by omega
  have hl0 : (0 : Int) < (r.length : Int) + 1 := by omega
  have hx0 : (0 : Int) < (x.toNat : Int) := by omega
  clear hc
  by_cases hz : d0 = 0
  · have HU : Hid (uintF (x :: r) most = (5, 0, [])) := by
      show uintF (x :: r) most = (5, 0, [])
      simp only [uintF]
      rw [if_neg (by omega), if_neg (by omega), if_pos (by rw [← hD, hDD, hz]; rfl)]
    subst hz
    simp only [UInt8.toNat_zero] at cd0
    clear hD hDl hDD hDc hh hnb
    go_enter Try.func45, Try.ntmps45
    go_wp2_with (first | (go_at_call 46; refine he.mono ?_; rintro e w' ⟨rfl, hw⟩; have hw2 := hw.symm; clear hw; subst hw2) | (go_at_call 55; refine hcn.mono ?_; rintro e w1 ⟨rfl, n1, hw1⟩; have cd1 : w1.cell? ⟨b, o + 1, none⟩ = some (.int .u8 0) := (by rw [hw1]; exact cd0); have hrd1 : RD w1 g (.slice (some ⟨b, o, none⟩) (r.length + 1) c) 0 true := (by rw [hw1]; exact hrd); have ho1 : Hid (Only g w w1) := (by show Only g w w1; rw [hw1]; exact (Only.refl g w).drewN n1); clear hw1 cd0) | (go_at_call 54; refine (fail_said g _ 5 _ hrd1).mono ?_; rintro e w2 ⟨rfl, hr2, ho2⟩))
    go_ret
    refine ⟨?_, ?_, ho1.out.trans ho2⟩
    · rw [HU.out]; rfl
    · rw [HU.out]; exact hr2
  · have hzI : ¬ (d0.toNat : Int) = 0 := fun e => hz (UInt8.toNat_inj.1 (by simp; omega))
    have hzb : ((d0.toNat : Int) == 0) = false := by simpa using hzI
    go_enter Try.func45, Try.ntmps45
    go_wp2_with (first | (go_at_call 46; refine he.mono ?_; rintro e w' ⟨rfl, hw⟩; have hw2 := hw.symm; clear hw; subst hw2) | (go_at_call 55; refine hcn.mono ?_; rintro e w1 ⟨rfl, n1, hw1⟩; have cd1 : w1.cell? ⟨b, o + 1, none⟩ = some (.int .u8 (d0.toNat : Int)) := (by rw [hw1]; exact cd0); have hDc1 : ∀ k d, D[k]? = some d → w1.cell? ⟨b, o + 1 + k, none⟩ = some (.int .u8 (d.toNat : Int)) := (by rw [hw1]; exact hDc); have hrd1 : RD w1 g (.slice (some ⟨b, o, none⟩) (r.length + 1) c) 0 true := (by rw [hw1]; exact hrd); have hh1 : HBN w1 g (.slice (some ⟨b, o, none⟩) (r.length + 1) c) (x :: r) := (by rw [hw1]; exact ⟨hh, hnb⟩); have ho1 : Hid (Only g w w1) := (by show Only g w w1; rw [hw1]; exact (Only.refl g w).drewN n1); clear hw1 cd0 hDc hrd hh hnb c0 c1 c2 cx he hcn))
    go_loopw [7, 52] (fun n i wr => ∃ k : Nat, k ≤ x.toNat ∧ i = .int .i64 k ∧ n = .int .u64 (valL (D.take k) : Int) ∧ w1 = wr) (fun _ i _ => x.toNat - (intOf i).toNat)
    case atStart => exact ⟨0, Nat.zero_le _, rfl, rfl, rfl⟩
    case round =>
      obtain ⟨k, hk, rfl, rfl, rfl⟩ := hrel
      by_cases hlt : k < x.toNat
      · have gd : D[k]? = some (D[k]'(by omega)) := List.getElem?_eq_getElem (by omega)
        have cdk := hDc1 k _ gd
        have HVN := valL_next D k _ gd
        have hvl := valL_take_lt D k (by omega)
        generalize D[k]'(by omega) = d at *
        have HV : Hid (valL (D.take (k + 1)) = valL (D.take k) * 256 + d.toNat) := HVN
        generalize valL (D.take k) = V at *
        clear HVN gd
        have hd := d.toNat_lt
        have hlt2 : (k : Int) < (x.toNat : Int) := by omega
        have HO : Hid (bits BinOp.or IntKind.u64 ((V : Int) * 256) (d.toNat : Int) = ((V * 256 + d.toNat : Nat) : Int)) := or_low V d.toNat hvl hd
        go_wp2
        exact ⟨⟨k + 1, by omega, by go_num, by rw [HO.out, HV.out], trivial⟩, by simp [intOf]; omega⟩
      · obtain rfl : k = x.toNat := by omega
        have hV8 : valL D < 18446744073709551616 := by
          have h1 := valL_lt D
          have h2 : (256 : Nat) ^ D.length ≤ 256 ^ 8 := Nat.pow_le_pow_right (by omega) (by omega)
          have h3 : (256 : Nat) ^ 8 = 18446744073709551616 := by decide
          omega
        have hU : uintF (x :: r) most = if 4611686018427387904 < valL D then (5, 0, []) else if most < (valL D : Int) then (4, 0, []) else (0, valL D, r.drop x.toNat) := by
          simp only [uintF]
          rw [if_neg (by omega), if_neg (by omega), ← hD, if_neg (by rw [hDD]; simp; exact hz)]
        rw [List.take_of_length_le (by omega)]
        generalize valL D = V at *
        clear hDc1 hDD hD hz hzI hzb cd1 hDl
        by_cases hbig : 4611686018427387904 < V
        · rw [if_pos hbig] at hU
          have HU : Hid (uintF (x :: r) most = (5, 0, [])) := hU
          have hb2 : (4611686018427387904 : Int) < (V : Int) := by omega
          clear hU
          go_wp2_with (first | (go_at_call 54; refine (fail_said g _ 5 _ hrd1).mono ?_; rintro e w2 ⟨rfl, hr2, ho2⟩))
          go_ret
          refine ⟨?_, ?_, ho1.out.trans ho2⟩
          · rw [HU.out]; rfl
          · rw [HU.out]; exact hr2
        · rw [if_neg hbig] at hU
          have hb2 : (V : Int) ≤ 4611686018427387904 := by omega
          by_cases hmost : most < (V : Int)
          · rw [if_pos hmost] at hU
            have HU : Hid (uintF (x :: r) most = (4, 0, [])) := hU
            clear hU
            go_wp2_with (first | (go_at_call 54; refine (fail_said g _ 4 _ hrd1).mono ?_; rintro e w2 ⟨rfl, hr2, ho2⟩))
            go_ret
            refine ⟨?_, ?_, ho1.out.trans ho2⟩
            · rw [HU.out]; rfl
            · rw [HU.out]; exact hr2
          · rw [if_neg hmost] at hU
            have HU : Hid (uintF (x :: r) most = (0, V, r.drop x.toNat)) := hU
            have hm2 : (V : Int) ≤ most := by omega
            have hd : decide (most < (V : Int)) = false := by simpa using hmost
            obtain ⟨c0, c1, c2⟩ := hrd1.cells
            have f0 := hrd1.free 0
            have k3 : ∀ w, (Instr.slice 22 (.slice (some ⟨b, o, none⟩) (r.length + 1) c) (some (.int .i64 (1 + (x.toNat : Int)))) none none).run Try.prog w = .ok (.slice (cutP (some ⟨b, o, none⟩) c (1 + x.toNat)) (r.length - x.toNat) (c - (1 + x.toNat))) w := by
              intro w
              have := run_cut (P := Try.prog) Try.underlying22 s_u8 (some ⟨b, o, none⟩) (r.length + 1) c (1 + x.toNat) (1 + (x.toNat : Int)) (by omega) (by omega) w
              rw [this, show r.length + 1 - (1 + x.toNat) = r.length - x.toNat by omega]
            have hbh := hh1.behind (1 + x.toNat) (by omega)
            rw [show r.length + 1 - (1 + x.toNat) = r.length - x.toNat by omega, show (x :: r).drop (1 + x.toNat) = r.drop x.toNat by rw [Nat.add_comm, List.drop_succ_cons]] at hbh
            have HDL : Hid ((r.drop x.toNat).length = r.length - x.toNat) := by show _ = _; rw [List.length_drop]
            have HRD : Hid (RD w1 g (.slice (some ⟨b, o, none⟩) (r.length + 1) c) 0 true) := hrd1
            have HBH : Hid (HBN w1 g (.slice (cutP (some ⟨b, o, none⟩) c (1 + x.toNat)) (r.length - x.toNat) (c - (1 + x.toNat))) (r.drop x.toNat)) := hbh
            clear hU hbh hrd1 hh1
            go_wp2
            go_ret
            refine ⟨?_, ?_, ho1.out.trans ((Only.refl g w1).setCell 0 _)⟩
            · rw [HU.out]; rfl
            · rw [HU.out]
              refine ⟨cutP (some ⟨b, o, none⟩) c (1 + x.toNat), c - (1 + x.toNat), ?_, ?_⟩
              · rw [HDL.out]
                exact HRD.out.put0 _
              · rw [HDL.out]
                exact HBH.out.only ((Only.refl g w1).setCell 0 _)

end Go.Proofs.Ythkgbgkijdeaoaa
