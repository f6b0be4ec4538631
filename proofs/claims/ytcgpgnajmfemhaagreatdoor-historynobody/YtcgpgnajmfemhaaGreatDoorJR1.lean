/- What this text proves: a codec.Reader in memory; the walks of its Err, Left, End and fail over this program. What this text holds: plain facts: worlds that part in one block alone; a reader with what is left; what is read of bytes (no program). What this text proves: the walks of the reader's counted and Uint over this program. What this text proves: the walk of the reader's Uint over this program: the next number, or the error. What this text proves: the walk of the reader's Uint over this program where the bytes of the number are there. What this text proves: the walks of the reader's Uint, Bytes, Flag and of Open over this program, whatever is left. What this text proves: laws for a walk, over any program: a copy of a longer slice of bytes over a whole row that the call owns; a copy of any slice of bytes into such a row. What this text proves: the walks of the reader's Bytes and Flag and of Open over this program. What this text holds: blocks of unlike types part what lies apart; rows of texts that are read; a reader's calls, whatever came ahead; what is read of a record's bytes, plainly. What this text proves: plain facts (no program): what was put is read, with anything behind; what was read, put, is the bytes that were read. -/
import Derived.Test.YtcgpgnajmfemhaaGreatDoorJOw
import Derived.BigQuiet
import Derived.Test.YtcgpgnajmfemhaaGreatDoorJE2
import Derived.Test.YtcgpgnajmfemhaaGreatDoorJQ2
namespace Go.Proofs.YtcgpgnajmfemhaaGreatDoor
open Go.RowKit

/-- Block g holds a reader: what is left, the first error, whether Open made it. -/
def RD (w : World) (g : Nat) (v : Value) (e : Int) (b : Bool) : Prop := w.heap[g]? = some (.cells #[v, .int .i64 e, .bool b] 221 (0, 0))

theorem RD.cells {w : World} {g : Nat} {v : Value} {e : Int} {b : Bool} (h : RD w g v e b) : w.cell? ⟨g, 0, none⟩ = some v ∧ w.cell? ⟨g, 1, none⟩ = some (.int .i64 e) ∧ w.cell? ⟨g, 2, none⟩ = some (.bool b) := by
  refine ⟨?_, ?_, ?_⟩ <;> rw [cell_of_row w g _ _ _ _ h] <;> rfl

theorem RD.later {w w' : World} {g : Nat} {v : Value} {e : Int} {b : Bool} (h : RD w g v e b) (hb : Below w.heap.size w w') : RD w' g v e b := by
  unfold RD
  rw [hb.block g (Array.getElem?_eq_some_iff.1 h).1]
  exact h

theorem RD.lt {w : World} {g : Nat} {v : Value} {e : Int} {b : Bool} (h : RD w g v e b) : g < w.heap.size := (Array.getElem?_eq_some_iff.1 h).1

theorem RD.put0 {w : World} {g : Nat} {v : Value} {e : Int} {b : Bool} (h : RD w g v e b) (v' : Value) : RD (w.setCell ⟨g, 0, none⟩ v') g v' e b := by
  unfold RD
  rw [heap_setCell_same w g 0 _ _ _ h]
  rfl

theorem RD.put1 {w : World} {g : Nat} {v : Value} {e : Int} {b : Bool} (h : RD w g v e b) (e' : Int) : RD (w.setCell ⟨g, 1, none⟩ (.int .i64 e')) g v e' b := by
  unfold RD
  rw [heap_setCell_same w g 1 _ _ _ h]
  rfl

theorem RD.other {w : World} {g : Nat} {v : Value} {e : Int} {b : Bool} (h : RD w g v e b) (a : Addr) (u : Value) (hne : g ≠ a.block) : RD (w.setCell a u) g v e b := by
  unfold RD
  rw [heap_setCell_other w a g u hne]
  exact h

theorem RD.free {w : World} {g : Nat} {v : Value} {e : Int} {b : Bool} (h : RD w g v e b) (i : Nat) : w.frozen? ⟨g, i, none⟩ = false := by
  unfold RD at h
  simp [World.frozen?, h]

set_option maxRecDepth 100000 in
set_option maxHeartbeats 400000 in
theorem rerr_nil (w : World) : Calls Tryz.prog 123 #[.pointer none] w fun e w' => e = .returned (.int .i64 2) ∧ w' = w := by
  go_enter Tryz.func123, Tryz.ntmps123
  go_wp2
  go_ret
  exact ⟨rfl, rfl⟩

set_option maxRecDepth 100000 in
set_option maxHeartbeats 400000 in
theorem rerr_any (g : Nat) (v : Value) (e : Int) (b : Bool) (w : World) (h : RD w g v e b) :
    Calls Tryz.prog 123 #[.pointer (some ⟨g, 0, none⟩)] w fun x w' => x = .returned (.int .i64 (if b then e else 2)) ∧ w' = w := by
  obtain ⟨c0, c1, c2⟩ := h.cells
  clear h
  cases b
  · go_enter Tryz.func123, Tryz.ntmps123
    go_wp2
    go_ret
    exact ⟨rfl, rfl⟩
  · go_enter Tryz.func123, Tryz.ntmps123
    go_wp2
    go_ret
    exact ⟨rfl, rfl⟩

set_option maxRecDepth 100000 in
set_option maxHeartbeats 400000 in
theorem rleft_nil (w : World) : Calls Tryz.prog 125 #[.pointer none] w fun e w' => e = .returned (.int .i64 0) ∧ w' = w := by
  go_enter Tryz.func125, Tryz.ntmps125
  go_wp2
  go_ret
  exact ⟨rfl, rfl⟩

set_option maxRecDepth 100000 in
set_option maxHeartbeats 400000 in
theorem rleft_any (g : Nat) (p : Option Addr) (n c : Nat) (e : Int) (b : Bool) (w : World) (h : RD w g (.slice p n c) e b) :
    Calls Tryz.prog 125 #[.pointer (some ⟨g, 0, none⟩)] w fun x w' => x = .returned (.int .i64 (n : Int)) ∧ w' = w := by
  obtain ⟨c0, c1, c2⟩ := h.cells
  clear h
  go_enter Tryz.func125, Tryz.ntmps125
  go_wp2
  go_ret
  exact ⟨rfl, rfl⟩

/-- The first error, or ErrForm, if something is left. -/
def endF (n : Nat) (e : Int) : Int := if e = 0 ∧ 0 < n then 5 else e

set_option maxRecDepth 100000 in
set_option maxHeartbeats 400000 in
theorem rfail_any (g : Nat) (v : Value) (e e' : Int) (b : Bool) (w : World) (h : RD w g v e b) :
    Calls Tryz.prog 163 #[.pointer (some ⟨g, 0, none⟩), .int .i64 e'] w fun x w' => x = .returned (.int .i64 0) ∧ w' = (w.setCell ⟨g, 1, none⟩ (.int .i64 e')).setCell ⟨g, 0, none⟩ (.slice none 0 0) := by
  obtain ⟨c0, c1, c2⟩ := h.cells
  have f0 := h.free 0
  have f1 := h.free 1
  obtain ⟨c0', _, _⟩ := (h.put1 e').cells
  have f0' := (h.put1 e').free 0
  clear h
  go_enter Tryz.func163, Tryz.ntmps163
  go_wp2
  go_ret
  exact ⟨rfl, rfl⟩

end Go.Proofs.YtcgpgnajmfemhaaGreatDoor

namespace Go.Proofs.YtcgpgnajmfemhaaGreatDoor
open Go.RowKit

/-- Block k is a block of bytes. -/
def TY (w : World) (k : Nat) : Prop := ∃ cur fr, w.heap[k]? = some (.cells cur 5 fr)
theorem TY.keep {w w' : World} {k : Nat} (h : TY w k) (e : w'.heap[k]? = w.heap[k]?) : TY w' k := by
  obtain ⟨cur, fr, hk⟩ := h
  exact ⟨cur, fr, e.trans hk⟩
theorem TY.lt {w : World} {k : Nat} (h : TY w k) : k < w.heap.size := by
  obtain ⟨cur, fr, hk⟩ := h
  exact (Array.getElem?_eq_some_iff.1 hk).1
theorem TY.later {w w' : World} {k : Nat} (h : TY w k) (hb : Below w.heap.size w w') : TY w' k := h.keep (hb.block k h.lt)
theorem TY.only {w w' : World} {g k : Nat} (h : TY w k) (ho : Only g w w') (hne : k ≠ g) : TY w' k := h.keep (ho.block k hne h.lt)
theorem TY.of_owns {w : World} {base n m c : Nat} {a : Addr} {v : Value} {xs : List Value} (h : w.ownsRow base 5 1 v n xs) (e : v = .slice (some a) m c) : TY w a.block := by
  rcases h.2 with ⟨e1, _⟩ | ⟨g, cap, cur, e1, _, hg, _⟩
  · rw [e1] at e; cases e
  · rw [e1] at e
    simp only [Value.slice.injEq, Option.some.injEq] at e
    rw [← e.1]
    exact ⟨cur, _, hg⟩

/-- Bytes that don't lie in block g, in a block of bytes. -/
def HBN (w : World) (g : Nat) (v : Value) (l : List UInt8) : Prop := HB w v l ∧ ∀ a n c, v = .slice (some a) n c → a.block ≠ g ∧ TY w a.block

theorem HBN.only {w w' : World} {g : Nat} {v : Value} {l : List UInt8} (h : HBN w g v l) (ho : Only g w w') : HBN w' g v l := ⟨h.1.only (fun a n c e => (h.2 a n c e).1) ho, fun a n c e => ⟨(h.2 a n c e).1, (h.2 a n c e).2.only ho (h.2 a n c e).1⟩⟩
theorem HBN.later {w w' : World} {g : Nat} {v : Value} {l : List UInt8} (h : HBN w g v l) (hb : Below w.heap.size w w') : HBN w' g v l := ⟨h.1.later hb, fun a n c e => ⟨(h.2 a n c e).1, (h.2 a n c e).2.later hb⟩⟩
theorem HBN.nil (w : World) (g : Nat) : HBN w g (.slice none 0 0) [] := ⟨HB.nil w, fun _ _ _ h => by cases h⟩
theorem HBN.behind {w : World} {g : Nat} {p : Option Addr} {n c : Nat} {l : List UInt8} (h : HBN w g (.slice p n c) l) (k : Nat) (hk : k ≤ n) : HBN w g (.slice (cutP p c k) (n - k) (c - k)) (l.drop k) := by
  refine ⟨h.1.behind k hk, fun a n' c' e => ?_⟩
  simp only [Value.slice.injEq] at e
  unfold cutP at e
  split at e
  · exact h.2 a n c (by rw [e.1])
  · cases p with
    | none => simp at e
    | some a' =>
      have := e.1
      simp only [Option.map_some, Option.some.injEq] at this
      have h2 := h.2 a' n c rfl
      rw [← this]
      unfold Addr.add
      split <;> exact h2

/-- A reader that Open made: what is left, and the first error. -/
def RR (w : World) (g : Nat) (l : List UInt8) (e : Int) : Prop := ∃ p c, RD w g (.slice p l.length c) e true ∧ HBN w g (.slice p l.length c) l

theorem RR.later {w w' : World} {g : Nat} {l : List UInt8} {e : Int} (h : RR w g l e) (hb : Below w.heap.size w w') : RR w' g l e := by
  obtain ⟨p, c, h1, h2⟩ := h
  exact ⟨p, c, h1.later hb, h2.later hb⟩
/-- What is written elsewhere leaves it as it was, if what is left does not lie there. -/
theorem RD.only {w w' : World} {g g' : Nat} {v : Value} {e : Int} {b : Bool} (h : RD w g v e b) (ho : Only g' w w') (hne : g ≠ g') : RD w' g v e b := by
  unfold RD
  rw [ho.block g hne h.lt]
  exact h

/-- What a number is read as: the error, the number, what is left. -/
def uintF (l : List UInt8) (most : Int) : Int × Nat × List UInt8 :=
  match l with
  | [] => (3, 0, [])
  | c :: r =>
    if 8 < c.toNat then (5, 0, [])
    else if r.length < c.toNat then (3, 0, [])
    else if (r.take c.toNat).head? = some 0 then (5, 0, [])
    else if 4611686018427387904 < valL (r.take c.toNat) then (5, 0, [])
    else if most < (valL (r.take c.toNat) : Int) then (4, 0, [])
    else (0, valL (r.take c.toNat), r.drop c.toNat)

/-- What a text is read as: the error, the text, what is left. -/
def bytesF (l : List UInt8) (most : Int) : Int × List UInt8 × List UInt8 :=
  let u := uintF l most
  if u.1 ≠ 0 then (u.1, [], [])
  else if u.2.2.length < u.2.1 then (3, [], [])
  else (0, u.2.2.take u.2.1, u.2.2.drop u.2.1)

/-- What a yes or no is read as: the error, it, what is left. -/
def flagF (l : List UInt8) : Int × Bool × List UInt8 :=
  match l with
  | [] => (3, false, [])
  | x :: r => if 1 < x.toNat then (5, false, []) else (0, x == 1, r)

end Go.Proofs.YtcgpgnajmfemhaaGreatDoor

namespace Go.Proofs.YtcgpgnajmfemhaaGreatDoor
open Go.RowKit

theorem wrapI (n : Nat) (h : n ≤ 9223372036854775807) : IntKind.i64.wrap (n : Int) = (n : Int) := by
  rw [IntKind.wrap_i64]
  omega

set_option maxRecDepth 100000 in
set_option maxHeartbeats 1000000 in
theorem counted_short (g : Nat) (l : List UInt8) (w : World) (h : RR w g l 0) (hs : ∀ c r, l = c :: r → r.length < c.toNat) :
    Calls Tryz.prog 164 #[.pointer (some ⟨g, 0, none⟩)] w fun x w' => x = .returned (.tuple #[.slice none 0 0, .bool false]) ∧ ∃ n, w' = w.drewN n := by
  obtain ⟨p, c, hrd, hh, _⟩ := h
  obtain ⟨c0, c1, c2⟩ := hrd.cells
  cases l with
  | nil =>
    clear hrd hh hs
    simp only [List.length_nil] at c0
    go_enter Tryz.func164, Tryz.ntmps164
    go_wp2
    go_quiet (fail)
    go_wp2
    go_ret2
    exact ⟨rfl, _, rfl⟩
  | cons x r =>
    have hlt := hs x r rfl
    obtain ⟨b, o, rfl, hc⟩ := hh.addr (by simp)
    have cx := hc 0 x rfl
    unfold bc at cx
    simp only [Nat.add_zero] at cx
    have hm := hh.len.2.2.1
    have hlc := hh.len.2.1
    unfold maxLen at hm
    simp only [List.length_cons] at c0 hlc
    have hx := x.toNat_lt
    have hlt2 : (r.length : Int) < (x.toNat : Int) := by omega
    have hw1 := wrapI r.length (by omega)
    have hw2 := wrapI x.toNat (by omega)
    clear hrd hh hs hc
    go_enter Tryz.func164, Tryz.ntmps164
    go_wp2
    go_quiet (fail)
    go_wp2
    go_ret2
    exact ⟨rfl, _, rfl⟩

set_option maxRecDepth 100000 in
set_option maxHeartbeats 1000000 in
theorem counted_ok (g : Nat) (x : UInt8) (r : List UInt8) (w : World) (b o c : Nat) (hrd : RD w g (.slice (some ⟨b, o, none⟩) (r.length + 1) c) 0 true) (hh : HB w (.slice (some ⟨b, o, none⟩) (r.length + 1) c) (x :: r)) (hs : x.toNat ≤ r.length) :
    Calls Tryz.prog 164 #[.pointer (some ⟨g, 0, none⟩)] w fun y w' => y = .returned (.tuple #[.slice (cutP (some ⟨b, o, none⟩) c 1) x.toNat (c - 1), .bool true]) ∧ ∃ n, w' = w.drewN n := by
  obtain ⟨c0, c1, c2⟩ := hrd.cells
  obtain ⟨b', o', e, hc⟩ := hh.addr (by simp)
  simp only [Option.some.injEq, Addr.mk.injEq, and_true] at e
  obtain ⟨rfl, rfl⟩ := e
  have cx := hc 0 x rfl
  unfold bc at cx
  simp only [Nat.add_zero] at cx
  have hm := hh.len.2.2.1
  have hlc := hh.len.2.1
  unfold maxLen at hm
  have hx := x.toNat_lt
  have hlt2 : (x.toNat : Int) ≤ (r.length : Int) := by omega
  have hw1 := wrapI r.length (by omega)
  have hw2 := wrapI x.toNat (by omega)
  have hw3 : IntKind.i64.wrap (1 + (x.toNat : Int)) = 1 + (x.toNat : Int) := by rw [IntKind.wrap_i64]; omega
  have k3 : ∀ w, (Instr.slice 37 (.slice (some ⟨b, o, none⟩) (r.length + 1) c) (some (.int .i64 1)) (some (.int .i64 (1 + (x.toNat : Int)))) none).run Tryz.prog w = .ok (.slice (cutP (some ⟨b, o, none⟩) c 1) x.toNat (c - 1)) w := by
    intro w
    have := run_cut2 (P := Tryz.prog) Tryz.underlying37 s_u8 (some ⟨b, o, none⟩) (r.length + 1) c 1 (1 + x.toNat) 1 (1 + (x.toNat : Int)) rfl (by omega) (by omega) (by omega) w
    rwa [show 1 + x.toNat - 1 = x.toNat by omega] at this
  have hd : decide ((r.length : Int) < (x.toNat : Int)) = false := by simp; omega
  have hdn : decide (r.length < x.toNat) = false := by simp; omega
  have hz : ((r.length : Int) + 1 == 0) = false := by simp; omega
  clear hrd hh hs hc
  go_enter Tryz.func164, Tryz.ntmps164
  go_wp2
  go_quiet (fail)
  have c0' : (w.drewN nq).cell? ⟨g, 0, none⟩ = some (.slice (some ⟨b, o, none⟩) (r.length + 1) c) := c0
  have cx' : (w.drewN nq).cell? ⟨b, o, none⟩ = some (.int .u8 (x.toNat : Int)) := cx
  have hwn : Hid (∃ n, w.drewN nq = w.drewN n) := ⟨_, rfl⟩
  clear c0 cx c1 c2
  generalize w.drewN nq = w2 at *
  go_wp2
  go_quiet (fail)
  go_wp2
  go_ret2
  obtain ⟨n2, hwn⟩ := hwn.out
  refine ⟨rfl, n2 + nq, ?_⟩
  rw [hwn, World.drewN_drewN]

end Go.Proofs.YtcgpgnajmfemhaaGreatDoor

namespace Go.Proofs.YtcgpgnajmfemhaaGreatDoor
open Go.RowKit

theorem RD.failed {w : World} {g : Nat} {v : Value} {e : Int} (h : RD w g v e true) (e' : Int) : RR ((w.setCell ⟨g, 1, none⟩ (.int .i64 e')).setCell ⟨g, 0, none⟩ (.slice none 0 0)) g [] e' ∧ Only g w ((w.setCell ⟨g, 1, none⟩ (.int .i64 e')).setCell ⟨g, 0, none⟩ (.slice none 0 0)) :=
  ⟨⟨none, 0, (h.put1 e').put0 _, HBN.nil _ _⟩, ((Only.refl g w).setCell 1 _).setCell 0 _⟩

/-- What Uint answers where it fails. -/
def Fell (g : Nat) (w : World) (e' : Int) (x : Ending) (w' : World) : Prop := x = .returned (.int .i64 0) ∧ RR w' g [] e' ∧ Only g w w'

theorem fail_said (g : Nat) (v : Value) (e' : Int) (w : World) (h : RD w g v 0 true) : Calls Tryz.prog 163 #[.pointer (some ⟨g, 0, none⟩), .int .i64 e'] w fun x w' => x = .returned (.int .i64 0) ∧ RR w' g [] e' ∧ Only g w w' :=
  (rfail_any g v 0 e' true w h).mono fun x w' ⟨hx, hw⟩ => by subst hw; exact ⟨hx, h.failed e'⟩

set_option maxRecDepth 100000 in
set_option maxHeartbeats 1000000 in
theorem uint_nil (g : Nat) (most : Int) (w : World) (h : RR w g [] 0) : Calls Tryz.prog 122 #[.pointer (some ⟨g, 0, none⟩), .int .i64 most] w (Fell g w 3) := by
  have hc := counted_short g [] w h (fun _ _ e => by cases e)
  obtain ⟨p, c, hrd, hh⟩ := h
  have he := rerr_any g _ 0 true w hrd
  simp only [if_true] at he
  obtain ⟨c0, c1, c2⟩ := hrd.cells
  simp only [List.length_nil] at c0
  go_enter Tryz.func122, Tryz.ntmps122
  go_wp2_with (first | (go_at_call 123; refine he.mono ?_; rintro e w' ⟨rfl, hw⟩; have hw2 := hw.symm; clear hw; subst hw2) | (go_at_call 164; refine hc.mono ?_; rintro e w1 ⟨rfl, n1, hw1⟩; have hrd1 : RD w1 g (.slice p 0 c) 0 true := (by rw [hw1]; exact hrd); have ho1 : Hid (Only g w w1) := (by show Only g w w1; rw [hw1]; exact (Only.refl g w).drewN n1); clear hw1) | (go_at_call 163; refine (fail_said g _ 3 _ hrd1).mono ?_; rintro e w2 ⟨rfl, hr2, ho2⟩))
  go_ret
  exact ⟨rfl, hr2, ho1.out.trans ho2⟩

set_option maxRecDepth 100000 in
set_option maxHeartbeats 1000000 in
theorem uint_big (g : Nat) (x : UInt8) (r : List UInt8) (most : Int) (w : World) (h : RR w g (x :: r) 0) (hx8 : 8 < x.toNat) : Calls Tryz.prog 122 #[.pointer (some ⟨g, 0, none⟩), .int .i64 most] w (Fell g w 5) := by
  obtain ⟨p, c, hrd, hh, _⟩ := h
  have he := rerr_any g _ 0 true w hrd
  simp only [if_true] at he
  obtain ⟨c0, c1, c2⟩ := hrd.cells
  obtain ⟨b, o, rfl, hc⟩ := hh.addr (by simp)
  have cx := hc 0 x rfl
  unfold bc at cx
  simp only [Nat.add_zero] at cx
  simp only [List.length_cons] at c0 hrd he
  have hx := x.toNat_lt
  have hx82 : (8 : Int) < (x.toNat : Int) := by omega
  have hlen := hh.len.2
  unfold maxLen at hlen
  simp only [List.length_cons] at hlen
  have hl0 : (0 : Int) < (r.length : Int) + 1 := by omega
  clear hh hc
  go_enter Tryz.func122, Tryz.ntmps122
  go_wp2_with (first | (go_at_call 123; refine he.mono ?_; rintro e w' ⟨rfl, hw⟩; have hw2 := hw.symm; clear hw; subst hw2) | (go_at_call 163; refine (fail_said g _ 5 _ hrd).mono ?_; rintro e w2 ⟨rfl, hr2, ho2⟩))
  go_ret
  exact ⟨rfl, hr2, ho2⟩

set_option maxRecDepth 100000 in
set_option maxHeartbeats 1000000 in
theorem uint_short (g : Nat) (x : UInt8) (r : List UInt8) (most : Int) (w : World) (h : RR w g (x :: r) 0) (hx8 : x.toNat ≤ 8) (hs : r.length < x.toNat) : Calls Tryz.prog 122 #[.pointer (some ⟨g, 0, none⟩), .int .i64 most] w (Fell g w 3) := by
  have hcn := counted_short g (x :: r) w h (fun c r' e => by cases e; exact hs)
  obtain ⟨p, c, hrd, hh, _⟩ := h
  have he := rerr_any g _ 0 true w hrd
  simp only [if_true] at he
  obtain ⟨c0, c1, c2⟩ := hrd.cells
  obtain ⟨b, o, rfl, hc⟩ := hh.addr (by simp)
  have cx := hc 0 x rfl
  unfold bc at cx
  simp only [Nat.add_zero] at cx
  simp only [List.length_cons] at c0 hrd he
  have hx := x.toNat_lt
  have hx82 : (x.toNat : Int) ≤ 8 := by omega
  have hlen := hh.len.2
  unfold maxLen at hlen
  simp only [List.length_cons] at hlen
  have hl0 : (0 : Int) < (r.length : Int) + 1 := by omega
  clear hh hc
  go_enter Tryz.func122, Tryz.ntmps122
  go_wp2_with (first | (go_at_call 123; refine he.mono ?_; rintro e w' ⟨rfl, hw⟩; have hw2 := hw.symm; clear hw; subst hw2) | (go_at_call 164; refine hcn.mono ?_; rintro e w1 ⟨rfl, n1, hw1⟩; have hrd1 : RD w1 g (.slice (some ⟨b, o, none⟩) (r.length + 1) c) 0 true := (by rw [hw1]; exact hrd); have ho1 : Hid (Only g w w1) := (by show Only g w w1; rw [hw1]; exact (Only.refl g w).drewN n1); clear hw1) | (go_at_call 163; refine (fail_said g _ 3 _ hrd1).mono ?_; rintro e w2 ⟨rfl, hr2, ho2⟩))
  go_ret
  exact ⟨rfl, hr2, ho1.out.trans ho2⟩

end Go.Proofs.YtcgpgnajmfemhaaGreatDoor

namespace Go.Proofs.YtcgpgnajmfemhaaGreatDoor
open Go.RowKit

theorem valL_next (D : List UInt8) (k : Nat) (d : UInt8) (h : D[k]? = some d) : valL (D.take (k + 1)) = valL (D.take k) * 256 + d.toNat := by
  rw [List.take_add_one, h]
  exact valL_snoc _ _

theorem valL_take_lt (D : List UInt8) (k : Nat) (hk : k ≤ 7) : valL (D.take k) < 72057594037927936 := by
  have h1 := valL_lt (D.take k)
  have h2 : (256 : Nat) ^ (D.take k).length ≤ 256 ^ 7 := Nat.pow_le_pow_right (by omega) (by rw [List.length_take]; omega)
  have h3 : (256 : Nat) ^ 7 = 72057594037927936 := by decide
  omega

theorem wraps_u64 (n : Int) (h₀ : 0 ≤ n) (h₁ : n < 2 ^ 64) : IntKind.u64.wrap n = n := by rw [IntKind.wrap_u64]; omega
theorem or_low (V d : Nat) (hV : V < 72057594037927936) (hd : d < 256) : bits BinOp.or IntKind.u64 ((V : Int) * 256) (d : Int) = ((V * 256 + d : Nat) : Int) := by
  have h1 := (bits_nat .u64 64 (by decide) wraps_u64 (V * 256) d (by omega) (by omega)).2
  rw [show ((V * 256 : Nat) : Int) = (V : Int) * 256 by omega] at h1
  rw [h1]
  have h2 := Nat.two_pow_add_eq_or_of_lt (i := 8) (b := d) hd V
  rw [show (2 : Nat) ^ 8 * V = V * 256 by omega] at h2
  rw [← h2]

/-- What Uint answers. -/
def UintSaid (g : Nat) (w : World) (l : List UInt8) (most : Int) (x : Ending) (w' : World) : Prop := x = .returned (.int .i64 ((uintF l most).2.1 : Int)) ∧ RR w' g (uintF l most).2.2 (uintF l most).1 ∧ Only g w w'

set_option maxRecDepth 100000 in
set_option maxHeartbeats 2000000 in
theorem uint_pos (g : Nat) (x : UInt8) (r : List UInt8) (most : Int) (w : World) (h : RR w g (x :: r) 0) (hx1 : 1 ≤ x.toNat) (hx8 : x.toNat ≤ 8) (hs : x.toNat ≤ r.length) : Calls Tryz.prog 122 #[.pointer (some ⟨g, 0, none⟩), .int .i64 most] w (UintSaid g w (x :: r) most) := by
  obtain ⟨p, c, hrd, hh, hnb⟩ := h
  have he := rerr_any g _ 0 true w hrd
  simp only [if_true] at he
  obtain ⟨c0, c1, c2⟩ := hrd.cells
  obtain ⟨b, o, rfl, hc⟩ := hh.addr (by simp)
  have cx := hc 0 x rfl
  unfold bc at cx
  simp only [Nat.add_zero] at cx
  have hlen := hh.len.2
  unfold maxLen at hlen
  have hcn := counted_ok g x r w b o c hrd hh hs
  have ecut : cutP (some (⟨b, o, none⟩ : Addr)) c 1 = some ⟨b, o + 1, none⟩ := by
    unfold cutP
    rw [if_neg (by simp only [List.length_cons] at hlen; omega)]
    simp [Addr.add_lit]
  rw [ecut] at hcn
  obtain ⟨D, hD⟩ : ∃ D, D = r.take x.toNat := ⟨_, rfl⟩
  have hDl : D.length = x.toNat := by rw [hD, List.length_take]; omega
  have hDc : ∀ k d, D[k]? = some d → w.cell? ⟨b, o + 1 + k, none⟩ = some (.int .u8 (d.toNat : Int)) := by
    intro k d hd
    have := hc (k + 1) d (by rw [List.getElem?_cons_succ]; rw [hD, List.getElem?_take] at hd; split at hd; exact hd; cases hd)
    rw [show o + 1 + k = o + (k + 1) by omega]
    exact this
  obtain ⟨d0, D', hDD⟩ : ∃ d0 D', D = d0 :: D' := by
    cases D with
    | nil => simp at hDl; omega
    | cons d0 D' => exact ⟨d0, D', rfl⟩
  have cd0 := hDc 0 d0 (by rw [hDD]; rfl)
  simp only [Nat.add_zero] at cd0
  simp only [List.length_cons] at c0 hrd he hlen hh hnb
  have hx := x.toNat_lt
  have hd0 := d0.toNat_lt
  have hx82 : (x.toNat : Int) ≤ 8 := by omega
  have hl0 : (0 : Int) < (r.length : Int) + 1 := by omega
  have hx0 : (0 : Int) < (x.toNat : Int) := by omega
  clear hc
  by_cases hz : d0 = 0
  · have HU : Hid (uintF (x :: r) most = (5, 0, [])) := by
      show uintF (x :: r) most = (5, 0, [])
      simp only [uintF]
      rw [if_neg (by omega), if_neg (by omega), if_pos (by rw [← hD, hDD, hz]; rfl)]
    subst hz
    simp only [UInt8.toNat_zero] at cd0
    clear hD hDl hDD hDc hh hnb
    go_enter Tryz.func122, Tryz.ntmps122
    go_wp2_with (first | (go_at_call 123; refine he.mono ?_; rintro e w' ⟨rfl, hw⟩; have hw2 := hw.symm; clear hw; subst hw2) | (go_at_call 164; refine hcn.mono ?_; rintro e w1 ⟨rfl, n1, hw1⟩; have cd1 : w1.cell? ⟨b, o + 1, none⟩ = some (.int .u8 0) := (by rw [hw1]; exact cd0); have hrd1 : RD w1 g (.slice (some ⟨b, o, none⟩) (r.length + 1) c) 0 true := (by rw [hw1]; exact hrd); have ho1 : Hid (Only g w w1) := (by show Only g w w1; rw [hw1]; exact (Only.refl g w).drewN n1); clear hw1 cd0) | (go_at_call 163; refine (fail_said g _ 5 _ hrd1).mono ?_; rintro e w2 ⟨rfl, hr2, ho2⟩))
    go_ret
    refine ⟨?_, ?_, ho1.out.trans ho2⟩
    · rw [HU.out]; rfl
    · rw [HU.out]; exact hr2
  · have hzI : ¬ (d0.toNat : Int) = 0 := fun e => hz (UInt8.toNat_inj.1 (by simp; omega))
    have hzb : ((d0.toNat : Int) == 0) = false := by simpa using hzI
    go_enter Tryz.func122, Tryz.ntmps122
    go_wp2_with (first | (go_at_call 123; refine he.mono ?_; rintro e w' ⟨rfl, hw⟩; have hw2 := hw.symm; clear hw; subst hw2) | (go_at_call 164; refine hcn.mono ?_; rintro e w1 ⟨rfl, n1, hw1⟩; have cd1 : w1.cell? ⟨b, o + 1, none⟩ = some (.int .u8 (d0.toNat : Int)) := (by rw [hw1]; exact cd0); have hDc1 : ∀ k d, D[k]? = some d → w1.cell? ⟨b, o + 1 + k, none⟩ = some (.int .u8 (d.toNat : Int)) := (by rw [hw1]; exact hDc); have hrd1 : RD w1 g (.slice (some ⟨b, o, none⟩) (r.length + 1) c) 0 true := (by rw [hw1]; exact hrd); have hh1 : HBN w1 g (.slice (some ⟨b, o, none⟩) (r.length + 1) c) (x :: r) := (by rw [hw1]; exact ⟨hh, hnb⟩); have ho1 : Hid (Only g w w1) := (by show Only g w w1; rw [hw1]; exact (Only.refl g w).drewN n1); clear hw1 cd0 hDc hrd hh hnb c0 c1 c2 cx he hcn))
    go_loopw [7, 52] (fun n i wr => ∃ k : Nat, k ≤ x.toNat ∧ i = .int .i64 k ∧ n = .int .u64 (valL (D.take k) : Int) ∧ w1 = wr) (fun _ i _ => x.toNat - (intOf i).toNat)
    case atStart => exact ⟨0, Nat.zero_le _, rfl, rfl, rfl⟩
    case round =>
      obtain ⟨k, hk, rfl, rfl, rfl⟩ := hrel
      by_cases hlt : k < x.toNat
      · have gd : D[k]? = some (D[k]'(by omega)) := List.getElem?_eq_getElem (by omega)
        have cdk := hDc1 k _ gd
        have HVN := valL_next D k _ gd
        have hvl := valL_take_lt D k (by omega)
        generalize D[k]'(by omega) = d at *
        have HV : Hid (valL (D.take (k + 1)) = valL (D.take k) * 256 + d.toNat) := HVN
        generalize valL (D.take k) = V at *
        clear HVN gd
        have hd := d.toNat_lt
        have hlt2 : (k : Int) < (x.toNat : Int) := by omega
        have HO : Hid (bits BinOp.or IntKind.u64 ((V : Int) * 256) (d.toNat : Int) = ((V * 256 + d.toNat : Nat) : Int)) := or_low V d.toNat hvl hd
        go_wp2
        exact ⟨⟨k + 1, by omega, by go_num, by rw [HO.out, HV.out], trivial⟩, by simp [intOf]; omega⟩
      · obtain rfl : k = x.toNat := by omega
        have hV8 : valL D < 18446744073709551616 := by
          have h1 := valL_lt D
          have h2 : (256 : Nat) ^ D.length ≤ 256 ^ 8 := Nat.pow_le_pow_right (by omega) (by omega)
          have h3 : (256 : Nat) ^ 8 = 18446744073709551616 := by decide
          omega
        have hU : uintF (x :: r) most = if 4611686018427387904 < valL D then (5, 0, []) else if most < (valL D : Int) then (4, 0, []) else (0, valL D, r.drop x.toNat) := by
          simp only [uintF]
          rw [if_neg (by omega), if_neg (by omega), ← hD, if_neg (by rw [hDD]; simp; exact hz)]
        rw [List.take_of_length_le (by omega)]
        generalize valL D = V at *
        clear hDc1 hDD hD hz hzI hzb cd1 hDl
        by_cases hbig : 4611686018427387904 < V
        · rw [if_pos hbig] at hU
          have HU : Hid (uintF (x :: r) most = (5, 0, [])) := hU
          have hb2 : (4611686018427387904 : Int) < (V : Int) := by omega
          clear hU
          go_wp2_with (first | (go_at_call 163; refine (fail_said g _ 5 _ hrd1).mono ?_; rintro e w2 ⟨rfl, hr2, ho2⟩))
          go_ret
          refine ⟨?_, ?_, ho1.out.trans ho2⟩
          · rw [HU.out]; rfl
          · rw [HU.out]; exact hr2
        · rw [if_neg hbig] at hU
          have hb2 : (V : Int) ≤ 4611686018427387904 := by omega
          by_cases hmost : most < (V : Int)
          · rw [if_pos hmost] at hU
            have HU : Hid (uintF (x :: r) most = (4, 0, [])) := hU
            clear hU
            go_wp2_with (first | (go_at_call 163; refine (fail_said g _ 4 _ hrd1).mono ?_; rintro e w2 ⟨rfl, hr2, ho2⟩))
            go_ret
            refine ⟨?_, ?_, ho1.out.trans ho2⟩
            · rw [HU.out]; rfl
            · rw [HU.out]; exact hr2
          · rw [if_neg hmost] at hU
            have HU : Hid (uintF (x :: r) most = (0, V, r.drop x.toNat)) := hU
            have hm2 : (V : Int) ≤ most := by omega
            have hd : decide (most < (V : Int)) = false := by simpa using hmost
            obtain ⟨c0, c1, c2⟩ := hrd1.cells
            have f0 := hrd1.free 0
            have k3 : ∀ w, (Instr.slice 37 (.slice (some ⟨b, o, none⟩) (r.length + 1) c) (some (.int .i64 (1 + (x.toNat : Int)))) none none).run Tryz.prog w = .ok (.slice (cutP (some ⟨b, o, none⟩) c (1 + x.toNat)) (r.length - x.toNat) (c - (1 + x.toNat))) w := by
              intro w
              have := run_cut (P := Tryz.prog) Tryz.underlying37 s_u8 (some ⟨b, o, none⟩) (r.length + 1) c (1 + x.toNat) (1 + (x.toNat : Int)) (by omega) (by omega) w
              rw [this, show r.length + 1 - (1 + x.toNat) = r.length - x.toNat by omega]
            have hbh := hh1.behind (1 + x.toNat) (by omega)
            rw [show r.length + 1 - (1 + x.toNat) = r.length - x.toNat by omega, show (x :: r).drop (1 + x.toNat) = r.drop x.toNat by rw [Nat.add_comm, List.drop_succ_cons]] at hbh
            have HDL : Hid ((r.drop x.toNat).length = r.length - x.toNat) := by show _ = _; rw [List.length_drop]
            have HRD : Hid (RD w1 g (.slice (some ⟨b, o, none⟩) (r.length + 1) c) 0 true) := hrd1
            have HBH : Hid (HBN w1 g (.slice (cutP (some ⟨b, o, none⟩) c (1 + x.toNat)) (r.length - x.toNat) (c - (1 + x.toNat))) (r.drop x.toNat)) := hbh
            clear hU hbh hrd1 hh1
            go_wp2
            go_ret
            refine ⟨?_, ?_, ho1.out.trans ((Only.refl g w1).setCell 0 _)⟩
            · rw [HU.out]; rfl
            · rw [HU.out]
              refine ⟨cutP (some ⟨b, o, none⟩) c (1 + x.toNat), c - (1 + x.toNat), ?_, ?_⟩
              · rw [HDL.out]
                exact HRD.out.put0 _
              · rw [HDL.out]
                exact HBH.out.only ((Only.refl g w1).setCell 0 _)

end Go.Proofs.YtcgpgnajmfemhaaGreatDoor

namespace Go.Proofs.YtcgpgnajmfemhaaGreatDoor
open Go.RowKit

set_option maxRecDepth 100000 in
set_option maxHeartbeats 2000000 in
theorem uint_zero (g : Nat) (x : UInt8) (r : List UInt8) (most : Int) (w : World) (h : RR w g (x :: r) 0) (hx0 : x.toNat = 0) : Calls Tryz.prog 122 #[.pointer (some ⟨g, 0, none⟩), .int .i64 most] w (UintSaid g w (x :: r) most) := by
  obtain rfl : x = 0 := UInt8.toNat_inj.1 (by simpa using hx0)
  obtain ⟨p, c, hrd, hh, hnb⟩ := h
  have he := rerr_any g _ 0 true w hrd
  simp only [if_true] at he
  obtain ⟨c0, c1, c2⟩ := hrd.cells
  obtain ⟨b, o, rfl, hc⟩ := hh.addr (by simp)
  have cx := hc 0 0 rfl
  unfold bc at cx
  simp only [Nat.add_zero, UInt8.toNat_zero] at cx
  have hlen := hh.len.2
  unfold maxLen at hlen
  have hcn := counted_ok g 0 r w b o c hrd hh (by simp)
  simp only [UInt8.toNat_zero] at hcn
  simp only [List.length_cons] at c0 hrd he hlen hh hnb
  have hl0 : (0 : Int) < (r.length : Int) + 1 := by omega
  have hU : uintF (0 :: r) most = if most < 0 then (4, 0, []) else (0, 0, r) := by simp [uintF, valL]
  clear hc hx0
  by_cases hmost : most < 0
  · rw [if_pos hmost] at hU
    have HU : Hid (uintF (0 :: r) most = (4, 0, [])) := hU
    clear hU
    go_enter Tryz.func122, Tryz.ntmps122
    go_wp2_with (first | (go_at_call 123; refine he.mono ?_; rintro e w' ⟨rfl, hw⟩; have hw2 := hw.symm; clear hw; subst hw2) | (go_at_call 164; refine hcn.mono ?_; rintro e w1 ⟨rfl, n1, hw1⟩; have hrd1 : RD w1 g (.slice (some ⟨b, o, none⟩) (r.length + 1) c) 0 true := (by rw [hw1]; exact hrd); have ho1 : Hid (Only g w w1) := (by show Only g w w1; rw [hw1]; exact (Only.refl g w).drewN n1); clear hw1))
    go_loopw [7, 52] (fun n i wr => i = .int .i64 0 ∧ n = .int .u64 0 ∧ w1 = wr) (fun _ _ _ => 0)
    case atStart => exact ⟨rfl, rfl, rfl⟩
    case round =>
      obtain ⟨rfl, rfl, rfl⟩ := hrel
      go_wp2_with (first | (go_at_call 163; refine (fail_said g _ 4 _ hrd1).mono ?_; rintro e w2 ⟨rfl, hr2, ho2⟩))
      go_ret
      refine ⟨?_, ?_, ho1.out.trans ho2⟩
      · rw [HU.out]; rfl
      · rw [HU.out]; exact hr2
  · rw [if_neg hmost] at hU
    have HU : Hid (uintF (0 :: r) most = (0, 0, r)) := hU
    have hd : decide (most < 0) = false := by simpa using hmost
    have hm2 : 0 ≤ most := by omega
    have k3 : ∀ w, (Instr.slice 37 (.slice (some ⟨b, o, none⟩) (r.length + 1) c) (some (.int .i64 1)) none none).run Tryz.prog w = .ok (.slice (cutP (some ⟨b, o, none⟩) c 1) r.length (c - 1)) w := by
      intro w
      have := run_cut (P := Tryz.prog) Tryz.underlying37 s_u8 (some ⟨b, o, none⟩) (r.length + 1) c 1 1 rfl (by omega) w
      rwa [show r.length + 1 - 1 = r.length by omega] at this
    have hbh := HBN.behind (g := g) ⟨hh, hnb⟩ 1 (by omega)
    rw [show r.length + 1 - 1 = r.length by omega] at hbh
    simp only [List.drop_succ_cons, List.drop_zero] at hbh
    clear hU hh hnb
    go_enter Tryz.func122, Tryz.ntmps122
    go_wp2_with (first | (go_at_call 123; refine he.mono ?_; rintro e w' ⟨rfl, hw⟩; have hw2 := hw.symm; clear hw; subst hw2) | (go_at_call 164; refine hcn.mono ?_; rintro e w1 ⟨rfl, n1, hw1⟩; have hrd1 : RD w1 g (.slice (some ⟨b, o, none⟩) (r.length + 1) c) 0 true := (by rw [hw1]; exact hrd); have hbh1 : HBN w1 g (.slice (cutP (some ⟨b, o, none⟩) c 1) r.length (c - 1)) r := (by rw [hw1]; exact hbh); have ho1 : Hid (Only g w w1) := (by show Only g w w1; rw [hw1]; exact (Only.refl g w).drewN n1); clear hw1 hbh c0 c1 c2 cx hrd he hcn))
    go_loopw [7, 52] (fun n i wr => i = .int .i64 0 ∧ n = .int .u64 0 ∧ w1 = wr) (fun _ _ _ => 0)
    case atStart => exact ⟨rfl, rfl, rfl⟩
    case round =>
      obtain ⟨rfl, rfl, rfl⟩ := hrel
      obtain ⟨c0, c1, c2⟩ := hrd1.cells
      have f0 := hrd1.free 0
      go_wp2
      go_ret
      refine ⟨?_, ?_, ho1.out.trans ((Only.refl g w1).setCell 0 _)⟩
      · rw [HU.out]; rfl
      · rw [HU.out]
        exact ⟨cutP (some ⟨b, o, none⟩) c 1, c - 1, hrd1.put0 _, hbh1.only ((Only.refl g w1).setCell 0 _)⟩

theorem uint_any (g : Nat) (l : List UInt8) (most : Int) (w : World) (h : RR w g l 0) : Calls Tryz.prog 122 #[.pointer (some ⟨g, 0, none⟩), .int .i64 most] w (UintSaid g w l most) := by
  cases l with
  | nil => exact uint_nil g most w h
  | cons x r =>
    by_cases h8 : 8 < x.toNat
    · refine (uint_big g x r most w h h8).mono fun y w' ⟨h1, h2, h3⟩ => ?_
      have hU : uintF (x :: r) most = (5, 0, []) := by simp only [uintF]; rw [if_pos h8]
      exact ⟨by rw [hU]; exact h1, by rw [hU]; exact h2, h3⟩
    · by_cases hs : r.length < x.toNat
      · refine (uint_short g x r most w h (by omega) hs).mono fun y w' ⟨h1, h2, h3⟩ => ?_
        have hU : uintF (x :: r) most = (3, 0, []) := by simp only [uintF]; rw [if_neg h8, if_pos hs]
        exact ⟨by rw [hU]; exact h1, by rw [hU]; exact h2, h3⟩
      · by_cases h0 : x.toNat = 0
        · exact uint_zero g x r most w h h0
        · exact uint_pos g x r most w h (by omega) (by omega) (by omega)

theorem RR.rd {w : World} {g : Nat} {l : List UInt8} {e : Int} (h : RR w g l e) : ∃ v, RD w g v e true := by
  obtain ⟨p, c, h1, _⟩ := h
  exact ⟨_, h1⟩

theorem rr_err (g : Nat) (l : List UInt8) (e : Int) (w : World) (h : RR w g l e) : Calls Tryz.prog 123 #[.pointer (some ⟨g, 0, none⟩)] w fun x w' => x = .returned (.int .i64 e) ∧ w' = w := by
  obtain ⟨v, h1⟩ := h.rd
  exact rerr_any g v e true w h1

theorem rr_left (g : Nat) (l : List UInt8) (e : Int) (w : World) (h : RR w g l e) : Calls Tryz.prog 125 #[.pointer (some ⟨g, 0, none⟩)] w fun x w' => x = .returned (.int .i64 (l.length : Int)) ∧ w' = w := by
  obtain ⟨p, c, h1, _⟩ := h
  exact rleft_any g p l.length c e true w h1

/-- Behind an error nothing is read. -/
theorem uint_stays (g : Nat) (l : List UInt8) (e most : Int) (w : World) (h : RR w g l e) (he : e ≠ 0) : Calls Tryz.prog 122 #[.pointer (some ⟨g, 0, none⟩), .int .i64 most] w fun x w' => x = .returned (.int .i64 0) ∧ w' = w := by
  have k := rr_err g l e w h
  have hd : (e == 0) = false := by simpa using he
  clear h
  go_enter Tryz.func122, Tryz.ntmps122
  go_wp2_with (first | (go_at_call 123; refine k.mono ?_; rintro e w' ⟨rfl, rfl⟩))
  go_ret
  exact ⟨rfl, rfl⟩

theorem bytes_stays (g : Nat) (l : List UInt8) (e most : Int) (w : World) (h : RR w g l e) (he : e ≠ 0) : Calls Tryz.prog 165 #[.pointer (some ⟨g, 0, none⟩), .int .i64 most] w fun x w' => x = .returned (.slice none 0 0) ∧ w' = w := by
  have k := rr_err g l e w h
  have k2 := uint_stays g l e most w h he
  have hd : (e == 0) = false := by simpa using he
  clear h
  go_enter Tryz.func165, Tryz.ntmps165
  go_wp2_with (first | (go_at_call 123; refine k.mono ?_; rintro e w' ⟨rfl, rfl⟩) | (go_at_call 122; refine k2.mono ?_; rintro e w' ⟨rfl, rfl⟩))
  go_ret
  exact ⟨rfl, rfl⟩

end Go.Proofs.YtcgpgnajmfemhaaGreatDoor

namespace Go.Proofs.YtcgpgnajmfemhaaGreatDoor
open Go.RowKit

/-- 'copy(dst, src)', dst a whole row of n bytes that the call owns, src of n bytes or more. -/
theorem wpList_copy_part {P : Program} {w : World} {ops : Array Oper} {rest : List Oper} {o : Oper} {a : Act} {Q : Exit → Act → World → Prop} (hgd : o.guard = none) (d s : Operand) (dT sT : TypeId)
    (ho : o.op = .call { callee := .builtin .copy, args := #[d, s], argTypes := #[dT, sT] }) (e : TypeId) (hu : P.underlying dT = some (.slice e)) (hsz : (P.info? e).map (·.size) = some 1)
    (g n : Nat) (p : Option Addr) (m c : Nat) (hd : a.eval d = .slice (some ⟨g, 0, none⟩) n n) (hs : a.eval s = .slice p m c)
    (base : Nat) (xs : List Value) (hown : w.ownsRow base e 1 (.slice (some ⟨g, 0, none⟩) n n) n xs) (l : List UInt8) (hsrc : HB w (.slice p m c) l) (hl : n ≤ m)
    (h : ∀ w', w'.ownsRow base e 1 (.slice (some ⟨g, 0, none⟩) n n) n (bcs (l.take n)) → w.grownBy w' (some g) → wpList P ops Q rest (a.put o.dst (goInt n)) w') : wpList P ops Q (o :: rest) a w := by
  have hm := hsrc.len.1
  rcases Nat.eq_zero_or_pos n with h0 | h0
  · subst h0
    refine wpList_copy_nothing hgd d s dT sT ho e hu hsz _ _ _ _ _ _ hd hs (Nat.min_zero m) (h w ?_ (World.grownBy.refl _ _))
    obtain ⟨q1, q2⟩ := hown
    obtain rfl : xs = [] := List.eq_nil_of_length_eq_zero (by simpa using q1)
    rw [List.take_zero]
    exact ⟨q1, q2⟩
  · obtain ⟨b, o', rfl, hc⟩ := hsrc.addr (by omega)
    obtain ⟨q1, q2⟩ := hown
    rcases q2 with ⟨q3, _⟩ | ⟨g', cap, cur, q3, hb, hg, hle, hmx, hcs, htk⟩
    · cases q3
    · simp only [Value.slice.injEq, Option.some.injEq, Addr.mk.injEq, and_true, true_and] at q3
      obtain ⟨rfl, rfl⟩ := q3
      have hlen : (bcs (l.take n)).length = n := by rw [bcs_length, List.length_take]; omega
      have hcells := (hsrc.front n hl).cells
      refine wpList_copy_own hgd d s dT sT ho e hu hsz g 0 n n ⟨b, o', none⟩ m c hd hs cur e hg (bcs (l.take n)) (by rw [hlen]; exact (Nat.min_eq_right hl).symm) hcells (by rw [hlen]; omega) (bcs_one _) ?_
      rw [hlen]
      refine h _ ⟨by rw [hlen]; omega, .inr ⟨g, n, _, rfl, hb, setRow_heap w g cur _ e (0, 0) hg, Nat.le_refl _, hmx, ?_, ?_⟩⟩ (grownBy_setRow w g _)
      · simp [hlen]
        omega
      · simp [hlen]

theorem wpList_copy_into {P : Program} {w : World} {ops : Array Oper} {rest : List Oper} {o : Oper} {a : Act} {Q : Exit → Act → World → Prop} (hgd : o.guard = none) (d s : Operand) (dT sT : TypeId)
    (ho : o.op = .call { callee := .builtin .copy, args := #[d, s], argTypes := #[dT, sT] }) (e : TypeId) (hu : P.underlying dT = some (.slice e)) (hsz : (P.info? e).map (·.size) = some 1)
    (g n : Nat) (p : Option Addr) (m c : Nat) (hd : a.eval d = .slice (some ⟨g, 0, none⟩) n n) (hs : a.eval s = .slice p m c)
    (base : Nat) (x : List UInt8) (hown : w.ownsRow base e 1 (.slice (some ⟨g, 0, none⟩) n n) n (bcs x)) (l : List UInt8) (hsrc : HB w (.slice p m c) l)
    (h : ∀ w' k, w'.ownsRow base e 1 (.slice (some ⟨g, 0, none⟩) n n) n (bcs (l.take n ++ x.drop l.length)) → w.grownBy w' (some g) → wpList P ops Q rest (a.put o.dst (goInt k)) w') : wpList P ops Q (o :: rest) a w := by
  have hm := hsrc.len.1
  have hx : x.length = n := by have := hown.1; rw [bcs_length] at this; omega
  rcases Nat.le_total m n with hle | hle
  · refine wpList_copy_front hgd d s dT sT ho e hu hsz g n p m c hd hs base (bcs x) hown l hsrc hle fun w' o' hg => h w' m ?_ hg
    rw [List.take_of_length_le (by omega), bcs_append, ← bcs_drop, ← hm]
    exact o'
  · refine wpList_copy_part hgd d s dT sT ho e hu hsz g n p m c hd hs base (bcs x) hown l hsrc hle fun w' o' hg => h w' n ?_ hg
    rw [List.drop_eq_nil_of_le (by omega), List.append_nil]
    exact o'

end Go.Proofs.YtcgpgnajmfemhaaGreatDoor

namespace Go.Proofs.YtcgpgnajmfemhaaGreatDoor
open Go.RowKit

/-- What Flag answers. -/
def FlagSaid (g : Nat) (w : World) (l : List UInt8) (x : Ending) (w' : World) : Prop := x = .returned (.bool (flagF l).2.1) ∧ RR w' g (flagF l).2.2 (flagF l).1 ∧ Only g w w'

theorem uintF_le (l : List UInt8) (most : Int) : (uintF l most).2.2.length ≤ l.length := by
  cases l with
  | nil => simp [uintF]
  | cons x r =>
    simp only [uintF]
    repeat' split
    all_goals simp
    omega

theorem uintF_err (l : List UInt8) (most : Int) : (uintF l most).1 = 0 ∨ (uintF l most).1 = 3 ∨ (uintF l most).1 = 4 ∨ (uintF l most).1 = 5 := by
  cases l with
  | nil => simp [uintF]
  | cons x r =>
    simp only [uintF]
    repeat' split
    all_goals simp

theorem uintF_fell (l : List UInt8) (most : Int) (h : (uintF l most).1 ≠ 0) : (uintF l most).2 = (0, []) := by
  cases l with
  | nil => simp [uintF]
  | cons x r =>
    revert h
    simp only [uintF]
    repeat' split
    all_goals simp

/-- What Bytes answers. -/
def BytesSaid (g : Nat) (w : World) (l : List UInt8) (most : Int) (x : Ending) (w' : World) : Prop := ∃ p c, x = .returned (.slice p (bytesF l most).2.1.length c) ∧ HBN w' g (.slice p (bytesF l most).2.1.length c) (bytesF l most).2.1 ∧ RR w' g (bytesF l most).2.2 (bytesF l most).1 ∧ Only g w w'

set_option maxRecDepth 100000 in
set_option maxHeartbeats 1000000 in
theorem bytes_any (g : Nat) (l : List UInt8) (most : Int) (w : World) (h : RR w g l 0) (hsz : l.length ≤ 140737488355328) : Calls Tryz.prog 165 #[.pointer (some ⟨g, 0, none⟩), .int .i64 most] w (BytesSaid g w l most) := by
  have ku := uint_any g l most w h
  have hle := uintF_le l most
  have hfe : (uintF l most).1 ≠ 0 → (uintF l most).2.2 = [] := fun h => by rw [uintF_fell l most h]
  have hB : bytesF l most = if (uintF l most).1 ≠ 0 then ((uintF l most).1, [], []) else if (uintF l most).2.2.length < (uintF l most).2.1 then (3, [], []) else (0, (uintF l most).2.2.take (uintF l most).2.1, (uintF l most).2.2.drop (uintF l most).2.1) := rfl
  unfold UintSaid at ku
  unfold BytesSaid
  generalize bytesF l most = B at *
  generalize (uintF l most).1 = E at *
  generalize (uintF l most).2.1 = N at *
  generalize (uintF l most).2.2 = R at *
  clear h
  obtain ⟨i0, hi, hz0, hz1, hz2⟩ := info_parts i_u8
  by_cases hE : E = 0
  · subst hE
    rw [if_neg (by simp)] at hB
    by_cases hN : R.length < N
    · rw [if_pos hN] at hB
      have HB3 : Hid (B = (3, [], [])) := hB
      have hN2 : (R.length : Int) < (N : Int) := by omega
      clear hB
      go_enter Tryz.func165, Tryz.ntmps165
      go_wp2_with fail
      refine ku.mono ?_
      rintro e w1 ⟨rfl, hr1, ho1⟩
      have k1 := rr_err g R 0 w1 hr1
      obtain ⟨p, c, hrd, hh, hnb⟩ := hr1
      obtain ⟨c0, c1, c2⟩ := hrd.cells
      clear ku hh hnb
      go_wp2_with (first | (go_at_call 123; refine k1.mono ?_; rintro e w' ⟨rfl, hw⟩; have hw2 := hw.symm; clear hw; subst hw2) | (go_at_call 163; refine (fail_said g _ 3 _ hrd).mono ?_; rintro e w2 ⟨rfl, hr2, ho2⟩))
      go_ret
      rw [HB3.out]
      exact ⟨none, 0, rfl, HBN.nil _ _, hr2, ho1.trans ho2⟩
    · rw [if_neg hN] at hB
      have hN2 : (N : Int) ≤ (R.length : Int) := by omega
      have HB3 : Hid (B = (0, R.take N, R.drop N)) := hB
      have HTL : Hid ((R.take N).length = N) := by show _ = _; rw [List.length_take]; omega
      have HDL : Hid ((R.drop N).length = R.length - N) := by show _ = _; rw [List.length_drop]
      clear hB
      go_enter Tryz.func165, Tryz.ntmps165
      go_wp2_with fail
      refine ku.mono ?_
      rintro e w1 ⟨rfl, hr1, ho1⟩
      have k1 := rr_err g R 0 w1 hr1
      obtain ⟨p, c, hrd, hh, hnb⟩ := hr1
      obtain ⟨c0, c1, c2⟩ := hrd.cells
      have hgl := hrd.lt
      have hh1 : Hid (HB w1 (.slice p R.length c) R) := hh
      have hlen := hh.len.2
      unfold maxLen at hlen
      clear ku
      go_wp2_with (first | (go_at_call 123; refine k1.mono ?_; rintro e w' ⟨rfl, hw⟩; have hw2 := hw.symm; clear hw; subst hw2) | (at_make; refine wpList_make_full _ rfl _ _ 37 rfl w1.heap.size 5 i0 (.int .u8 0) 1 Tryz.underlying37 hi hz0 hz1 .i64 .i64 _ _ N rfl rfl ?qa ?qb ?qc ?qd ?qe ?_))
      case qa => rfl
      case qb => rfl
      case qc => rw [hz2]; omega
      case qd => unfold maxLen; omega
      case qe => exact Nat.le_refl _
      intro w2 hown2 hgrow2
      have hb2 : Below w1.heap.size w1 w2 := (Below.refl _ w1).grown hgrow2 (Nat.le_refl _) (by intro k hk; cases hk)
      have hrd2 := hrd.later hb2
      have hh2 := hh.later hb2
      obtain ⟨c0', _, _⟩ := hrd2.cells
      clear hgrow2 c0 c1 c2 hrd hh k1
      go_wp2_with (refine wpList_copy_part rfl (.tmp 24) (.tmp 28) 37 37 rfl 5 Tryz.underlying37 s_u8 w1.heap.size N _ _ _ rfl rfl w1.heap.size _ hown2 R hh2 ?ra ?_)
      case ra => omega
      intro w3 hown3 hgrow3
      have hb3 : Below w1.heap.size w1 w3 := hb2.grown hgrow3 hb2.size (by intro k hk; cases hk; exact Nat.le_refl _)
      have hrd3 : RD w3 g (.slice p R.length c) 0 true := by
        unfold RD
        rw [hb3.block g hgl, ← hb2.block g hgl]
        exact hrd2
      have hR3 : HBN w3 g (.slice p R.length c) R := by
        have h1 : HBN w1 g (.slice p R.length c) R := ⟨hh1.out, hnb⟩
        exact h1.later hb3
      clear hgrow3 hown2 hh2 c0' hrd2
      obtain ⟨c0, _, _⟩ := hrd3.cells
      have f0 := hrd3.free 0
      have k3 : ∀ w, (Instr.slice 37 (.slice p R.length c) (some (.int .i64 (N : Int))) none none).run Tryz.prog w = .ok (.slice (cutP p c N) (R.length - N) (c - N)) w := fun w => run_cut (P := Tryz.prog) Tryz.underlying37 s_u8 p R.length c N (N : Int) rfl (by omega) w
      have hbh := hR3.behind N (by omega)
      have htx : HBN w3 g (.slice (some ⟨w1.heap.size, 0, none⟩) N N) (R.take N) := ⟨HB.of_owns hown3, fun a n c e => ⟨by cases e; simp; omega, TY.of_owns hown3 e⟩⟩
      clear hown3 hR3
      go_wp2
      go_ret
      rw [HB3.out]
      have ho3 : Only g w1 w3 := Only.of_below hb3 (by omega)
      have hos : Only g w3 (w3.setCell ⟨g, 0, none⟩ (.slice (cutP p c N) (R.length - N) (c - N))) := (Only.refl g w3).setCell 0 _
      refine ⟨some ⟨w1.heap.size, 0, none⟩, N, ?_, ?_, ⟨cutP p c N, c - N, ?_, ?_⟩, (ho1.trans ho3).trans hos⟩
      · simp only [HTL.out]; rfl
      · simp only [HTL.out]; exact htx.only hos
      · simp only [HDL.out]; exact hrd3.put0 _
      · simp only [HDL.out]; exact hbh.only hos
  · rw [if_pos hE] at hB
    have HB3 : Hid (B = (E, [], [])) := hB
    have hd : (E == 0) = false := by simpa using hE
    clear hB
    go_enter Tryz.func165, Tryz.ntmps165
    go_wp2_with fail
    refine ku.mono ?_
    rintro e w1 ⟨rfl, hr1, ho1⟩
    have k1 := rr_err g R E w1 hr1
    clear ku
    go_wp2_with (first | (go_at_call 123; refine k1.mono ?_; rintro e w' ⟨rfl, hw⟩; have hw2 := hw.symm; clear hw; subst hw2))
    go_ret
    rw [HB3.out]
    rw [hfe hE] at hr1
    exact ⟨none, 0, rfl, HBN.nil _ _, hr1, ho1⟩

set_option maxRecDepth 100000 in
set_option maxHeartbeats 1000000 in
theorem open_any (v : Value) (l : List UInt8) (w : World) (h : HB w v l) (hsz : l.length ≤ 140737488355328) :
    Calls Tryz.prog 121 #[v] w fun x w' => ∃ g, w.heap.size ≤ g ∧ x = .returned (.pointer (some ⟨g, 0, none⟩)) ∧ RR w' g l 0 ∧ Below w.heap.size w w' := by
  obtain ⟨p, c, rfl⟩ := h.shape
  go_enter Tryz.func121, Tryz.ntmps121
  go_wp2_with (first | (at_builtin; refine wpList_append_hb rfl (.const (.slice none 0 0)) (.tmp 3) 37 rfl w.heap.size 5 Tryz.underlying37 i_u8 _ 0 [] rfl (World.ownsRow_nil w _ _ _) _ _ _ l rfl h ?qa ?qb ?_))
  case qa => omega
  case qb => exact Nat.le_refl _
  intro v1 w1 hown1 hgrow1
  have hb1 : Below w.heap.size w w1 := (Below.refl _ w).grown hgrow1 (Nat.le_refl _) (by intro k hk; cases hk)
  have hown1' : w1.ownsRow w.heap.size 5 1 v1 l.length (bcs l) := by simpa using hown1
  have hlt := hown1'.lt
  obtain ⟨p1, c1, rfl⟩ := owns_shape hown1'
  have hh := HB.of_owns hown1'
  have hty := fun a n c (e : Value.slice p1 l.length c1 = .slice (some a) n c) => TY.of_owns hown1' e
  clear hgrow1 hown1 hown1'
  go_wp2
  go_ret
  refine ⟨w1.heap.size, hb1.size, rfl, ⟨p1, c1, heap_alloc_new w1 _, hh.later ((Below.refl _ w1).alloc (Nat.le_refl _) _), fun a n c e => ?_⟩, hb1.alloc hb1.size _⟩
  have := (hlt a.block (by rw [e]; rfl)).2
  exact ⟨by omega, (hty a n c e).later ((Below.refl _ w1).alloc (Nat.le_refl _) _)⟩

end Go.Proofs.YtcgpgnajmfemhaaGreatDoor

namespace Go.Proofs.YtcgpgnajmfemhaaGreatDoor
open Go.RowKit

/-- Blocks of another type than T stay. -/
def TK (T : TypeId) (w w' : World) : Prop := ∀ (k : Nat) cur t fr, w.heap[k]? = some (.cells cur t fr) → t ≠ T → w'.heap[k]? = some (.cells cur t fr)

theorem TK.of_only {T : TypeId} {g : Nat} {w w' : World} {cs : Array Value} {f : Nat × Nat} (ho : Only g w w') (hg : w.heap[g]? = some (.cells cs T f)) : TK T w w' := by
  intro k cur t fr hk ht
  have hne : k ≠ g := by
    rintro rfl
    rw [hg] at hk
    simp only [Option.some.injEq, Obj.cells.injEq] at hk
    exact ht hk.2.1.symm
  exact (ho.block k hne (Array.getElem?_eq_some_iff.1 hk).1).trans hk

theorem TK.of_below {T : TypeId} {w w' : World} (hb : Below w.heap.size w w') : TK T w w' := fun k _ _ _ hk _ => (hb.block k (Array.getElem?_eq_some_iff.1 hk).1).trans hk

theorem TK.of_grown {T : TypeId} {w w' : World} {base s n : Nat} {v : Value} {xs : List Value} (h : w.ownsRow base T s v n xs) (hg : w.grownBy w' v.ownBlock) : TK T w w' := by
  intro k cur t fr hk ht
  have hne : some k ≠ v.ownBlock := by
    rcases h.2 with ⟨rfl, _⟩ | ⟨g, cap, cur', rfl, _, hg', _⟩
    · simp [Value.ownBlock]
    · simp only [Value.ownBlock, ne_eq, Option.some.injEq]
      intro e
      subst e
      rw [hg'] at hk
      simp only [Option.some.injEq, Obj.cells.injEq] at hk
      exact ht hk.2.1.symm
  exact (hg.block k (Array.getElem?_eq_some_iff.1 hk).1 hne).trans hk

theorem HBN.tk {T : TypeId} {g : Nat} {w w' : World} {v : Value} {l : List UInt8} (h : HBN w g v l) (t : TK T w w') (hT : 5 ≠ T) : HBN w' g v l := by
  obtain ⟨⟨p, cap, e, h1, h2, h3, h4⟩, h5⟩ := h
  refine ⟨⟨p, cap, e, h1, h2, h3, fun hn => ?_⟩, fun a n c ev => ?_⟩
  · obtain ⟨b, o, rfl, hc⟩ := h4 hn
    refine ⟨b, o, rfl, fun i x hx => ?_⟩
    obtain ⟨cur, fr, hb⟩ := (h5 _ _ _ e).2
    have hk : w'.heap[b]? = w.heap[b]? := (t b cur _ fr hb hT).trans hb.symm
    rw [World.cell?_of_block (w := w) hk]
    exact hc i x hx
  · obtain ⟨hne, cur, fr, hb⟩ := h5 a n c ev
    exact ⟨hne, cur, fr, t _ cur _ fr hb hT⟩

theorem RR.tk {T : TypeId} {g : Nat} {w w' : World} {l : List UInt8} {e : Int} (h : RR w g l e) (t : TK T w w') (hT : 5 ≠ T) (hR : 221 ≠ T) : RR w' g l e := by
  obtain ⟨p, c, h1, h2⟩ := h
  exact ⟨p, c, t g _ _ _ h1 hR, h2.tk t hT⟩

theorem RR.typed {g : Nat} {w : World} {l : List UInt8} {e : Int} (h : RR w g l e) : ∃ cs f, w.heap[g]? = some (.cells cs 221 f) := by
  obtain ⟨p, c, h1, h2⟩ := h
  exact ⟨_, _, h1⟩

theorem owns_tk {T e : TypeId} {w w' : World} {base n : Nat} {v : Value} {xs : List Value} (h : w.ownsRow base e 1 v n xs) (t : TK T w w') (hT : e ≠ T) : w'.ownsRow base e 1 v n xs := by
  refine ⟨h.1, ?_⟩
  rcases h.2 with hn | ⟨g, cap, cur, rfl, hbg, hg, rest⟩
  · exact .inl hn
  · exact .inr ⟨g, cap, cur, rfl, hbg, t g cur _ _ hg hT, rest⟩

/-- A row of texts that the call owns, none of them in block g. -/
def RW (w : World) (base g : Nat) (y : Value) (ls : List (List UInt8)) : Prop :=
  ∃ vs : List Value, vs.length = ls.length ∧ w.ownsRow base 37 1 y ls.length vs ∧ ∀ (j : Nat) u l, vs[j]? = some u → ls[j]? = some l → HBN w g u l

theorem RW.nil (w : World) (base g : Nat) : RW w base g (.slice none 0 0) [] := ⟨[], rfl, World.ownsRow_nil _ _ _ _, fun j u l h => by simp at h⟩
theorem RW.tk {T : TypeId} {w w' : World} {base g : Nat} {y : Value} {ls : List (List UInt8)} (h : RW w base g y ls) (t : TK T w w') (hT : 5 ≠ T) (hB : 37 ≠ T) : RW w' base g y ls := by
  obtain ⟨vs, h1, h2, h3⟩ := h
  exact ⟨vs, h1, owns_tk h2 t hB, fun j u l hu hl => (h3 j u l hu hl).tk t hT⟩

theorem RW.pa {w : World} {base g : Nat} {v : Value} {ls : List (List UInt8)} (h : RW w base g v ls) : PA w v ls := by
  obtain ⟨vs, h1, h2, h3⟩ := h
  obtain ⟨h4, h5⟩ := h2
  rcases h5 with ⟨rfl, h0⟩ | ⟨g', cap, cur, rfl, hb, hg, hl, hm, hs, ht⟩
  · obtain rfl : ls = [] := List.eq_nil_of_length_eq_zero h0
    exact PA.nil w
  · refine ⟨_, cap, vs, rfl, hl, hm, (fun h => by cases h), h1, fun _ => ⟨g', 0, rfl, fun i x hx => ?_⟩, fun i x l hx hl => (h3 i x l hx hl).1⟩
    rw [Nat.zero_add, cell_of_row w g' i cur 37 (0, 0) hg]
    have hi : i < vs.length := (List.getElem?_eq_some_iff.1 hx).1
    rw [← ht, List.getElem?_take, if_pos (by omega)] at hx
    simpa using hx

theorem RW.snoc {w wA w' : World} {base g : Nat} {y x v' : Value} {vs : List Value} {ls : List (List UInt8)} {l : List UInt8} (hl1 : vs.length = ls.length) (h2 : wA.ownsRow base 37 1 y ls.length vs) (h3 : ∀ (j : Nat) u l, vs[j]? = some u → ls[j]? = some l → HBN w g u l) (hx : HBN w g x l) (hb : Below w.heap.size w wA)
    (hg : wA.grownBy w' y.ownBlock) (ho : w'.ownsRow base 37 1 v' (ls.length + 1) (vs ++ [x])) : RW w' base g v' (ls ++ [l]) := by
  have t := TK.of_grown h2 hg
  refine ⟨vs ++ [x], by simp [hl1], by simpa using ho, fun j u m hu hm => ?_⟩
  by_cases hi : j < ls.length
  · rw [List.getElem?_append_left (by omega)] at hu hm
    exact ((h3 j u m hu hm).later hb).tk t (by decide)
  · rw [List.getElem?_append_right (by omega)] at hu hm
    rw [hl1] at hu
    obtain ⟨rfl, rfl⟩ : x = u ∧ l = m := by
      cases hj : j - ls.length with
      | zero => rw [hj] at hu hm; exact ⟨by simpa using hu, by simpa using hm⟩
      | succ j => rw [hj] at hm; simp at hm
    exact (hx.later hb).tk t (by decide)

/-- What a number, or a text, is read as behind what came ahead. -/
def rdU (l : List UInt8) (e : Int) (most : Int) : Int × Nat × List UInt8 := if e = 0 then uintF l most else (e, 0, l)
def rdB (l : List UInt8) (e : Int) (most : Int) : Int × List UInt8 × List UInt8 := if e = 0 then bytesF l most else (e, [], l)

theorem uintF_most (l : List UInt8) (most : Int) (hm : 0 ≤ most) : ((uintF l most).2.1 : Int) ≤ most := by
  unfold uintF
  split
  · simpa using hm
  · split
    · simpa using hm
    · split
      · simpa using hm
      · split
        · simpa using hm
        · split
          · simpa using hm
          · split
            · simpa using hm
            · simp; omega

theorem rdU_most (l : List UInt8) (e most : Int) (hm : 0 ≤ most) : ((rdU l e most).2.1 : Int) ≤ most := by
  unfold rdU
  split
  · exact uintF_most l most hm
  · simpa using hm

theorem bytesF_le (l : List UInt8) (most : Int) : (bytesF l most).2.2.length ≤ l.length := by
  have h := uintF_le l most
  unfold bytesF
  dsimp only
  split
  · simp
  · split
    · simp
    · simp; omega

theorem rdU_le (l : List UInt8) (e most : Int) : (rdU l e most).2.2.length ≤ l.length := by
  unfold rdU
  split
  · exact uintF_le l most
  · exact Nat.le_refl _
theorem rdB_le (l : List UInt8) (e most : Int) : (rdB l e most).2.2.length ≤ l.length := by
  unfold rdB
  split
  · exact bytesF_le l most
  · exact Nat.le_refl _

theorem ruint_all (g : Nat) (l : List UInt8) (e most : Int) (w : World) (h : RR w g l e) : Calls Tryz.prog 122 #[.pointer (some ⟨g, 0, none⟩), .int .i64 most] w fun x w' => x = .returned (.int .i64 ((rdU l e most).2.1 : Int)) ∧ RR w' g (rdU l e most).2.2 (rdU l e most).1 ∧ Only g w w' := by
  unfold rdU
  by_cases he : e = 0
  · subst he
    rw [if_pos rfl]
    exact uint_any g l most w h
  · rw [if_neg he]
    refine (uint_stays g l e most w h he).mono ?_
    rintro x w' ⟨rfl, rfl⟩
    exact ⟨rfl, h, Only.refl _ _⟩

theorem rbytes_all (g : Nat) (l : List UInt8) (e most : Int) (w : World) (h : RR w g l e) (hsz : l.length ≤ 140737488355328) : Calls Tryz.prog 165 #[.pointer (some ⟨g, 0, none⟩), .int .i64 most] w fun x w' => ∃ v, x = .returned v ∧ ∃ p c, v = .slice p (rdB l e most).2.1.length c ∧ HBN w' g (.slice p (rdB l e most).2.1.length c) (rdB l e most).2.1 ∧ RR w' g (rdB l e most).2.2 (rdB l e most).1 ∧ Only g w w' := by
  unfold rdB
  by_cases he : e = 0
  · subst he
    rw [if_pos rfl]
    exact (bytes_any g l most w h hsz).mono fun x w' ⟨p, c, h1, h2, h3, h4⟩ => ⟨_, h1, p, c, rfl, h2, h3, h4⟩
  · rw [if_neg he]
    refine (bytes_stays g l e most w h he).mono ?_
    rintro x w' ⟨rfl, rfl⟩
    exact ⟨_, rfl, none, 0, rfl, HBN.nil _ _, h, Only.refl _ _⟩

/-- The links, read one behind the other: they, what is left, the error. -/
def lkS (most : Int) (l : List UInt8) (e : Int) : Nat → List (List UInt8) × List UInt8 × Int
  | 0 => ([], l, e)
  | k + 1 => ((lkS most l e k).1 ++ [(rdB (lkS most l e k).2.1 (lkS most l e k).2.2 most).2.1], (rdB (lkS most l e k).2.1 (lkS most l e k).2.2 most).2.2, (rdB (lkS most l e k).2.1 (lkS most l e k).2.2 most).1)

theorem lkS_len (most : Int) (l : List UInt8) (e : Int) (k : Nat) : (lkS most l e k).1.length = k := by
  induction k with
  | zero => rfl
  | succ k ih => simp [lkS, ih]
theorem lkS_le (most : Int) (l : List UInt8) (e : Int) (k : Nat) : (lkS most l e k).2.1.length ≤ l.length := by
  induction k with
  | zero => exact Nat.le_refl _
  | succ k ih => exact Nat.le_trans (rdB_le _ _ _) ih

end Go.Proofs.YtcgpgnajmfemhaaGreatDoor

namespace Go.Proofs.YtcgpgnajmfemhaaGreatDoor

theorem cnt_byte (n : Nat) (h : n < 2 ^ 64) : (UInt8.ofNat (cnt n)).toNat = cnt n := by
  have := cnt_le8 n h
  simp
  omega

theorem uintF_put (n : Nat) (more : List UInt8) (most : Int) (h : n ≤ 4611686018427387904) (hm : (n : Int) ≤ most) : uintF (numL n ++ more) most = (0, n, more) := by
  have h64 : n < 2 ^ 64 := by omega
  have hc := cnt_byte n h64
  have h8 := cnt_le8 n h64
  have hl := ndigs_length n
  unfold numL
  simp only [List.cons_append, uintF]
  rw [hc]
  have ht : (ndigs n ++ more).take (cnt n) = ndigs n := by rw [← hl, List.take_left]
  have hd : (ndigs n ++ more).drop (cnt n) = more := by rw [← hl, List.drop_left]
  have hv := valL_digs 8 n (by rw [show (256 : Nat) ^ 8 = 2 ^ 64 from rfl]; exact h64) (Nat.le_refl _)
  rw [ht, hd, hv, if_neg (by omega), if_neg (by rw [List.length_append]; omega), if_neg, if_neg (by omega), if_neg (by omega)]
  intro e
  cases hdg : ndigs n with
  | nil => rw [hdg] at e; cases e
  | cons d r =>
    rw [hdg] at e
    have := ndigs_head n h64 d r hdg
    simp at e
    exact this e

theorem bytesF_put (s more : List UInt8) (most : Int) (h : s.length ≤ 4611686018427387904) (hm : (s.length : Int) ≤ most) : bytesF (bytesL s ++ more) most = (0, s, more) := by
  unfold bytesF bytesL
  rw [List.append_assoc, uintF_put s.length (s ++ more) most h hm]
  simp only [ne_eq, not_true, if_false]
  rw [if_neg (by rw [List.length_append]; omega), List.take_left, List.drop_left]

theorem flagF_put (b : Bool) (more : List UInt8) : flagF (flagL b ++ more) = (0, b, more) := by
  cases b <;> simp [flagL, flagF]

theorem uintF_back (l : List UInt8) (most : Int) (h : (uintF l most).1 = 0) : l = numL (uintF l most).2.1 ++ (uintF l most).2.2 ∧ (uintF l most).2.1 ≤ 4611686018427387904 ∧ ((uintF l most).2.1 : Int) ≤ most := by
  cases l with
  | nil => simp [uintF] at h
  | cons c r =>
    by_cases h1 : 8 < c.toNat
    · simp only [uintF] at h; rw [if_pos h1] at h; simp at h
    by_cases h2 : r.length < c.toNat
    · simp only [uintF] at h; rw [if_neg h1, if_pos h2] at h; simp at h
    by_cases h3 : (r.take c.toNat).head? = some 0
    · simp only [uintF] at h; rw [if_neg h1, if_neg h2, if_pos h3] at h; simp at h
    by_cases h4 : 4611686018427387904 < valL (r.take c.toNat)
    · simp only [uintF] at h; rw [if_neg h1, if_neg h2, if_neg h3, if_pos h4] at h; simp at h
    by_cases h5 : most < (valL (r.take c.toNat) : Int)
    · simp only [uintF] at h; rw [if_neg h1, if_neg h2, if_neg h3, if_neg h4, if_pos h5] at h; simp at h
    have e : uintF (c :: r) most = (0, valL (r.take c.toNat), r.drop c.toNat) := by simp only [uintF]; rw [if_neg h1, if_neg h2, if_neg h3, if_neg h4, if_neg h5]
    rw [e]
    refine ⟨?_, by simp only; omega, by simp only; omega⟩
    simp only
    have hl : (r.take c.toNat).length = c.toNat := by rw [List.length_take]; omega
    have hh : ∀ d r', r.take c.toNat = d :: r' → d ≠ 0 := fun d r' e0 h0 => h3 (by rw [e0, h0]; rfl)
    have hc := cnt_val _ (by omega) hh
    have hd := ndigs_val _ (by omega) hh
    unfold numL
    rw [hd, hc, hl]
    rw [List.cons_append, List.take_append_drop]
    congr 1
    apply UInt8.toNat_inj.1
    simp

theorem bytesF_back (l : List UInt8) (most : Int) (h : (bytesF l most).1 = 0) : l = bytesL (bytesF l most).2.1 ++ (bytesF l most).2.2 ∧ ((bytesF l most).2.1.length : Int) ≤ most := by
  have hb := uintF_back l most
  unfold bytesF at h ⊢
  generalize hu : uintF l most = u at *
  obtain ⟨e, n, r⟩ := u
  simp only at h hb ⊢
  by_cases h1 : e ≠ 0
  · rw [if_pos h1] at h
    exact absurd h h1
  · rw [if_neg h1] at h ⊢
    by_cases h2 : r.length < n
    · rw [if_pos h2] at h
      simp at h
    · rw [if_neg h2]
      have := hb (by omega)
      have hl : (r.take n).length = n := by rw [List.length_take]; omega
      refine ⟨?_, by simp only; omega⟩
      simp only
      unfold bytesL
      rw [hl, List.append_assoc, List.take_append_drop]
      exact this.1

theorem flagF_back (l : List UInt8) (h : (flagF l).1 = 0) : l = flagL (flagF l).2.1 ++ (flagF l).2.2 := by
  cases l with
  | nil => simp [flagF] at h
  | cons x r =>
    by_cases h1 : 1 < x.toNat
    · simp only [flagF] at h; rw [if_pos h1] at h; simp at h
    · have e : flagF (x :: r) = (0, x == 1, r) := by simp only [flagF]; rw [if_neg h1]
      rw [e]
      simp only [flagL]
      rcases Nat.eq_zero_or_pos x.toNat with h0 | h0
      · obtain rfl : x = 0 := UInt8.toNat_inj.1 (by simpa using h0)
        rfl
      · obtain rfl : x = 1 := UInt8.toNat_inj.1 (by simp; omega)
        rfl

end Go.Proofs.YtcgpgnajmfemhaaGreatDoor
