/- What this text proves: the walk of the reader's Uint over this program: the next number, or the error. -/
import Derived.Test.YtldmbfemoepfkaaRdUint
namespace Go.Proofs.Ytldmbfemoepfkaa
open Go.RowKit

theorem RD.failed {w : World} {g : Nat} {v : Value} {e : Int} (h : RD w g v e true) (e' : Int) : RR ((w.setCell ⟨g, 1, none⟩ (.int .i64 e')).setCell ⟨g, 0, none⟩ (.slice none 0 0)) g [] e' ∧ Only g w ((w.setCell ⟨g, 1, none⟩ (.int .i64 e')).setCell ⟨g, 0, none⟩ (.slice none 0 0)) :=
  ⟨⟨none, 0, (h.put1 e').put0 _, HBN.nil _ _⟩, ((Only.refl g w).setCell 1 _).setCell 0 _⟩

/-- What Uint answers where it fails. -/
def Fell (g : Nat) (w : World) (e' : Int) (x : Ending) (w' : World) : Prop := x = .returned (.int .i64 0) ∧ RR w' g [] e' ∧ Only g w w'

theorem fail_said (g : Nat) (v : Value) (e' : Int) (w : World) (h : RD w g v 0 true) : Calls Try.prog 58 #[.pointer (some ⟨g, 0, none⟩), .int .i64 e'] w fun x w' => x = .returned (.int .i64 0) ∧ RR w' g [] e' ∧ Only g w w' :=
  (rfail_any g v 0 e' true w h).mono fun x w' ⟨hx, hw⟩ => by subst hw; exact ⟨hx, h.failed e'⟩

set_option maxHeartbeats 1000000 in
theorem uint_nil (g : Nat) (most : Int) (w : World) (h : RR w g [] 0) : Calls Try.prog 64 #[.pointer (some ⟨g, 0, none⟩), .int .i64 most] w (Fell g w 3) := by
  have hc := counted_short g [] w h (fun _ _ e => by cases e)
  obtain ⟨p, c, hrd, hh⟩ := h
  have he := rerr_any g _ 0 true w hrd
  simp only [if_true] at he
  obtain ⟨c0, c1, c2⟩ := hrd.cells
  simp only [List.length_nil] at c0
  go_enter Try.func64, Try.ntmps64
  go_wp2_with (first | (go_at_call 57; refine he.mono ?_; rintro e w' ⟨rfl, hw⟩; have hw2 := hw.symm; clear hw; subst hw2) | (go_at_call 66; refine hc.mono ?_; rintro e w1 ⟨rfl, n1, hw1⟩; have hrd1 : RD w1 g (.slice p 0 c) 0 true := (by rw [hw1]; exact hrd); have ho1 : Hid (Only g w w1) := (by show Only g w w1; rw [hw1]; exact (Only.refl g w).drewN n1); clear hw1) | (go_at_call 58; refine (fail_said g _ 3 _ hrd1).mono ?_; rintro e w2 ⟨rfl, hr2, ho2⟩))
  go_ret
  exact ⟨rfl, hr2, ho1.out.trans ho2⟩

set_option maxHeartbeats 1000000 in
theorem uint_big (g : Nat) (x : UInt8) (r : List UInt8) (most : Int) (w : World) (h : RR w g (x :: r) 0) (hx8 : 8 < x.toNat) : Calls Try.prog 64 #[.pointer (some ⟨g, 0, none⟩), .int .i64 most] w (Fell g w 5) := by
  obtain ⟨p, c, hrd, hh, _⟩ := h
  have he := rerr_any g _ 0 true w hrd
  simp only [if_true] at he
  obtain ⟨c0, c1, c2⟩ := hrd.cells
  obtain ⟨b, o, rfl, hc⟩ := hh.addr (by simp)
  have cx := hc 0 x rfl
  unfold bc at cx
  simp only [Nat.add_zero] at cx
  simp only [List.length_cons] at c0 hrd he
  have hx := x.toNat_lt
  have hx82 : (8 : Int) < (x.toNat : Int) := by omega
  have hlen := hh.len.2
  unfold maxLen at hlen
  simp only [List.length_cons] at hlen
  have hl0 : (0 : Int) < (r.length : Int) + 1 := by omega
  clear hh hc
  go_enter Try.func64, Try.ntmps64
  go_wp2_with (first | (go_at_call 57; refine he.mono ?_; rintro e w' ⟨rfl, hw⟩; have hw2 := hw.symm; clear hw; subst hw2) | (go_at_call 58; refine (fail_said g _ 5 _ hrd).mono ?_; rintro e w2 ⟨rfl, hr2, ho2⟩))
  go_ret
  exact ⟨rfl, hr2, ho2⟩

set_option maxHeartbeats 1000000 in
theorem uint_short (g : Nat) (x : UInt8) (r : List UInt8) (most : Int) (w : World) (h : RR w g (x :: r) 0) (hx8 : x.toNat ≤ 8) (hs : r.length < x.toNat) : Calls Try.prog 64 #[.pointer (some ⟨g, 0, none⟩), .int .i64 most] w (Fell g w 3) := by
  have hcn := counted_short g (x :: r) w h (fun c r' e => by cases e; exact hs)
  obtain ⟨p, c, hrd, hh, _⟩ := h
  have he := rerr_any g _ 0 true w hrd
  simp only [if_true] at he
  obtain ⟨c0, c1, c2⟩ := hrd.cells
  obtain ⟨b, o, rfl, hc⟩ := hh.addr (by simp)
  have cx := hc 0 x rfl
  unfold bc at cx
  simp only [Nat.add_zero] at cx
  simp only [List.length_cons] at c0 hrd he
  have hx := x.toNat_lt
  have hx82 : (x.toNat : Int) ≤ 8 := by omega
  have hlen := hh.len.2
  unfold maxLen at hlen
  simp only [List.length_cons] at hlen
  have hl0 : (0 : Int) < (r.length : Int) + 1 := by omega
  clear hh hc
  go_enter Try.func64, Try.ntmps64
  go_wp2_with (first | (go_at_call 57; refine he.mono ?_; rintro e w' ⟨rfl, hw⟩; have hw2 := hw.symm; clear hw; subst hw2) | (go_at_call 66; refine hcn.mono ?_; rintro e w1 ⟨rfl, n1, hw1⟩; have hrd1 : RD w1 g (.slice (some ⟨b, o, none⟩) (r.length + 1) c) 0 true := (by rw [hw1]; exact hrd); have ho1 : Hid (Only g w w1) := (by show Only g w w1; rw [hw1]; exact (Only.refl g w).drewN n1); clear hw1) | (go_at_call 58; refine (fail_said g _ 3 _ hrd1).mono ?_; rintro e w2 ⟨rfl, hr2, ho2⟩))
  go_ret
  exact ⟨rfl, hr2, ho1.out.trans ho2⟩

end Go.Proofs.Ytldmbfemoepfkaa
