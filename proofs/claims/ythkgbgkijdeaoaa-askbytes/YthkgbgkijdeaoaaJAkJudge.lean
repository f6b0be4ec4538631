/- What this text proves: the walks of ask's judge (Number, Text, Flag, batch) over this program. -/
import Derived.Test.YthkgbgkijdeaoaaJF1
import Derived.Test.YthkgbgkijdeaoaaBVocab
namespace Go.Proofs.Ythkgbgkijdeaoaa
open Go.RowKit

/-- Block g is a judge; block g is a request's cells. -/
def JB (w : World) (g : Nat) (b : Bool) : Prop := w.heap[g]? = some (.cells #[.bool b] 42 (0, 0))
def AB (w : World) (g : Nat) (cs : Array Value) : Prop := w.heap[g]? = some (.cells cs 25 (0, 0))

theorem AB.cell {w : World} {g i : Nat} {cs : Array Value} {v : Value} (h : AB w g cs) (hv : cs[i]? = some v) : w.cell? ⟨g, i, none⟩ = some v := by
  rw [cell_of_row _ _ _ _ _ _ h]; exact hv
theorem AB.free {w : World} {g : Nat} {cs : Array Value} (h : AB w g cs) (i : Nat) : w.frozen? ⟨g, i, none⟩ = false := by simp [World.frozen?, show w.heap[g]? = _ from h]
theorem AB.put {w : World} {g : Nat} {cs : Array Value} (h : AB w g cs) (i : Nat) (v : Value) : AB (w.setCell ⟨g, i, none⟩ v) g (cs.setIfInBounds i v) := by
  unfold AB
  rw [heap_setCell_same w g i cs _ _ h]
theorem AB.other {w : World} {g : Nat} {cs : Array Value} (h : AB w g cs) (a : Addr) (v : Value) (hne : g ≠ a.block) : AB (w.setCell a v) g cs := (Below.heap_setCell w a v g hne).trans h
theorem JB.cell {w : World} {g : Nat} {b : Bool} (h : JB w g b) : w.cell? ⟨g, 0, none⟩ = some (.bool b) := by
  rw [cell_of_row _ _ _ _ _ _ h]; rfl
theorem JB.free {w : World} {g : Nat} {b : Bool} (h : JB w g b) : w.frozen? ⟨g, 0, none⟩ = false := by simp [World.frozen?, show w.heap[g]? = _ from h]
theorem JB.put {w : World} {g : Nat} {b : Bool} (h : JB w g b) (b' : Bool) : JB (w.setCell ⟨g, 0, none⟩ (.bool b')) g b' := by
  unfold JB
  rw [heap_setCell_same w g 0 _ _ _ h]
  rfl
theorem JB.other {w : World} {g : Nat} {b : Bool} (h : JB w g b) (a : Addr) (v : Value) (hne : g ≠ a.block) : JB (w.setCell a v) g b := (Below.heap_setCell w a v g hne).trans h
theorem JB.later {w w' : World} {g : Nat} {b : Bool} (h : JB w g b) (hb : Below w.heap.size w w') : JB w' g b := (hb.block g (Array.getElem?_eq_some_iff.1 h).1).trans h
theorem AB.later {w w' : World} {g : Nat} {cs : Array Value} (h : AB w g cs) (hb : Below w.heap.size w w') : AB w' g cs := (hb.block g (Array.getElem?_eq_some_iff.1 h).1).trans h

/-- What the judge's calls leave. -/
def JA (base gJ g : Nat) (b : Bool) (cs : Array Value) (w w' : World) : Prop := JB w' gJ b ∧ AB w' g cs ∧ Below base w w'

/-- Other blocks than these two stay. -/
def Two (gJ g : Nat) (w w' : World) : Prop := ∀ k, k < w.heap.size → k ≠ gJ → k ≠ g → w'.heap[k]? = w.heap[k]?
theorem Two.step (gJ g i : Nat) (w : World) (v v' : Value) : Two gJ g w ((w.setCell ⟨gJ, 0, none⟩ v).setCell ⟨g, i, none⟩ v') := fun k _ h1 h2 => by
  rw [Below.heap_setCell _ _ _ _ h2, Below.heap_setCell _ _ _ _ h1]

theorem JA.step {base gJ g i : Nat} {b b' : Bool} {cs : Array Value} {v : Value} {w : World} (hJ : JB w gJ b) (hA : AB w g cs) (hne : gJ ≠ g) (h1 : base ≤ gJ) (h2 : base ≤ g) :
    JA base gJ g b' (cs.setIfInBounds i v) w ((w.setCell ⟨gJ, 0, none⟩ (.bool b')).setCell ⟨g, i, none⟩ v) :=
  ⟨(hJ.put b').other _ _ hne, (hA.other _ _ (Ne.symm hne)).put i v, ((Below.refl base w).setCell h1 _).setCell h2 _⟩

theorem JA.facts {gJ g i : Nat} {b' : Bool} {cs : Array Value} {w : World} {v : Value} (hA : AB w g cs) (hne : gJ ≠ g) (hv : cs[i]? = some v) :
    (w.setCell ⟨gJ, 0, none⟩ (.bool b')).cell? ⟨g, i, none⟩ = some v ∧ (w.setCell ⟨gJ, 0, none⟩ (.bool b')).frozen? ⟨g, i, none⟩ = false :=
  ⟨(hA.other _ _ (Ne.symm hne)).cell hv, (hA.other _ _ (Ne.symm hne)).free i⟩

set_option maxRecDepth 100000 in
set_option maxHeartbeats 2000000 in
theorem jnumber_any (base gJ g i : Nat) (b : Bool) (n most : Int) (cs : Array Value) (w : World) (hJ : JB w gJ b) (hA : AB w g cs) (hi : cs[i]? = some (.int .i64 n)) (hne : gJ ≠ g) (h1 : base ≤ gJ) (h2 : base ≤ g) :
    Calls Try.prog 77 #[.pointer (some ⟨gJ, 0, none⟩), .pointer (some ⟨g, i, none⟩), .int .i64 most] w fun e w' => e = .returned (.tuple #[]) ∧ JA base gJ g (b || decide (n < 0 ∨ most < n)) (cs.setIfInBounds i (.int .i64 0)) w w' ∧ Two gJ g w w' := by
  have c0 := hJ.cell
  have f0 := hJ.free
  have c1 := hA.cell hi
  have fT := JA.facts (b' := true) hA hne hi
  have fF := JA.facts (b' := false) hA hne hi
  have sT := JA.step (b' := true) (i := i) (v := .int .i64 0) hJ hA hne h1 h2
  have sF := JA.step (b' := false) (i := i) (v := .int .i64 0) hJ hA hne h1 h2
  have kT := Two.step gJ g i w (.bool true) (.int .i64 0)
  have kF := Two.step gJ g i w (.bool false) (.int .i64 0)
  obtain ⟨t1, t2⟩ := fT
  obtain ⟨t3, t4⟩ := fF
  clear hJ hA hi
  cases b with
  | true =>
    have e : (true || decide (n < 0 ∨ most < n)) = true := rfl
    rw [e]
    go_enter Try.func77, Try.ntmps77
    go_wp2
    go_end0
    exact ⟨rfl, sT, kT⟩
  | false =>
    by_cases hn : n < 0
    · have e : (false || decide (n < 0 ∨ most < n)) = true := by simp [hn]
      rw [e]
      go_enter Try.func77, Try.ntmps77
      go_wp2
      go_end0
      exact ⟨rfl, sT, kT⟩
    · by_cases hm : most < n
      · have e : (false || decide (n < 0 ∨ most < n)) = true := by simp [hm]
        rw [e]
        go_enter Try.func77, Try.ntmps77
        go_wp2
        go_end0
        exact ⟨rfl, sT, kT⟩
      · have e : (false || decide (n < 0 ∨ most < n)) = false := by simp [hn, hm]
        rw [e]
        go_enter Try.func77, Try.ntmps77
        go_wp2
        go_end0
        exact ⟨rfl, sF, kF⟩

set_option maxRecDepth 100000 in
set_option maxHeartbeats 2000000 in
theorem jtext_any (base gJ g i : Nat) (b : Bool) (p : Option Addr) (n c : Nat) (most : Int) (cs : Array Value) (w : World) (hJ : JB w gJ b) (hA : AB w g cs) (hi : cs[i]? = some (.slice p n c)) (hne : gJ ≠ g) (h1 : base ≤ gJ) (h2 : base ≤ g) :
    Calls Try.prog 78 #[.pointer (some ⟨gJ, 0, none⟩), .pointer (some ⟨g, i, none⟩), .int .i64 most] w fun e w' => e = .returned (.tuple #[]) ∧ JA base gJ g (b || decide (most < (n : Int))) (cs.setIfInBounds i (.slice none 0 0)) w w' := by
  have c0 := hJ.cell
  have f0 := hJ.free
  have c1 := hA.cell hi
  have fT := JA.facts (b' := true) hA hne hi
  have fF := JA.facts (b' := false) hA hne hi
  have sT := JA.step (b' := true) (i := i) (v := .slice none 0 0) hJ hA hne h1 h2
  have sF := JA.step (b' := false) (i := i) (v := .slice none 0 0) hJ hA hne h1 h2
  obtain ⟨t1, t2⟩ := fT
  obtain ⟨t3, t4⟩ := fF
  clear hJ hA hi
  cases b with
  | true =>
    have e : (true || decide (most < (n : Int))) = true := rfl
    rw [e]
    go_enter Try.func78, Try.ntmps78
    go_wp2
    go_end0
    exact ⟨rfl, sT⟩
  | false =>
    by_cases hm : most < (n : Int)
    · have e : (false || decide (most < (n : Int))) = true := by simp [hm]
      rw [e]
      go_enter Try.func78, Try.ntmps78
      go_wp2
      go_end0
      exact ⟨rfl, sT⟩
    · have e : (false || decide (most < (n : Int))) = false := by simp; omega
      rw [e]
      go_enter Try.func78, Try.ntmps78
      go_wp2
      go_end0
      exact ⟨rfl, sF⟩

set_option maxRecDepth 100000 in
set_option maxHeartbeats 2000000 in
theorem jflag_any (base gJ g i : Nat) (b so : Bool) (cs : Array Value) (w : World) (hJ : JB w gJ b) (hA : AB w g cs) (hi : cs[i]? = some (.bool so)) (hne : gJ ≠ g) (h2 : base ≤ g) :
    Calls Try.prog 76 #[.pointer (some ⟨gJ, 0, none⟩), .pointer (some ⟨g, i, none⟩)] w fun e w' => e = .returned (.bool so) ∧ JA base gJ g b (cs.setIfInBounds i (.bool false)) w w' := by
  have c1 := hA.cell hi
  have f1 := hA.free i
  have s1 : JA base gJ g b (cs.setIfInBounds i (.bool false)) w (w.setCell ⟨g, i, none⟩ (.bool false)) := ⟨hJ.other _ _ hne, hA.put i _, (Below.refl base w).setCell h2 _⟩
  clear hJ hA hi
  go_enter Try.func76, Try.ntmps76
  go_wp2
  go_ret
  exact ⟨rfl, s1⟩

/-- Whether a binding is too long. -/
def longB (x : List UInt8 × List UInt8) : Bool := decide (24 < x.1.length) || decide (48 < x.2.length)
def badB (bs : List (List UInt8 × List UInt8)) : Bool := decide (32 < bs.length) || bs.any longB

set_option maxRecDepth 100000 in
set_option maxHeartbeats 4000000 in
theorem jbatch_any (base gJ g i : Nat) (b : Bool) (v : Value) (bs : List (List UInt8 × List UInt8)) (cs : Array Value) (w : World) (hJ : JB w gJ b) (hA : AB w g cs) (hi : cs[i]? = some v) (hne : gJ ≠ g) (h1 : base ≤ gJ) (h2 : base ≤ g)
    (hB : ∀ W, Below base w W → BA W v bs) (hn : bs.length ≤ 1000) :
    Calls Try.prog 79 #[.pointer (some ⟨gJ, 0, none⟩), .pointer (some ⟨g, i, none⟩)] w fun e w' => e = .returned (.tuple #[]) ∧ JA base gJ g (b || badB bs) (cs.setIfInBounds i (.slice none 0 0)) w w' := by
  obtain ⟨p, c, rfl⟩ := (hB w (Below.refl _ w)).shape
  have c0 := hJ.cell
  have f0 := hJ.free
  have c1 := hA.cell hi
  have hbs : base ≤ w.heap.size := Nat.le_trans h1 (Nat.le_of_lt (Array.getElem?_eq_some_iff.1 hJ).1)
  obtain ⟨b1, hb1⟩ : ∃ b1, b1 = (b || decide (32 < bs.length)) := ⟨_, rfl⟩
  cases b with
  | true =>
    have s0 : JB (w.setCell ⟨gJ, 0, none⟩ (.bool true)) gJ true := hJ.put true
    have a0 := hA.other ⟨gJ, 0, none⟩ (.bool true) (Ne.symm hne)
    have t0 := a0.cell hi
    have b0 := (Below.refl base w).setCell (p := ⟨gJ, 0, none⟩) h1 (.bool true)
    have HB1 : Hid (b1 = (true || decide (32 < bs.length))) := hb1
    have e1 : Hid (true = (b1 || (bs.take 0).any longB)) := by show _ = _; rw [hb1]; simp; try omega
    clear hb1 hJ hA
    go_enter Try.func79, Try.ntmps79
    go_wp2
    go_loopw [24] (fun z wr => ∃ (k : Nat) (bb : Bool), k ≤ bs.length ∧ z = .int .i64 k ∧ Hid (bb = (b1 || (bs.take k).any longB)) ∧ JB wr gJ bb ∧ AB wr g cs ∧ Below base w wr) (fun z _ => bs.length - (intOf z).toNat)
    case atStart => exact ⟨0, true, Nat.zero_le _, rfl, e1, s0, a0, b0⟩
    case round =>
      obtain ⟨k, bb, hk, rfl, hbb, hJr, hAr, hbe⟩ := hrel
      by_cases hlt : k < bs.length
      · have hx0 := hB wr hbe
        obtain ⟨b', o, rfl⟩ := hx0.addr (by omega)
        obtain ⟨x, q, kk, r, d, hx, e1, e2, _, _⟩ := hx0.get k hlt
        have hst : Hid (bs.take (k + 1) = bs.take k ++ [x]) := by have := hx.out; rw [List.take_add_one, this]; rfl
        have bA := (Below.refl wr.heap.size wr).alloc (Nat.le_refl _) (.cells #[.slice q x.1.length kk, .slice r x.2.length d] 92)
        have hJA := hJr.later bA
        have hAA := hAr.later bA
        have cA := hJA.cell
        have fA := hJA.free
        have bB := hbe.trans (bA.mono (Nat.le_trans hbs hbe.size))
        have hlt2 : (k : Int) < (bs.length : Int) := by omega
        have sT : JB ((wr.alloc (.cells #[.slice q x.1.length kk, .slice r x.2.length d] 92)).setCell ⟨gJ, 0, none⟩ (.bool true)) gJ true := hJA.put true
        have sF : JB ((wr.alloc (.cells #[.slice q x.1.length kk, .slice r x.2.length d] 92)).setCell ⟨gJ, 0, none⟩ (.bool false)) gJ false := hJA.put false
        have aT := hAA.other ⟨gJ, 0, none⟩ (.bool true) (Ne.symm hne)
        have aF := hAA.other ⟨gJ, 0, none⟩ (.bool false) (Ne.symm hne)
        have bT := bB.setCell (p := ⟨gJ, 0, none⟩) h1 (.bool true)
        have bF := bB.setCell (p := ⟨gJ, 0, none⟩) h1 (.bool false)
        clear hJA hAA bA bB hx0 hJr hAr hbe
        cases bb with
        | true =>
          have hN : Hid (true = (b1 || (bs.take (k + 1)).any longB)) := by show _ = _; rw [hst.out, List.any_append, ← Bool.or_assoc, ← hbb.out]; rfl
          clear hst hbb hx
          go_wp2
          go_roundw
          case rel => first | exact ⟨k + 1, true, by omega, by go_num, hN, sT, aT, bT⟩ | ((repeat apply Exists.intro); exact ⟨⟨k + 1, true, by omega, by go_num, hN, sT, aT, bT⟩, rfl⟩)
          case measure => simp [intOf]; omega
        | false =>
          by_cases h24 : 24 < x.1.length
          · have hN : Hid (true = (b1 || (bs.take (k + 1)).any longB)) := by show _ = _; rw [hst.out, List.any_append, ← Bool.or_assoc, ← hbb.out]; simp [longB, h24]
            have h24' : (24 : Int) < (x.1.length : Int) := by omega
            clear hst hbb hx
            go_wp2
            go_roundw
            case rel => first | exact ⟨k + 1, true, by omega, by go_num, hN, sT, aT, bT⟩ | ((repeat apply Exists.intro); exact ⟨⟨k + 1, true, by omega, by go_num, hN, sT, aT, bT⟩, rfl⟩)
            case measure => simp [intOf]; omega
          · by_cases h48 : 48 < x.2.length
            · have hN : Hid (true = (b1 || (bs.take (k + 1)).any longB)) := by show _ = _; rw [hst.out, List.any_append, ← Bool.or_assoc, ← hbb.out]; simp [longB, h48]
              have h24' : ¬ (24 : Int) < (x.1.length : Int) := by omega
              have h48' : (48 : Int) < (x.2.length : Int) := by omega
              clear hst hbb hx
              go_wp2
              go_roundw
              case rel => first | exact ⟨k + 1, true, by omega, by go_num, hN, sT, aT, bT⟩ | ((repeat apply Exists.intro); exact ⟨⟨k + 1, true, by omega, by go_num, hN, sT, aT, bT⟩, rfl⟩)
              case measure => simp [intOf]; omega
            · have hN : Hid (false = (b1 || (bs.take (k + 1)).any longB)) := by show _ = _; rw [hst.out, List.any_append, ← Bool.or_assoc, ← hbb.out]; simp [longB, h24, h48]
              have h24' : ¬ (24 : Int) < (x.1.length : Int) := by omega
              have h48' : ¬ (48 : Int) < (x.2.length : Int) := by omega
              clear hst hbb hx
              go_wp2
              go_roundw
              case rel => first | exact ⟨k + 1, false, by omega, by go_num, hN, sF, aF, bF⟩ | ((repeat apply Exists.intro); exact ⟨⟨k + 1, false, by omega, by go_num, hN, sF, aF, bF⟩, rfl⟩)
              case measure => simp [intOf]; omega
      · obtain rfl : k = bs.length := by omega
        rw [List.take_length] at hbb
        have cE := hAr.cell hi
        have fE := hAr.free i
        have hR : JA base gJ g bb (cs.setIfInBounds i (.slice none 0 0)) w (wr.setCell ⟨g, i, none⟩ (.slice none 0 0)) := ⟨hJr.other _ _ hne, hAr.put i _, hbe.setCell h2 _⟩
        have hbe' : Hid (bb = (true || badB bs)) := by show _ = _; rw [hbb.out, HB1.out, Bool.or_assoc]; rfl
        rw [hbe'.out] at hR
        clear hJr hAr hbe hbb hbe'
        go_wp2
        go_end0
        exact ⟨rfl, hR⟩
  | false =>
    by_cases h32 : 32 < bs.length
    · have h32' : (32 : Int) < (bs.length : Int) := by omega
      have s0 : JB (w.setCell ⟨gJ, 0, none⟩ (.bool true)) gJ true := hJ.put true
      have a0 := hA.other ⟨gJ, 0, none⟩ (.bool true) (Ne.symm hne)
      have t0 := a0.cell hi
      have b0 := (Below.refl base w).setCell (p := ⟨gJ, 0, none⟩) h1 (.bool true)
      have HB1 : Hid (b1 = (false || decide (32 < bs.length))) := hb1
      have e1 : Hid (true = (b1 || (bs.take 0).any longB)) := by show _ = _; rw [hb1]; simp; try omega
      clear hb1 hJ hA
      go_enter Try.func79, Try.ntmps79
      go_wp2
      go_loopw [24] (fun z wr => ∃ (k : Nat) (bb : Bool), k ≤ bs.length ∧ z = .int .i64 k ∧ Hid (bb = (b1 || (bs.take k).any longB)) ∧ JB wr gJ bb ∧ AB wr g cs ∧ Below base w wr) (fun z _ => bs.length - (intOf z).toNat)
      case atStart => exact ⟨0, true, Nat.zero_le _, rfl, e1, s0, a0, b0⟩
      case round =>
        obtain ⟨k, bb, hk, rfl, hbb, hJr, hAr, hbe⟩ := hrel
        by_cases hlt : k < bs.length
        · have hx0 := hB wr hbe
          obtain ⟨b', o, rfl⟩ := hx0.addr (by omega)
          obtain ⟨x, q, kk, r, d, hx, e1, e2, _, _⟩ := hx0.get k hlt
          have hst : Hid (bs.take (k + 1) = bs.take k ++ [x]) := by have := hx.out; rw [List.take_add_one, this]; rfl
          have bA := (Below.refl wr.heap.size wr).alloc (Nat.le_refl _) (.cells #[.slice q x.1.length kk, .slice r x.2.length d] 92)
          have hJA := hJr.later bA
          have hAA := hAr.later bA
          have cA := hJA.cell
          have fA := hJA.free
          have bB := hbe.trans (bA.mono (Nat.le_trans hbs hbe.size))
          have hlt2 : (k : Int) < (bs.length : Int) := by omega
          have sT : JB ((wr.alloc (.cells #[.slice q x.1.length kk, .slice r x.2.length d] 92)).setCell ⟨gJ, 0, none⟩ (.bool true)) gJ true := hJA.put true
          have sF : JB ((wr.alloc (.cells #[.slice q x.1.length kk, .slice r x.2.length d] 92)).setCell ⟨gJ, 0, none⟩ (.bool false)) gJ false := hJA.put false
          have aT := hAA.other ⟨gJ, 0, none⟩ (.bool true) (Ne.symm hne)
          have aF := hAA.other ⟨gJ, 0, none⟩ (.bool false) (Ne.symm hne)
          have bT := bB.setCell (p := ⟨gJ, 0, none⟩) h1 (.bool true)
          have bF := bB.setCell (p := ⟨gJ, 0, none⟩) h1 (.bool false)
          clear hJA hAA bA bB hx0 hJr hAr hbe
          cases bb with
          | true =>
            have hN : Hid (true = (b1 || (bs.take (k + 1)).any longB)) := by show _ = _; rw [hst.out, List.any_append, ← Bool.or_assoc, ← hbb.out]; rfl
            clear hst hbb hx
            go_wp2
            go_roundw
            case rel => first | exact ⟨k + 1, true, by omega, by go_num, hN, sT, aT, bT⟩ | ((repeat apply Exists.intro); exact ⟨⟨k + 1, true, by omega, by go_num, hN, sT, aT, bT⟩, rfl⟩)
            case measure => simp [intOf]; omega
          | false =>
            by_cases h24 : 24 < x.1.length
            · have hN : Hid (true = (b1 || (bs.take (k + 1)).any longB)) := by show _ = _; rw [hst.out, List.any_append, ← Bool.or_assoc, ← hbb.out]; simp [longB, h24]
              have h24' : (24 : Int) < (x.1.length : Int) := by omega
              clear hst hbb hx
              go_wp2
              go_roundw
              case rel => first | exact ⟨k + 1, true, by omega, by go_num, hN, sT, aT, bT⟩ | ((repeat apply Exists.intro); exact ⟨⟨k + 1, true, by omega, by go_num, hN, sT, aT, bT⟩, rfl⟩)
              case measure => simp [intOf]; omega
            · by_cases h48 : 48 < x.2.length
              · have hN : Hid (true = (b1 || (bs.take (k + 1)).any longB)) := by show _ = _; rw [hst.out, List.any_append, ← Bool.or_assoc, ← hbb.out]; simp [longB, h48]
                have h24' : ¬ (24 : Int) < (x.1.length : Int) := by omega
                have h48' : (48 : Int) < (x.2.length : Int) := by omega
                clear hst hbb hx
                go_wp2
                go_roundw
                case rel => first | exact ⟨k + 1, true, by omega, by go_num, hN, sT, aT, bT⟩ | ((repeat apply Exists.intro); exact ⟨⟨k + 1, true, by omega, by go_num, hN, sT, aT, bT⟩, rfl⟩)
                case measure => simp [intOf]; omega
              · have hN : Hid (false = (b1 || (bs.take (k + 1)).any longB)) := by show _ = _; rw [hst.out, List.any_append, ← Bool.or_assoc, ← hbb.out]; simp [longB, h24, h48]
                have h24' : ¬ (24 : Int) < (x.1.length : Int) := by omega
                have h48' : ¬ (48 : Int) < (x.2.length : Int) := by omega
                clear hst hbb hx
                go_wp2
                go_roundw
                case rel => first | exact ⟨k + 1, false, by omega, by go_num, hN, sF, aF, bF⟩ | ((repeat apply Exists.intro); exact ⟨⟨k + 1, false, by omega, by go_num, hN, sF, aF, bF⟩, rfl⟩)
                case measure => simp [intOf]; omega
        · obtain rfl : k = bs.length := by omega
          rw [List.take_length] at hbb
          have cE := hAr.cell hi
          have fE := hAr.free i
          have hR : JA base gJ g bb (cs.setIfInBounds i (.slice none 0 0)) w (wr.setCell ⟨g, i, none⟩ (.slice none 0 0)) := ⟨hJr.other _ _ hne, hAr.put i _, hbe.setCell h2 _⟩
          have hbe' : Hid (bb = (false || badB bs)) := by show _ = _; rw [hbb.out, HB1.out, Bool.or_assoc]; rfl
          rw [hbe'.out] at hR
          clear hJr hAr hbe hbb hbe'
          go_wp2
          go_end0
          exact ⟨rfl, hR⟩
    · have h32' : ¬ (32 : Int) < (bs.length : Int) := by omega
      have s0 : JB (w.setCell ⟨gJ, 0, none⟩ (.bool false)) gJ false := hJ.put false
      have a0 := hA.other ⟨gJ, 0, none⟩ (.bool false) (Ne.symm hne)
      have t0 := a0.cell hi
      have b0 := (Below.refl base w).setCell (p := ⟨gJ, 0, none⟩) h1 (.bool false)
      have HB1 : Hid (b1 = (false || decide (32 < bs.length))) := hb1
      have e1 : Hid (false = (b1 || (bs.take 0).any longB)) := by show _ = _; rw [hb1]; simp; try omega
      clear hb1 hJ hA
      go_enter Try.func79, Try.ntmps79
      go_wp2
      go_loopw [24] (fun z wr => ∃ (k : Nat) (bb : Bool), k ≤ bs.length ∧ z = .int .i64 k ∧ Hid (bb = (b1 || (bs.take k).any longB)) ∧ JB wr gJ bb ∧ AB wr g cs ∧ Below base w wr) (fun z _ => bs.length - (intOf z).toNat)
      case atStart => exact ⟨0, false, Nat.zero_le _, rfl, e1, s0, a0, b0⟩
      case round =>
        obtain ⟨k, bb, hk, rfl, hbb, hJr, hAr, hbe⟩ := hrel
        by_cases hlt : k < bs.length
        · have hx0 := hB wr hbe
          obtain ⟨b', o, rfl⟩ := hx0.addr (by omega)
          obtain ⟨x, q, kk, r, d, hx, e1, e2, _, _⟩ := hx0.get k hlt
          have hst : Hid (bs.take (k + 1) = bs.take k ++ [x]) := by have := hx.out; rw [List.take_add_one, this]; rfl
          have bA := (Below.refl wr.heap.size wr).alloc (Nat.le_refl _) (.cells #[.slice q x.1.length kk, .slice r x.2.length d] 92)
          have hJA := hJr.later bA
          have hAA := hAr.later bA
          have cA := hJA.cell
          have fA := hJA.free
          have bB := hbe.trans (bA.mono (Nat.le_trans hbs hbe.size))
          have hlt2 : (k : Int) < (bs.length : Int) := by omega
          have sT : JB ((wr.alloc (.cells #[.slice q x.1.length kk, .slice r x.2.length d] 92)).setCell ⟨gJ, 0, none⟩ (.bool true)) gJ true := hJA.put true
          have sF : JB ((wr.alloc (.cells #[.slice q x.1.length kk, .slice r x.2.length d] 92)).setCell ⟨gJ, 0, none⟩ (.bool false)) gJ false := hJA.put false
          have aT := hAA.other ⟨gJ, 0, none⟩ (.bool true) (Ne.symm hne)
          have aF := hAA.other ⟨gJ, 0, none⟩ (.bool false) (Ne.symm hne)
          have bT := bB.setCell (p := ⟨gJ, 0, none⟩) h1 (.bool true)
          have bF := bB.setCell (p := ⟨gJ, 0, none⟩) h1 (.bool false)
          clear hJA hAA bA bB hx0 hJr hAr hbe
          cases bb with
          | true =>
            have hN : Hid (true = (b1 || (bs.take (k + 1)).any longB)) := by show _ = _; rw [hst.out, List.any_append, ← Bool.or_assoc, ← hbb.out]; rfl
            clear hst hbb hx
            go_wp2
            go_roundw
            case rel => first | exact ⟨k + 1, true, by omega, by go_num, hN, sT, aT, bT⟩ | ((repeat apply Exists.intro); exact ⟨⟨k + 1, true, by omega, by go_num, hN, sT, aT, bT⟩, rfl⟩)
            case measure => simp [intOf]; omega
          | false =>
            by_cases h24 : 24 < x.1.length
            · have hN : Hid (true = (b1 || (bs.take (k + 1)).any longB)) := by show _ = _; rw [hst.out, List.any_append, ← Bool.or_assoc, ← hbb.out]; simp [longB, h24]
              have h24' : (24 : Int) < (x.1.length : Int) := by omega
              clear hst hbb hx
              go_wp2
              go_roundw
              case rel => first | exact ⟨k + 1, true, by omega, by go_num, hN, sT, aT, bT⟩ | ((repeat apply Exists.intro); exact ⟨⟨k + 1, true, by omega, by go_num, hN, sT, aT, bT⟩, rfl⟩)
              case measure => simp [intOf]; omega
            · by_cases h48 : 48 < x.2.length
              · have hN : Hid (true = (b1 || (bs.take (k + 1)).any longB)) := by show _ = _; rw [hst.out, List.any_append, ← Bool.or_assoc, ← hbb.out]; simp [longB, h48]
                have h24' : ¬ (24 : Int) < (x.1.length : Int) := by omega
                have h48' : (48 : Int) < (x.2.length : Int) := by omega
                clear hst hbb hx
                go_wp2
                go_roundw
                case rel => first | exact ⟨k + 1, true, by omega, by go_num, hN, sT, aT, bT⟩ | ((repeat apply Exists.intro); exact ⟨⟨k + 1, true, by omega, by go_num, hN, sT, aT, bT⟩, rfl⟩)
                case measure => simp [intOf]; omega
              · have hN : Hid (false = (b1 || (bs.take (k + 1)).any longB)) := by show _ = _; rw [hst.out, List.any_append, ← Bool.or_assoc, ← hbb.out]; simp [longB, h24, h48]
                have h24' : ¬ (24 : Int) < (x.1.length : Int) := by omega
                have h48' : ¬ (48 : Int) < (x.2.length : Int) := by omega
                clear hst hbb hx
                go_wp2
                go_roundw
                case rel => first | exact ⟨k + 1, false, by omega, by go_num, hN, sF, aF, bF⟩ | ((repeat apply Exists.intro); exact ⟨⟨k + 1, false, by omega, by go_num, hN, sF, aF, bF⟩, rfl⟩)
                case measure => simp [intOf]; omega
        · obtain rfl : k = bs.length := by omega
          rw [List.take_length] at hbb
          have cE := hAr.cell hi
          have fE := hAr.free i
          have hR : JA base gJ g bb (cs.setIfInBounds i (.slice none 0 0)) w (wr.setCell ⟨g, i, none⟩ (.slice none 0 0)) := ⟨hJr.other _ _ hne, hAr.put i _, hbe.setCell h2 _⟩
          have hbe' : Hid (bb = (false || badB bs)) := by show _ = _; rw [hbb.out, HB1.out, Bool.or_assoc]; rfl
          rw [hbe'.out] at hR
          clear hJr hAr hbe hbb hbe'
          go_wp2
          go_end0
          exact ⟨rfl, hR⟩

end Go.Proofs.Ythkgbgkijdeaoaa
