/- What this text proves: the code's Sign and the document's, told by one plain function: what any digest signed by any number is. -/
import Derived.Test.YtdjaemobfbbkoaaDoorJMSignW
import Derived.Test.YtdjaemobfbbkoaaDoorJMSignE
import Derived.Test.YtdjaemobfbbkoaaDoorJRMSignK
import Derived.Test.YtdjaemobfbbkoaaDoorJRMSignE
namespace Go.Proofs.YtdjaemobfbbkoaaDoor
open Go.RowKit

/-- What a signature of any digest by any number is: its number, the error, the chains, the path. -/
def signA (n h : Nat) (seed D : List UInt8) (idx : Int) : Int × Int × List (List UInt8) × List (List UInt8) :=
  if withinB idx h = true ∧ D.length = n then (idx, 0, signW n seed idx D, pathW n seed idx.toNat h) else (0, 1, [], [])

/-- Rows of bytes that stay while the keys in block g are worked on. -/
def Kp (g : Nat) (W : World) (v : Value) (ls : List (List UInt8)) : Prop :=
  ∀ (n h d s : Int) (p1 p2 : Option Addr) (n1 c1 n2 c2 : Nat) (w' : World), KO W g n h (.slice p1 n1 c1) d s (.slice p2 n2 c2) → Only g W w' → PA w' v ls

theorem Kp.nil (g : Nat) (W : World) : Kp g W (.slice none 0 0) [] := fun _ _ _ _ _ _ _ _ _ _ w' _ _ => PA.nil w'
theorem Kp.of_pa {g : Nat} {W : World} {v : Value} {ls : List (List UInt8)} (h : PA W v ls) (hl : ls.length ≠ 1) : Kp g W v ls := fun _ _ _ _ _ _ _ _ _ _ _ k o => k.pa o h hl
theorem Kp.of_rs {g base N : Nat} {W : World} {v : Value} {sig : Nat → List UInt8} (h : RS W base v N sig) (hg : g < base) : Kp g W v ((List.range N).map sig) := fun _ _ _ _ _ _ _ _ _ _ _ k o => (h.only k o hg).pa
theorem Kp.on {g : Nat} {W W' : World} {v : Value} {ls : List (List UInt8)} {n h d s : Int} {p1 p2 : Option Addr} {n1 c1 n2 c2 : Nat} (q : Kp g W v ls) (k : KO W g n h (.slice p1 n1 c1) d s (.slice p2 n2 c2)) (o : Only g W W') : Kp g W' v ls :=
  fun _ _ _ _ _ _ _ _ _ _ _ _ o' => q _ _ _ _ _ _ _ _ _ _ _ k (o.trans o')

theorem within_nat {idx : Int} {h : Nat} (hw : withinB idx h = true) : ∃ i : Nat, idx = (i : Int) ∧ i < 2 ^ h := by
  simp only [withinB, decide_eq_true_eq] at hw
  exact ⟨idx.toNat, by omega, by omega⟩

theorem signW_ne1 (n : Nat) (hn2 : n ≤ 32) (seed : List UInt8) (hsl : seed.length ≤ 64) (i : Int) (D : List UInt8) : (signW n seed i D).length ≠ 1 := by
  have := sign_whole n hn2 seed hsl i D
  simp [wholeB] at this
  omega

theorem msign_all (g n h : Nat) (idx : Int) (seed D : List UInt8) (dv : Value) (w : World) (k : KW w g n h seed 0 (.slice none 0 0)) (hg1 : 1 < g) (hsl : seed.length ≤ 64) (hn : 1 ≤ n) (hn2 : n ≤ 32) (hh : h ≤ 8) (hT : Tabs w) (hdv : HB w dv D) :
    Calls Tryd.prog 8 #[.pointer (some ⟨g, 0, none⟩), .int .i64 idx, dv] w fun e w' => ∃ ca pa, e = .returned (.tuple #[.agg #[.int .i64 (signA n h seed D idx).1, ca, pa], .int .i64 (signA n h seed D idx).2.1]) ∧ Kp g w' ca (signA n h seed D idx).2.2.1 ∧ Kp g w' pa (signA n h seed D idx).2.2.2 ∧ (∃ B, KS w' g n h seed B ∧ g < B ∧ B ≤ w'.heap.size) ∧ Only g w w' := by
  have hgl : g < w.heap.size := by
    obtain ⟨p1, c1, ko, hs, ts⟩ := k
    exact ko.lt
  cases hw : withinB idx h with
  | false =>
    have e : signA n h seed D idx = (0, 1, [], []) := by simp [signA, hw]
    rw [e]
    refine (msign_out g n h idx seed D 0 _ dv w k hn hh hdv hw).mono ?_
    rintro _ w' ⟨rfl, hb⟩
    have := hb.size
    exact ⟨_, _, rfl, Kp.nil _ _, Kp.nil _ _, ⟨w'.heap.size, .inl (k.later hb), by omega, Nat.le_refl _⟩, Only.of_below hb (by omega)⟩
  | true =>
    by_cases hD : D.length = n
    · have e : signA n h seed D idx = (idx, 0, signW n seed idx D, pathW n seed idx.toNat h) := by simp [signA, hw, hD]
      rw [e]
      obtain ⟨i, rfl, hi⟩ := within_nat hw
      refine (msign_ok g n h i seed D dv w k hg1 hsl hn hn2 hh hT hdv hD hi).mono ?_
      rintro _ w' ⟨ca, pa, rfl, pc, ⟨base, hgb, rs⟩, hB, o⟩
      exact ⟨ca, pa, rfl, Kp.of_pa pc (signW_ne1 n hn2 seed hsl _ D), Kp.of_rs rs hgb, hB, o⟩
    · have e : signA n h seed D idx = (0, 1, [], []) := by simp [signA, hD]
      rw [e]
      refine (msign_dig g n h idx seed D 0 _ dv w k hn hh hdv hw hD).mono ?_
      rintro _ w' ⟨rfl, hb⟩
      have := hb.size
      exact ⟨_, _, rfl, Kp.nil _ _, Kp.nil _ _, ⟨w'.heap.size, .inl (k.later hb), by omega, Nat.le_refl _⟩, Only.of_below hb (by omega)⟩

theorem rmsign_all (ga g n h B : Nat) (idx : Int) (p : Option Addr) (c : Nat) (lv dv : Value) (seed D : List UInt8) (w : World) (hga : ga < w.heap.size) (k : RKO w g n h (.slice p seed.length c) lv) (t : TL w B n h seed lv (h + 1)) (hs : HB w (.slice p seed.length c) seed) (hdv : HB w dv D) (hsl : seed.length ≤ 64) (hn : 1 ≤ n) (hn2 : n ≤ 32) (hh : h ≤ 8) :
    Calls Tryd.prog 9 #[.pointer (some ⟨g, 0, none⟩), .int .i64 idx, dv] w fun e w' => ∃ ca pa, e = .returned (.tuple #[.agg #[.int .i64 (signA n h seed D idx).1, ca, pa], .int .i64 (signA n h seed D idx).2.1]) ∧ Kp ga w' ca (signA n h seed D idx).2.2.1 ∧ Kp ga w' pa (signA n h seed D idx).2.2.2 ∧ Below w.heap.size w w' := by
  by_cases hc : withinB idx h = true ∧ D.length = n
  · have e : signA n h seed D idx = (idx, 0, signW n seed idx D, pathW n seed idx.toNat h) := by simp [signA, hc]
    rw [e]
    obtain ⟨i, rfl, hi⟩ := within_nat hc.1
    refine (rmsign_ok g n h i B p c lv dv seed D w k t hs hdv hc.2 hi hsl hn hn2 hh).mono ?_
    rintro _ w' ⟨ca, pa, rfl, pc, rs, hb⟩
    exact ⟨ca, pa, rfl, Kp.of_pa pc (signW_ne1 n hn2 seed hsl _ D), Kp.of_rs rs hga, hb⟩
  · have e : signA n h seed D idx = (0, 1, [], []) := by unfold signA; rw [if_neg hc]
    rw [e]
    have hbad : withinB idx h = false ∨ D.length ≠ n := by
      cases hw : withinB idx h with
      | false => exact .inl rfl
      | true => exact .inr (fun h' => hc ⟨hw, h'⟩)
    refine (rmsign_err g n h idx _ lv dv D w k hdv hh hbad).mono ?_
    rintro _ w' ⟨rfl, hb⟩
    exact ⟨_, _, rfl, Kp.nil _ _, Kp.nil _ _, hb⟩

end Go.Proofs.YtdjaemobfbbkoaaDoor
