/- What this text proves: the walks of ask's blank and Encode over this program, of any request whose kind there is: what through makes of it with a judge and with a writer is told by hypotheses. -/
import Derived.Test.YthkgbgkijdeaoaaJAkTw
import Derived.Test.YthkgbgkijdeaoaaJAkAwake
namespace Go.Proofs.Ythkgbgkijdeaoaa
open Go.RowKit

/-- Whether a request has nothing, its kind not looked at. -/
def blankB (fr to ti ep ix li : Int) (so : Bool) (n m : Nat) : Bool := (fr == 0 && (to == 0 && (ti == 0 && (ep == 0 && (ix == 0 && li == 0))))) && (!so && (decide (n = 0) && decide (m = 0)))

set_option maxRecDepth 100000 in
set_option maxHeartbeats 4000000 in
theorem blank_any (k fr to ti ep ix li : Int) (so : Bool) (p q : Option Addr) (n c m d : Nat) (w : World) :
    Calls Try.prog 18 #[.agg #[.int .i64 k, .slice p n c, .int .i64 fr, .int .i64 to, .int .i64 ti, .bool so, .int .i64 ep, .int .i64 ix, .int .i64 li, .slice q m d]] w fun e w' => e = .returned (.bool (blankB fr to ti ep ix li so n m)) ∧ Below w.heap.size w w' := by
  have hE := eq_nums fr to ti ep ix li
  have bE := ((Below.refl _ w).alloc (Nat.le_refl _) (.cells #[.int .i64 k, .slice p n c, .int .i64 fr, .int .i64 to, .int .i64 ti, .bool so, .int .i64 ep, .int .i64 ix, .int .i64 li, .slice q m d] 25)).alloc ((Below.refl _ w).alloc (Nat.le_refl _) _).size (.cells #[.int .i64 fr, .int .i64 to, .int .i64 ti, .int .i64 ep, .int .i64 ix, .int .i64 li] 87)
  unfold blankB
  generalize (fr == 0 && (to == 0 && (ti == 0 && (ep == 0 && (ix == 0 && li == 0))))) = B at *
  cases B with
  | false =>
    go_enter Try.func18, Try.ntmps18
    go_wp2
    go_ret
    exact ⟨rfl, bE⟩
  | true =>
    cases so with
    | true =>
      go_enter Try.func18, Try.ntmps18
      go_wp2
      go_ret
      exact ⟨rfl, bE⟩
    | false =>
      by_cases hn : n = 0
      · subst hn
        by_cases hm : m = 0
        · subst hm
          go_enter Try.func18, Try.ntmps18
          go_wp2
          go_ret
          exact ⟨rfl, bE⟩
        · have e : decide (m = 0) = false := by simp [hm]
          have hm' : ¬ (m : Int) = 0 := by omega
          have e2 : ((m : Int) == 0) = false := by simp [hm]
          rw [e]
          go_enter Try.func18, Try.ntmps18
          go_wp2
          go_ret
          exact ⟨rfl, bE⟩
      · have e : decide (n = 0) = false := by simp [hn]
        have hn' : ¬ (n : Int) = 0 := by omega
        rw [e]
        go_enter Try.func18, Try.ntmps18
        go_wp2
        go_ret
        exact ⟨rfl, bE⟩

/-- Of what Encode answers. -/
def EncTold (ok : Bool) (R : List UInt8) (w : World) (x : Ending) (w' : World) : Prop := Below w.heap.size w w' ∧ (ok = true → ∃ v, x = .returned (.tuple #[v, .int .i64 0]) ∧ HB w' v R) ∧ (ok = false → x = .returned (.tuple #[.slice none 0 0, .int .i64 1]))

set_option maxRecDepth 100000 in
set_option maxHeartbeats 4000000 in
theorem encode_core (k fr to ti ep ix li : Int) (so : Bool) (p q : Option Addr) (n c m d : Nat) (k' fr' to' ti' ep' ix' li' : Int) (so' : Bool) (p' q' : Option Addr) (n' c' m' d' : Nat) (bad ok : Bool) (R : List UInt8) (w : World)
    (hok : Hid (ok = (!bad && blankB fr' to' ti' ep' ix' li' so' n' m')))
    (hJ : ∀ base gJ g W, JB W gJ false → AB W g #[.int .i64 k, .slice p n c, .int .i64 fr, .int .i64 to, .int .i64 ti, .bool so, .int .i64 ep, .int .i64 ix, .int .i64 li, .slice q m d] → gJ ≠ g → base ≤ gJ → base ≤ g → Below w.heap.size w W → w.heap.size ≤ base → Calls Try.prog 17 #[.iface 44 (.pointer (some ⟨gJ, 0, none⟩)), .pointer (some ⟨g, 0, none⟩)] W fun e W' => e = .returned (.bool true) ∧ JA base gJ g bad #[.int .i64 k', .slice p' n' c', .int .i64 fr', .int .i64 to', .int .i64 ti', .bool so', .int .i64 ep', .int .i64 ix', .int .i64 li', .slice q' m' d'] W W')
    (hW : ok = true → ∀ g base gR W, WRT 49 W g base (numL (clampN k)) → AB W gR #[.int .i64 k, .slice p n c, .int .i64 fr, .int .i64 to, .int .i64 ti, .bool so, .int .i64 ep, .int .i64 ix, .int .i64 li, .slice q m d] → base ≤ g → Below w.heap.size w W → w.heap.size ≤ base → Calls Try.prog 17 #[.iface 52 (.pointer (some ⟨g, 0, none⟩)), .pointer (some ⟨gR, 0, none⟩)] W fun e W' => e = .returned (.bool true) ∧ Wrote 49 g base (numL (clampN k) ++ R) W W') :
    Calls Try.prog 8 #[.agg #[.int .i64 k, .slice p n c, .int .i64 fr, .int .i64 to, .int .i64 ti, .bool so, .int .i64 ep, .int .i64 ix, .int .i64 li, .slice q m d]] w (EncTold ok (numL (clampN k) ++ R) w) := by
  have hB := fun w => blank_any k' fr' to' ti' ep' ix' li' so' p' q' n' c' m' d' w
  generalize blankB fr' to' ti' ep' ix' li' so' n' m' = B at hok hB
  obtain ⟨bA, a0, a1, a2, a3⟩ := alloc3 w (.cells #[.int .i64 k, .slice p n c, .int .i64 fr, .int .i64 to, .int .i64 ti, .bool so, .int .i64 ep, .int .i64 ix, .int .i64 li, .slice q m d] 25) (.cells #[.bool false] 42) (.cells #[.int .i64 k, .slice p n c, .int .i64 fr, .int .i64 to, .int .i64 ti, .bool so, .int .i64 ep, .int .i64 ix, .int .i64 li, .slice q m d] 25)
  obtain ⟨wA, hWA⟩ : ∃ x, x = (((w.alloc (.cells #[.int .i64 k, .slice p n c, .int .i64 fr, .int .i64 to, .int .i64 ti, .bool so, .int .i64 ep, .int .i64 ix, .int .i64 li, .slice q m d] 25)).alloc (.cells #[.bool false] 42)).alloc (.cells #[.int .i64 k, .slice p n c, .int .i64 fr, .int .i64 to, .int .i64 ti, .bool so, .int .i64 ep, .int .i64 ix, .int .i64 li, .slice q m d] 25)) := ⟨_, rfl⟩
  rw [← hWA] at bA a0 a1 a2 a3
  have HWA : Hid (wA = (((w.alloc (.cells #[.int .i64 k, .slice p n c, .int .i64 fr, .int .i64 to, .int .i64 ti, .bool so, .int .i64 ep, .int .i64 ix, .int .i64 li, .slice q m d] 25)).alloc (.cells #[.bool false] 42)).alloc (.cells #[.int .i64 k, .slice p n c, .int .i64 fr, .int .i64 to, .int .i64 ti, .bool so, .int .i64 ep, .int .i64 ix, .int .i64 li, .slice q m d] 25))) := hWA
  have HA3 : Hid (w.heap.size + 1 + 1 + 1 = wA.heap.size) := a3
  have hT1 := hJ (w.heap.size + 1) (w.heap.size + 1) (w.heap.size + 1 + 1) wA a1 a2 (by omega) (Nat.le_refl _) (by omega) bA (by omega)
  rw [hWA] at hT1
  clear hWA a3 hJ
  obtain ⟨T, hT⟩ : ∃ T, T = EncTold ok (numL (clampN k) ++ R) w := ⟨_, rfl⟩
  have HT : Hid (T = EncTold ok (numL (clampN k) ++ R) w) := hT
  rw [← hT]
  clear hT
  go_enter Try.func8, Try.ntmps8
  go_wp2_with fail
  refine hT1.mono ?_
  rintro e w1 ⟨rfl, hj⟩
  rw [← HWA.out] at hj
  obtain ⟨j1, j2, j3⟩ := hj
  have a01 := (j3.block w.heap.size (by omega)).trans a0
  have bB := bA.trans (j3.mono (by omega))
  have c0 := j1.cell
  obtain ⟨d0, d1, d2, d3, d4, d5, d6, d7, d8, d9⟩ := ask_cells j2
  clear HWA hT1 a0 a1 a2 bA j3 HA3 j1
  cases bad with
  | true =>
    have e0 : ok = false := hok.out
    go_wp2
    rw [HT.out, e0]
    exact ⟨bB, (fun h => nomatch h), fun _ => rfl⟩
  | false =>
    go_wp2_with fail
    refine (hB w1).mono ?_
    rintro e w2 ⟨rfl, hb2⟩
    have lt0 : w.heap.size < w1.heap.size := (Array.getElem?_eq_some_iff.1 a01).1
    have a0' := (hb2.block _ lt0).trans a01
    have bC := bB.trans (hb2.mono bB.size)
    clear hB c0 d0 d1 d2 d3 d4 d5 d6 d7 d8 d9 j2 bB hb2 a01
    cases B with
    | false =>
      have e0 : ok = false := hok.out
      go_wp2
      rw [HT.out, e0]
      exact ⟨bC, (fun h => nomatch h), fun _ => rfl⟩
    | true =>
      have e0 : ok = true := hok.out
      have lt2 : w.heap.size < w2.heap.size := (Array.getElem?_eq_some_iff.1 a0').1
      have hWm := WRT.made 49 w2 w2.heap.size (Nat.le_refl _)
      have bD := (Below.refl w2.heap.size w2).alloc (Nat.le_refl _) (.cells #[.slice none 0 0] 49)
      have aD := (bD.block _ lt2).trans a0'
      obtain ⟨wC, hwC⟩ : ∃ x, x = w2.alloc (.cells #[.slice none 0 0] 49) := ⟨_, rfl⟩
      rw [← hwC] at hWm bD aD
      have hN := wnumber_any 49 (by decide) w2.heap.size w2.heap.size ⟨w.heap.size, 0, none⟩ k 2147483648 [] wC hWm (Nat.le_refl _) (by rw [cell_of_row _ _ _ _ _ _ aD]; rfl) (by simp)
      rw [List.nil_append, hwC] at hN
      have HwC : Hid (wC = w2.alloc (.cells #[.slice none 0 0] 49)) := hwC
      clear hwC hWm
      go_wp2_with fail
      refine hN.mono ?_
      rintro e w3 ⟨rfl, hW3⟩
      rw [← HwC.out] at hW3
      obtain ⟨hW3, hb3, ht3⟩ := hW3
      have a3 : AB w3 w.heap.size #[.int .i64 k, .slice p n c, .int .i64 fr, .int .i64 to, .int .i64 ti, .bool so, .int .i64 ep, .int .i64 ix, .int .i64 li, .slice q m d] := ht3 _ _ _ _ aD (by decide) (by decide)
      have b3 := bC.trans ((bD.trans hb3).mono bC.size)
      have hT3 := hW e0 w2.heap.size w2.heap.size w.heap.size w3 hW3 a3 (Nat.le_refl _) b3 bC.size
      clear hN HwC hb3 ht3 aD bD a0' hW
      go_wp2_with fail
      refine hT3.mono ?_
      rintro e w4 ⟨rfl, hW4, hb4, _⟩
      have hR := written_any 49 _ _ _ w4 hW4
      have bE := b3.trans (hb4.mono bC.size)
      clear hT3 hb4 b3
      go_wp2_with fail
      refine hR.mono ?_
      rintro e w5 ⟨p5, c5, rfl, hown, rfl⟩
      have hH := HB.of_owns hown
      rw [List.length_append] at hH
      clear hR hown hW4 a3
      go_wp2
      rw [HT.out, e0]
      exact ⟨bE, fun _ => ⟨_, rfl, hH⟩, (fun h => nomatch h)⟩

end Go.Proofs.Ythkgbgkijdeaoaa
