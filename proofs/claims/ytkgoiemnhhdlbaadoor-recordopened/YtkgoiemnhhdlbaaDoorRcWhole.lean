/- What this text proves: the walk of annalsref13.whole over this program: whether a signature has the shape of one. -/
import Derived.Test.YtkgoiemnhhdlbaaDoorRcShaped
namespace Go.Proofs.YtkgoiemnhhdlbaaDoor
open Go.RowKit

set_option maxHeartbeats 2000000 in
theorem whole_any (size idx : Int) (cv pv : Value) (ls ps : List (List UInt8)) (w : World) (h1 : PA w cv ls) (h2 : PA w pv ps) (h0 : 0 ≤ size) (h32 : size ≤ 32) :
    Calls Tryd.prog 15 #[.int .i64 size, .agg #[.int .i64 idx, cv, pv]] w fun x w' => x = .returned (.bool (shpB size idx ls ps)) ∧ Below w.heap.size w w' := by
  obtain ⟨pc, cc, rfl⟩ := h1.shape
  obtain ⟨pp, cp, rfl⟩ := h2.shape
  have bA := (Below.refl w.heap.size w).alloc (Nat.le_refl _) (.cells #[.int .i64 idx, .slice pc ls.length cc, .slice pp ps.length cp] 27)
  have gA := heap_alloc_new w (.cells #[.int .i64 idx, .slice pc ls.length cc, .slice pp ps.length cp] 27)
  obtain ⟨V, hV⟩ : ∃ V, w.alloc (.cells #[.int .i64 idx, .slice pc ls.length cc, .slice pp ps.length cp] 27) = V := ⟨_, rfl⟩
  rw [hV] at bA gA
  have q0 : V.cell? ⟨w.heap.size, 0, none⟩ = some (.int .i64 idx) := by rw [cell_of_row _ _ 0 _ _ _ gA]; rfl
  have q1 : V.cell? ⟨w.heap.size, 1, none⟩ = some (.slice pc ls.length cc) := by rw [cell_of_row _ _ 1 _ _ _ gA]; rfl
  have q2 : V.cell? ⟨w.heap.size, 2, none⟩ = some (.slice pp ps.length cp) := by rw [cell_of_row _ _ 2 _ _ _ gA]; rfl
  have hw4 : wrap64 (wrap64 (4 * size) + 5) = 4 * size + 5 := by unfold wrap64; omega
  have hm1 := h1.len
  have hm2 := h2.len
  unfold maxLen at hm1 hm2
  by_cases hc : (0 ≤ idx ∧ idx ≤ 255) ∧ (ls.length : Int) = 4 * size + 5 ∧ (ps.length : Int) ≤ 8
  case neg =>
    have HR : Hid (shpB size idx ls ps = false) := by
      show shpB _ _ _ _ = _
      cases hB : shpB size idx ls ps with
      | false => rfl
      | true =>
        unfold shpB at hB
        simp only [Bool.and_eq_true, decide_eq_true_eq] at hB
        exact absurd ⟨hB.1, hB.2.1, hB.2.2.1⟩ hc
    have HF : Hid (Below w.heap.size w V) := bA
    by_cases a1 : idx < 0
    · clear hc hm1 hm2 h1 h2 bA gA
      go_enter Tryd.func15, Tryd.ntmps15
      go_wp2
      go_ret
      rw [HR.out]
      exact ⟨rfl, HF.out⟩
    · by_cases a2 : 255 < idx
      · clear hc hm1 hm2 h1 h2 bA gA
        go_enter Tryd.func15, Tryd.ntmps15
        go_wp2
        go_ret
        rw [HR.out]
        exact ⟨rfl, HF.out⟩
      · by_cases a3 : (ls.length : Int) = 4 * size + 5
        · have a4 : ¬ (ps.length : Int) ≤ 8 := fun q => hc ⟨by omega, a3, q⟩
          have a5 : (8 : Int) < (ps.length : Int) := by omega
          have a3' : ((ls.length : Int) == 4 * size + 5) = true := by simpa using a3
          have a3'' : ((ls.length : Int) != 4 * size + 5) = false := by simpa using a3
          clear hc hm1 hm2 h1 h2 bA gA a3 a4
          go_enter Tryd.func15, Tryd.ntmps15
          go_wp2
          go_ret
          rw [HR.out]
          exact ⟨rfl, HF.out⟩
        · have a3' : ((ls.length : Int) == 4 * size + 5) = false := by simpa using a3
          have a3'' : ((ls.length : Int) != 4 * size + 5) = true := by simpa using a3
          clear hc hm1 hm2 h1 h2 bA gA a3
          go_enter Tryd.func15, Tryd.ntmps15
          go_wp2
          go_ret
          rw [HR.out]
          exact ⟨rfl, HF.out⟩
  case pos =>
    obtain ⟨⟨a1, a2⟩, a3, a4⟩ := hc
    have HR : Hid (shpB size idx ls ps = (sizedB size ls && sizedB size ps)) := by
      show shpB _ _ _ _ = _
      unfold shpB
      rw [decide_eq_true (show 0 ≤ idx ∧ idx ≤ 255 from ⟨a1, a2⟩), decide_eq_true a3, decide_eq_true a4]
      rfl
    have a3' : ((ls.length : Int) == 4 * size + 5) = true := by simpa using a3
    have a3'' : ((ls.length : Int) != 4 * size + 5) = false := by simpa using a3
    have hp2 : ∀ W, Below V.heap.size V W → PA W (.slice pc ls.length cc) ls ∧ PA W (.slice pp ps.length cp) ps := fun W hb => ⟨h1.later (bA.trans (hb.mono bA.size)), h2.later (bA.trans (hb.mono bA.size))⟩
    have bB := (Below.refl V.heap.size V).alloc (Nat.le_refl _) (.cells #[.slice pc ls.length cc, .slice pp ps.length cp] 23)
    have gB := heap_alloc_new V (.cells #[.slice pc ls.length cc, .slice pp ps.length cp] 23)
    have HF : Hid (Below w.heap.size w (V.alloc (.cells #[.slice pc ls.length cc, .slice pp ps.length cp] 23))) := bA.trans (bB.mono bA.size)
    have hsV : V.heap.size = w.heap.size + 1 := by rw [← hV]; simp
    obtain ⟨k1, k2⟩ := hp2 _ bB
    clear a3 h1 h2 bA gA hp2 hm1 hm2
    rw [hsV] at gB
    go_enter Tryd.func15, Tryd.ntmps15
    go_wp2
    obtain ⟨U, hU⟩ : ∃ U, V.alloc (.cells #[.slice pc ls.length cc, .slice pp ps.length cp] 23) = U := ⟨_, rfl⟩
    rw [hU] at gB HF k1 k2 ⊢
    clear hU bB hV q0 q1 q2
    go_loop [38] (fun i => ∃ n : Nat, n ≤ 2 ∧ i = .int .i64 (n : Int) ∧ Hid ((0 < n → sizedB size ls = true) ∧ (1 < n → sizedB size ps = true))) (fun i => 2 - (intOf i).toNat)
    case atStart => exact ⟨0, by omega, rfl, ⟨fun h => absurd h (by omega), fun h => absurd h (by omega)⟩⟩
    case round =>
      obtain ⟨n, hn, rfl, hI⟩ := hrel
      by_cases hlt : n < 2
      · have hlt2 : (n : Int) < 2 := by omega
        have hL : ∃ (pL : Option Addr) (cL : Nat) (L : List (List UInt8)), U.cell? ⟨w.heap.size + 1, n, none⟩ = some (.slice pL L.length cL) ∧ PA U (.slice pL L.length cL) L ∧ (sizedB size L = false → shpB size idx ls ps = false) ∧ (sizedB size L = true → ((0 < n + 1 → sizedB size ls = true) ∧ (1 < n + 1 → sizedB size ps = true))) := by
          have h01 : n = 0 ∨ n = 1 := by omega
          have hI' := hI.out
          rcases h01 with rfl | rfl
          · refine ⟨pc, cc, ls, by rw [cell_of_row _ _ 0 _ _ _ gB]; rfl, k1, fun q => by rw [HR.out, q]; rfl, fun q => ⟨fun _ => q, fun h => absurd h (by omega)⟩⟩
          · refine ⟨pp, cp, ps, by rw [cell_of_row _ _ 1 _ _ _ gB]; rfl, k2, fun q => by rw [HR.out, q]; simp, fun q => ⟨fun _ => hI'.1 (by omega), fun _ => q⟩⟩
        obtain ⟨pL, cL, L, hc, hP, hf, ht⟩ := hL
        have Hf := (show Hid _ from hf)
        have Ht := (show Hid _ from ht)
        have hmL := hP.len
        unfold maxLen at hmL
        clear hf ht gB k1 k2
        go_wp2
        go_loop [44] (fun i => ∃ k : Nat, k ≤ L.length ∧ i = .int .i64 (k : Int) ∧ Hid (sizedB size (L.take k) = true)) (fun i => L.length - (intOf i).toNat)
        case atStart => exact ⟨0, Nat.zero_le _, rfl, rfl⟩
        case round =>
          obtain ⟨k, hk, rfl, hS⟩ := hrel
          by_cases hkl : k < L.length
          · obtain ⟨b, o, rfl⟩ := hP.addr (by omega)
            obtain ⟨q, kc, l, hl, c1, h1⟩ := hP.get k hkl
            have hkl2 : (k : Int) < (L.length : Int) := by omega
            by_cases hz : (l.length : Int) = size
            · have HN : Hid (sizedB size (L.take (k + 1)) = true) := by
                show sizedB _ _ = true
                rw [List.take_add_one, hl.out]
                show sizedB size (L.take k ++ [l]) = true
                rw [sized_snoc, hS.out]
                simpa using hz
              have hne : ((l.length : Int) != size) = false := by simpa using hz
              clear hl h1 hS hz
              go_wp2
              go_round
              case rel => first | exact ⟨k + 1, by omega, by go_num, HN⟩ | ((repeat apply Exists.intro); exact ⟨⟨k + 1, by omega, by go_num, HN⟩, rfl⟩)
              case measure => simp [intOf]; omega
            · have HB : Hid (shpB size idx ls ps = false) := Hf.out (sized_no size L k l hl.out hz)
              have hne : ((l.length : Int) != size) = true := by simpa using hz
              clear hl h1 hS hz
              go_wp2
              go_ret
              rw [HB.out]
              exact ⟨rfl, HF.out⟩
          · obtain rfl : k = L.length := by omega
            have HT := (show Hid _ from Ht.out (by have := hS.out; rwa [List.take_length] at this))
            have hnk : ¬ (L.length : Int) < (L.length : Int) := by omega
            clear hS Ht Hf
            go_wp2
            go_round
            case rel => first | exact ⟨n + 1, by omega, by go_num, HT⟩ | ((repeat apply Exists.intro); exact ⟨⟨n + 1, by omega, by go_num, HT⟩, rfl⟩)
            case measure => simp [intOf]; omega
      · obtain rfl : n = 2 := by omega
        have HB : Hid (shpB size idx ls ps = true) := by
          show shpB _ _ _ _ = true
          rw [HR.out, hI.out.1 (by omega), hI.out.2 (by omega)]
          rfl
        clear gB k1 k2
        go_wp2
        go_ret
        rw [HB.out]
        exact ⟨rfl, HF.out⟩

end Go.Proofs.YtkgoiemnhhdlbaaDoor
