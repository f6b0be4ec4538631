/- What this text proves: the walks of mts.within, mts.lengths, mts.lists and mts.shaped over this program. What this text proves: the walk of mts.shaped over this program: whether both lists have as many hashes as they must, of size bytes each. -/
import Derived.Test.YtdjaemobfbbkoaaDoorJMKeysT
namespace Go.Proofs.YtdjaemobfbbkoaaDoor
open Go.RowKit

theorem pow_wrap (h : Nat) (hh : h ≤ 8) : wrap64 ((2 : Int) ^ h) = ((2 ^ h : Nat) : Int) := by
  have hN : 2 ^ h ≤ 256 := Nat.pow_le_pow_right (by decide) hh (n := 2)
  have e : ((2 : Int) ^ h) = ((2 ^ h : Nat) : Int) := by push_cast; rfl
  rw [e]
  generalize 2 ^ h = N at *
  unfold wrap64
  omega

/-- Whether a tree of that height has a key of that number. -/
def withinB (index : Int) (h : Nat) : Bool := decide (0 ≤ index ∧ index < ((2 ^ h : Nat) : Int))

set_option maxRecDepth 100000 in
set_option maxHeartbeats 1000000 in
theorem within_any (index : Int) (h : Nat) (w : World) (hh : h ≤ 8) :
    Calls Tryd.prog 22 #[.int .i64 index, .int .i64 (h : Int)] w fun e w' => e = .returned (.bool (withinB index h)) ∧ w' = w := by
  have HW : Hid (wrap64 ((2 : Int) ^ h) = ((2 ^ h : Nat) : Int)) := pow_wrap h hh
  have HB : Hid (withinB index h = decide (0 ≤ index ∧ index < ((2 ^ h : Nat) : Int))) := rfl
  generalize withinB index h = B at *
  generalize 2 ^ h = N at *
  have hh2 : (h : Int) ≤ 8 := by omega
  go_enter Tryd.func22, Tryd.ntmps22
  by_cases h1 : 0 ≤ index
  · go_wp2
    rw [HW.out]
    go_ret
    rw [HB.out]
    by_cases h2 : index < (N : Int)
    · simp [h1, h2]
    · simp [h2]
  · have hd : decide (0 ≤ index) = false := by simpa using h1
    have e : B = false := by
      rw [HB.out, decide_eq_false_iff_not]
      omega
    subst e
    go_wp2
    go_ret
    exact ⟨rfl, rfl⟩

set_option maxRecDepth 100000 in
set_option maxHeartbeats 1000000 in
theorem lengths_any (n : Nat) (h : Int) (w : World) (hn : n ≤ 32) :
    Calls Tryd.prog 35 #[.int .i64 (n : Int), .int .i64 h] w fun e w' => e = .returned (.agg #[.int .i64 (4 * (n : Int) + 5), .int .i64 h]) ∧ Below w.heap.size w w' := by
  obtain ⟨i0, hi, hz0, hz1, hz2⟩ := info_parts i_u8
  have b1 := (Below.refl _ w).alloc (Nat.le_refl _) (.cells #[.int .i64 0, .int .i64 0] 81)
  have hsz : (w.alloc (.cells #[.int .i64 0, .int .i64 0] 81)).heap.size = w.heap.size + 1 := by simp
  have g1 : (w.alloc (.cells #[.int .i64 0, .int .i64 0] 81)).heap[w.heap.size]? = some (.cells #[.int .i64 0, .int .i64 0] 81 (0, 0)) := heap_alloc_new w _
  go_enter Tryd.func35, Tryd.ntmps35
  go_wp2_with (first | (at_make; refine wpList_make_full _ rfl _ _ 22 rfl (w.heap.size + 1) 5 i0 (.int .u8 0) 1 Tryd.underlying22 hi hz0 hz1 .i64 .i64 _ _ n rfl rfl ?_ ?_ ?_ ?_ ?_ ?_))
  all_goals (try (first | omega | (unfold maxLen; omega) | (rw [hz2]; omega) | (simp)))
  intro w1 hown1 hgrow1
  rw [made_bcs] at hown1
  have hb1 : Below (w.heap.size + 1) (w.alloc (.cells #[.int .i64 0, .int .i64 0] 81)) w1 := (Below.refl _ _).grown hgrow1 (by omega) (by intro k hk; cases hk)
  have hD := digits_any _ _ w1 (HB.of_owns hown1)
  have HdL : Hid ((digF (List.replicate n 0)).length = 4 * n + 5) := by
    show (digF (List.replicate n 0)).length = 4 * n + 5
    rw [digF_length, List.length_replicate]
    omega
  rw [HdL.out] at hD
  clear hown1 hgrow1
  go_wp2_with fail
  refine hD.mono ?_
  rintro e w2 ⟨v2, rfl, o2, hb2⟩
  obtain ⟨p2, c2, hv2⟩ := owns_shape o2
  subst hv2
  have hb12 := hb1.trans (hb2.mono (by have := hb1.size; omega))
  have hg2 : w2.heap[w.heap.size]? = some (.cells #[.int .i64 0, .int .i64 0] 81 (0, 0)) := by
    rw [hb12.block w.heap.size (by omega)]
    exact g1
  have q0 := cell_of_row w2 w.heap.size 0 _ _ _ hg2
  have q1 := cell_of_row w2 w.heap.size 1 _ _ _ hg2
  have f0 : w2.frozen? ⟨w.heap.size, 0, none⟩ = false := by simp [World.frozen?, hg2]
  have f1 : w2.frozen? ⟨w.heap.size, 1, none⟩ = false := by simp [World.frozen?, hg2]
  simp at q0 q1
  clear o2 hD
  go_wp2
  have hbe : Below w.heap.size w ((w2.setCell ⟨w.heap.size, 0, none⟩ (.int .i64 (4 * (n : Int) + 5))).setCell ⟨w.heap.size, 1, none⟩ (.int .i64 h)) := ((b1.trans (hb12.mono (Nat.le_succ _))).setCell (Nat.le_refl _) _).setCell (Nat.le_refl _) _
  refine bodyPost_ret (v := .agg #[.int .i64 (4 * (n : Int) + 5), .int .i64 h]) ?_ rfl ⟨rfl, hbe⟩
  simp only [results, Tryd.results35]
  go_simp

set_option maxRecDepth 100000 in
set_option maxHeartbeats 1000000 in
theorem lists_any (idx : Int) (p q : Option Addr) (n c m d : Nat) (w : World) :
    Calls Tryd.prog 39 #[.agg #[.int .i64 idx, .slice p n c, .slice q m d]] w fun e w' => e = .returned (.agg #[.slice p n c, .slice q m d]) ∧ Below w.heap.size w w' := by
  have b1 := (Below.refl _ w).alloc (Nat.le_refl _) (.cells #[.int .i64 idx, .slice p n c, .slice q m d] 30)
  have b2 := b1.alloc b1.size (.cells #[.slice p n c, .slice q m d] 83)
  go_enter Tryd.func39, Tryd.ntmps39
  go_wp2
  refine bodyPost_ret (v := .agg #[.slice p n c, .slice q m d]) ?_ rfl ⟨rfl, b2⟩
  simp only [results, Tryd.results39]
  go_simp

end Go.Proofs.YtdjaemobfbbkoaaDoor

namespace Go.Proofs.YtdjaemobfbbkoaaDoor
open Go.RowKit

/-- A list has N rows of n bytes each. -/
def shpB (n N : Nat) (L : List (List UInt8)) : Bool := decide (L.length = N) && L.all fun l => decide (l.length = n)

theorem shpB_len {n N : Nat} {L : List (List UInt8)} (h : L.length ≠ N) : shpB n N L = false := by simp [shpB, h]
theorem shpB_bad {n N k : Nat} {L : List (List UInt8)} {l : List UInt8} (hg : L[k]? = some l) (hl : l.length ≠ n) : shpB n N L = false := by
  simp only [shpB, Bool.and_eq_false_iff, List.all_eq_false]
  exact .inr ⟨l, List.mem_of_getElem? hg, by simpa using hl⟩
theorem shpB_all {n N : Nat} {L : List (List UInt8)} (h : L.length = N) (ha : ∀ l ∈ L, l.length = n) : shpB n N L = true := by
  simp only [shpB, Bool.and_eq_true, decide_eq_true_eq, List.all_eq_true]
  exact ⟨h, ha⟩

theorem run_index2 (a0 a1 : Option Addr) (n0 c0 n1 c1 : Nat) (w : World) : (Instr.index 83 (.agg #[.slice a0 n0 c0, .slice a1 n1 c1]) (.int .i64 0)).run Tryd.prog w = .ok (.slice a0 n0 c0) w ∧ (Instr.index 83 (.agg #[.slice a0 n0 c0, .slice a1 n1 c1]) (.int .i64 1)).run Tryd.prog w = .ok (.slice a1 n1 c1) w := by
  have hu : Tryd.prog.underlying 83 = some (.array 2 28) := Tryd.underlying83
  have hs : (Tryd.prog.info? 28).map (·.size) = some 1 := by kernel_rfl
  obtain ⟨i, hi, hs⟩ := Option.map_eq_some_iff.1 hs
  constructor
  · simp [Instr.index, run_underlying hu, asIntOf, Go.sizeOf, typeInfo, hi, Result.andThen, go_sem]
  · simp [Instr.index, run_underlying hu, asIntOf, Go.sizeOf, typeInfo, hi, hs, Result.andThen, go_sem]

set_option maxRecDepth 100000 in
set_option maxHeartbeats 4000000 in
theorem shaped_any (n h : Nat) (idx : Int) (ca pa : Value) (ls ps : List (List UInt8)) (w : World) (hc : PA w ca ls) (hp : PA w pa ps) (hn : n ≤ 32) (hh : h ≤ 8) :
    Calls Tryd.prog 28 #[.int .i64 (n : Int), .int .i64 (h : Int), .agg #[.int .i64 idx, ca, pa]] w fun e w' => e = .returned (.bool (shpB n (4 * n + 5) ls && shpB n h ps)) ∧ Below w.heap.size w w' := by
  obtain ⟨p, c, rfl⟩ := hc.shape
  obtain ⟨q, d, rfl⟩ := hp.shape
  have hcm := hc.len.2
  have hpm := hp.len.2
  unfold maxLen at hcm hpm
  have hL := fun w' => lengths_any n h w' hn
  have hS := fun w' => lists_any idx p q ls.length c ps.length d w'
  have b1 := (Below.refl _ w).alloc (Nat.le_refl _) (.cells #[.int .i64 idx, .slice p ls.length c, .slice q ps.length d] 30)
  have g1 : (w.alloc (.cells #[.int .i64 idx, .slice p ls.length c, .slice q ps.length d] 30)).heap[w.heap.size]? = some (.cells #[.int .i64 idx, .slice p ls.length c, .slice q ps.length d] 30 (0, 0)) := heap_alloc_new w _
  generalize hBB : (shpB n (4 * n + 5) ls && shpB n h ps) = BB at *
  have HBB : Hid ((shpB n (4 * n + 5) ls && shpB n h ps) = BB) := hBB
  clear hBB
  go_enter Tryd.func28, Tryd.ntmps28
  go_wp2_with fail
  refine (hL _).mono ?_
  rintro e w1 ⟨rfl, hb1⟩
  have hb01 := b1.trans (hb1.mono b1.size)
  have hs1 := hb01.size
  have g2 : w1.heap[w.heap.size]? = some (.cells #[.int .i64 idx, .slice p ls.length c, .slice q ps.length d] 30 (0, 0)) := by
    rw [hb1.block w.heap.size (by simp)]
    exact g1
  have hlt1 : w.heap.size < w1.heap.size := (Array.getElem?_eq_some_iff.1 g2).1
  have b2 := (Below.refl _ w1).alloc (Nat.le_refl _) (.cells #[.int .i64 (4 * (n : Int) + 5), .int .i64 (h : Int)] 81)
  have g3 : (w1.alloc (.cells #[.int .i64 (4 * (n : Int) + 5), .int .i64 (h : Int)] 81)).heap[w.heap.size]? = some (.cells #[.int .i64 idx, .slice p ls.length c, .slice q ps.length d] 30 (0, 0)) := by
    rw [b2.block w.heap.size hlt1]
    exact g2
  have s0 := cell_of_row _ w.heap.size 0 _ _ _ g3
  have s1 := cell_of_row _ w.heap.size 1 _ _ _ g3
  have s2 := cell_of_row _ w.heap.size 2 _ _ _ g3
  have n0 : (w1.alloc (.cells #[.int .i64 (4 * (n : Int) + 5), .int .i64 (h : Int)] 81)).cell? ⟨w1.heap.size, 0, none⟩ = some (.int .i64 (4 * (n : Int) + 5)) := by
    rw [cell_of_row _ _ 0 _ _ _ (heap_alloc_new w1 _)]
    rfl
  have n1 : (w1.alloc (.cells #[.int .i64 (4 * (n : Int) + 5), .int .i64 (h : Int)] 81)).cell? ⟨w1.heap.size, 1, none⟩ = some (.int .i64 (h : Int)) := by
    rw [cell_of_row _ _ 1 _ _ _ (heap_alloc_new w1 _)]
    rfl
  simp at s0 s1 s2
  have hb02 := hb01.alloc hs1 (.cells #[.int .i64 (4 * (n : Int) + 5), .int .i64 (h : Int)] 81)
  clear g1 g2 g3 b1 hb1 b2 hL
  go_wp2_with fail
  generalize w1.alloc (.cells #[.int .i64 (4 * (n : Int) + 5), .int .i64 (h : Int)] 81) = w2 at *
  refine (hS _).mono ?_
  rintro e w3 ⟨rfl, hb3⟩
  have m0 := cell_later hb3 n0
  have m1 := cell_later hb3 n1
  have hb03 := hb02.trans (hb3.mono hb02.size)
  have hc3 := hc.later hb03
  have hp3 := hp.later hb03
  clear s0 s1 s2 n0 n1 hb02 hb3 hS hc hp
  go_wp2
  go_loop [17] (fun i => ∃ k : Nat, k ≤ 2 ∧ i = .int .i64 k ∧ Hid (1 ≤ k → shpB n (4 * n + 5) ls = true) ∧ Hid (2 ≤ k → shpB n h ps = true)) (fun i => 2 - (intOf i).toNat)
  case atStart => exact ⟨0, by omega, rfl, (by intro h; omega), (by intro h; omega)⟩
  case round =>
    obtain ⟨k, hk, rfl, hk1, hk2⟩ := hrel
    have hI := fun n0 n1 w' => run_index2 p q n0 c n1 d w'
    have hI0 := fun n0 n1 w' => (hI n0 n1 w').1
    have hI1 := fun n0 n1 w' => (hI n0 n1 w').2
    clear hI
    rcases (show k = 0 ∨ k = 1 ∨ k = 2 by omega) with rfl | rfl | rfl
    · skip
      by_cases hlen : ls.length = 4 * n + 5
      · have HL : Hid (ls.length = 4 * n + 5) := hlen
        rw [hlen] at hc3 ⊢
        clear hlen
        go_wp2
        go_loop [29] (fun i => ∃ k : Nat, k ≤ 4 * n + 5 ∧ i = .int .i64 k ∧ Hid (∀ l ∈ ls.take k, l.length = n)) (fun i => 4 * n + 5 - (intOf i).toNat)
        case atStart => exact ⟨0, Nat.zero_le _, rfl, (by intro l hl; simp at hl)⟩
        case round =>
          obtain ⟨k, hk, rfl, HA⟩ := hrel
          by_cases hlt : k < 4 * n + 5
          · obtain ⟨b, o, rfl⟩ := hc3.addr (by omega)
            obtain ⟨q6, k6, l, g, ec, hl⟩ := hc3.get k hlt
            have hlt2 : (k : Int) < 4 * (n : Int) + 5 := by omega
            have hlm := hl.len.2
            unfold maxLen at hlm
            by_cases hln : l.length = n
            · have HA2 : Hid (∀ l ∈ ls.take (k + 1), l.length = n) := by
                intro x hx
                rw [List.take_add_one, g.out] at hx
                rcases List.mem_append.1 hx with hx | hx
                · exact HA.out x hx
                · simp at hx; subst hx; exact hln
              rw [hln] at ec hl
              clear hln HA
              go_wp2
              go_round
              case rel => exact ⟨k + 1, by omega, by go_num, HA2⟩
              case measure => simp [intOf]; omega
            · have e1 : BB = false := by
                rw [← HBB.out, shpB_bad (N := 4 * n + 5) g.out hln]
                simp
              subst e1
              have hln2 : ¬ (l.length : Int) = (n : Int) := by omega
              go_wp2
              go_ret
              exact ⟨rfl, hb03⟩
          · obtain rfl : k = 4 * n + 5 := by omega
            have e1 : shpB n (4 * n + 5) ls = true := by
              have := HA.out
              rw [List.take_of_length_le (by rw [HL.out]; omega)] at this
              exact shpB_all HL.out this
            go_wp2
            go_round
            case rel => exact ⟨1, by omega, rfl, (fun _ => e1), (by intro h; omega)⟩
            case measure => simp [intOf]
      · have e1 : BB = false := by
          rw [← HBB.out, shpB_len (n := n) hlen]
          simp
        subst e1
        have hlen2 : ¬ (ls.length : Int) = 4 * (n : Int) + 5 := by omega
        go_wp2
        go_ret
        exact ⟨rfl, hb03⟩
    · skip
      by_cases hlen : ps.length = h
      · have HL : Hid (ps.length = h) := hlen
        rw [hlen] at hp3 ⊢
        clear hlen
        go_wp2
        go_loop [29] (fun i => ∃ k : Nat, k ≤ h ∧ i = .int .i64 k ∧ Hid (∀ l ∈ ps.take k, l.length = n)) (fun i => h - (intOf i).toNat)
        case atStart => exact ⟨0, Nat.zero_le _, rfl, (by intro l hl; simp at hl)⟩
        case round =>
          obtain ⟨k, hk, rfl, HA⟩ := hrel
          by_cases hlt : k < h
          · obtain ⟨b, o, rfl⟩ := hp3.addr (by omega)
            obtain ⟨q6, k6, l, g, ec, hl⟩ := hp3.get k hlt
            have hlt2 : (k : Int) < (h : Int) := by omega
            have hlm := hl.len.2
            unfold maxLen at hlm
            by_cases hln : l.length = n
            · have HA2 : Hid (∀ l ∈ ps.take (k + 1), l.length = n) := by
                intro x hx
                rw [List.take_add_one, g.out] at hx
                rcases List.mem_append.1 hx with hx | hx
                · exact HA.out x hx
                · simp at hx; subst hx; exact hln
              rw [hln] at ec hl
              clear hln HA
              go_wp2
              go_round
              case rel => exact ⟨k + 1, by omega, by go_num, HA2⟩
              case measure => simp [intOf]; omega
            · have e1 : BB = false := by
                rw [← HBB.out, shpB_bad (N := h) g.out hln]
                simp
              subst e1
              have hln2 : ¬ (l.length : Int) = (n : Int) := by omega
              go_wp2
              go_ret
              exact ⟨rfl, hb03⟩
          · obtain rfl : h = k := by omega
            have e1 : shpB n (h) ps = true := by
              have := HA.out
              rw [List.take_of_length_le (by rw [HL.out]; omega)] at this
              exact shpB_all HL.out this
            go_wp2
            go_round
            case rel => exact ⟨2, by omega, rfl, (fun _ => hk1.out (by omega)), (fun _ => e1)⟩
            case measure => simp [intOf]
      · have e1 : BB = false := by
          rw [← HBB.out, shpB_len (n := n) hlen]
          simp
        subst e1
        have hlen2 : ¬ (ps.length : Int) = (h : Int) := by omega
        go_wp2
        go_ret
        exact ⟨rfl, hb03⟩
    · have e1 : BB = true := by rw [← HBB.out, hk1.out (by omega), hk2.out (by omega)]; rfl
      subst e1
      go_wp2
      go_ret
      exact ⟨rfl, hb03⟩

end Go.Proofs.YtdjaemobfbbkoaaDoor
