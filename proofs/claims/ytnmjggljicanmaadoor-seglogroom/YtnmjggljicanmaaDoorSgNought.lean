/- What this text proves: the walks of seglog's numberOf, recordOf, standing, wipe over this program, where all is noughts. -/
import Derived.Test.YtnmjggljicanmaaDoorSgSmall
import Derived.Test.YtnmjggljicanmaaDoorEqual
import Derived.RangeFuncNested
import Derived.RangeFuncBound
import Derived.RangeFuncCalls
import Derived.RangeFuncLeaves
import Derived.Shelf.Abstract
import Derived.Shelf.RegionOpen
import Derived.WalkKit
import Derived.OwnWalkIn
import Derived.TacticsInMore
import Derived.LoopNIn
import Derived.LoopIn
namespace Go.Proofs.YtnmjggljicanmaaDoor
open Go.RowKit

set_option maxRecDepth 100000 in
set_option maxHeartbeats 800000 in
theorem numOf_zero (k c : Nat) (p : Option Addr) (w : World) (h : HB w (.slice p k c) (List.replicate k 0)) : Calls Tryd.prog 42 #[.slice p k c] w fun e w' => e = .returned (.int .i64 0) ∧ w' = w := by
  have hl := h.len
  have hm : k ≤ 9223372036854775807 := by have := hl.2.1; have := hl.2.2.1; unfold maxLen at *; omega
  have hcell : ∀ j, j < k → ∃ b o, p = some ⟨b, o, none⟩ ∧ w.cell? ⟨b, o + j, none⟩ = some (.int .u8 0) := fun j hj => by
    obtain ⟨b, o, e1, e2⟩ := h.addr (by omega)
    exact ⟨b, o, e1, e2 j 0 (by rw [List.getElem?_replicate, if_pos hj])⟩
  clear h hl
  go_enter Tryd.func42, Tryd.ntmps42
  go_wp2
  go_loopw [3, 8] (fun n i wr => ∃ j : Nat, j ≤ k ∧ n = .int .i64 0 ∧ i = .int .i64 (j : Int) ∧ wr = w) (fun _ i _ => k - (RowKit.intOf i).toNat)
  case atStart => exact ⟨0, Nat.zero_le _, rfl, rfl, rfl⟩
  case round =>
    obtain ⟨j, hj, rfl, rfl, rfl⟩ := hrel
    by_cases hlt : j < k
    · obtain ⟨b, o, rfl, hc⟩ := hcell j hlt
      clear hcell
      go_wp2
      go_roundw
      case rel => refine ⟨j + 1, by omega, ?_, by go_num, trivial⟩; kernel_rfl
      case measure => simp [RowKit.intOf]; omega
    · obtain rfl : j = k := by omega
      clear hcell
      go_wp2
      go_ret
      exact ⟨rfl, rfl⟩

set_option maxRecDepth 100000 in
set_option maxHeartbeats 800000 in
theorem recOf_zero (g o n c b : Nat) (s : Int) (w : World) (hn : 1 ≤ n) (hnm : n ≤ 16384) (hc : w.cell? ⟨g, o, none⟩ = some (.slice (some ⟨b, 0, none⟩) 64 64)) (hb : HB w (.slice (some ⟨b, 0, none⟩) 64 64) (List.replicate 64 0)) :
    Calls Tryd.prog 33 #[.slice (some ⟨g, o, none⟩) n c, .int .i64 s] w fun e w' => e = .returned (.tuple #[.slice none 0 0, .bool false]) ∧ w' = w := by
  have k1 := fun W => run_cut2 (P := Tryd.prog) Tryd.underlying31 s_u8 (some ⟨b, 0, none⟩) 64 64 8 12 8 12 rfl rfl (by omega) (by omega) W
  have hb4 := hb.cut 8 12 64 (by omega) (by omega) (by omega) (by omega)
  have e4 : ((List.replicate 64 (0 : UInt8)).drop 8).take (12 - 8) = List.replicate 4 0 := by simp
  rw [e4] at hb4
  have hN := numOf_zero 4 56 (cutP (some ⟨b, 0, none⟩) 64 8) w hb4
  have hK := scan_any 0 w
  rw [decide_eq_false (by omega)] at hK
  generalize cutP (some ⟨b, 0, none⟩) 64 8 = q at *
  clear hb hb4 e4
  go_enter Tryd.func33, Tryd.ntmps33
  go_wp2_with (first
    | (go_at_call 42; refine hN.mono ?_; rintro e w1 ⟨rfl, rfl⟩)
    | (go_at_call 20; refine hK.mono ?_; rintro e w2 ⟨rfl, rfl⟩))
  go_ret2
  exact ⟨rfl, rfl⟩

attribute [local go_sem] Oper.semAt_some

theorem run_slice0 (g n c : Nat) (hn : 1 ≤ n) (hc : n ≤ c) (W : World) : (Instr.slice 22 (.slice (some ⟨g, 0, none⟩) n c) (some (.int .i64 0)) none none).run Tryd.prog W = .ok (.slice (some ⟨g, 0, none⟩) n c) W := by
  have h := run_cut (P := Tryd.prog) Tryd.underlying22 s_bytes (some ⟨g, 0, none⟩) n c 0 0 rfl (Nat.zero_le _) W
  rw [h]
  unfold cutP
  rw [if_neg (by omega)]
  simp [Addr.add_lit]

set_option maxRecDepth 100000 in
set_option maxHeartbeats 2000000 in
theorem stand_zero (n B g N b n₀ : Nat) (w : World) (hn1 : 1 ≤ n) (hN : 1 ≤ N) (hNm : N ≤ 16384) (hB : w.cell? ⟨B, 0, none⟩ = some (.slice (some ⟨g, 0, none⟩) N N)) (hc : w.cell? ⟨g, 0, none⟩ = some (.slice (some ⟨b, 0, none⟩) 64 64)) (hb : HB w (.slice (some ⟨b, 0, none⟩) 64 64) (List.replicate 64 0)) :
    SeqStopsK Fence.wide n Tryd.prog 32 #[.pointer (some ⟨B, 0, none⟩)] (fun v : Value => #[v]) (Below n₀) (fun xs => xs = []) (fun _ => False) 0 w := fun l J Jx W hW hJ hJx hY h0 => by
  have hB' := cell_later hW hB
  have hR := recOf_zero g 0 N N b 1 W hN hNm (cell_later hW hc) (hb.later hW)
  have k1 := fun X => run_slice0 g N N hN (Nat.le_refl _) X
  clear hb hc hB
  refine callsIn_of_wp Tryd.func32 rfl trivial ?_ rfl
  simp only [Tryd.ntmps32, List.size_toArray, List.length_cons, List.length_nil, Nat.reduceAdd, Nat.reduceSub, Array.replicate_succ, Array.replicate_zero, List.push_toArray, List.append_toArray, List.nil_append, List.cons_append]
  gi_wp2
  gi_loopw [3, 4] (fun a s wr => a = .int .i64 0 ∧ s = .int .i64 1 ∧ wr = W) (fun _ _ _ => 0)
  case atStart => exact ⟨rfl, rfl, rfl⟩
  case round =>
    obtain ⟨rfl, rfl, rfl⟩ := hrel
    gi_wp2_with (refine ⟨trivial, ?_⟩; gi_at_call 33; refine (callsIn_wide.2 hR).mono ?_; rintro e w1 ⟨rfl, rfl⟩)
    refine ⟨fun _ h => (by cases h), ?_⟩
    gi_wp2
    refine bodyPost_ret (results_none rfl _ _ _) rfl ?_
    exact ⟨⟨_, rfl⟩, .inl ⟨[], rfl, h0⟩⟩

end Go.Proofs.YtnmjggljicanmaaDoor
