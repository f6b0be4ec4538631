/- What this text proves: the walk of sha.pad over this program: what is mixed behind the whole blocks of a text. -/
import Derived.Test.YtcgpgnajmfemhaaGreatDoorJBlocks
import Derived.Test.YtcgpgnajmfemhaaGreatDoorJOw
namespace Go.Proofs.YtcgpgnajmfemhaaGreatDoor
open Go.RowKit

set_option maxRecDepth 100000 in
set_option maxHeartbeats 1000000 in
theorem pad_any (v : Value) (r : List UInt8) (n : Nat) (w : World) (h : HB w v r) (hr : r.length < 64) (hn : n ≤ 1152921504606846976) :
    Calls Tryz.prog 159 #[v, .int .i64 (n : Int)] w fun e w' => e = .returned (.slice (some ⟨w.heap.size, 0, none⟩) (64 * blocks r.length) (64 * blocks r.length)) ∧ HB w' (.slice (some ⟨w.heap.size, 0, none⟩) (64 * blocks r.length) (64 * blocks r.length)) (padL r (64 * blocks r.length) (8 * n) 8) ∧ Below w.heap.size w w' := by
  obtain ⟨p, c, rfl⟩ := h.shape
  obtain ⟨i0, hi, hz0, hz1, hz2⟩ := info_parts i_u8
  obtain ⟨N, hN⟩ : ∃ N, N = 64 * blocks r.length := ⟨_, rfl⟩
  have hb1 : blocks r.length = (r.length + 72) / 64 := rfl
  have hN1 : r.length + 9 ≤ N := by omega
  have hN2 : N ≤ 128 := by omega
  have hB : (blocks r.length : Int) ≤ 2 := by omega
  have hN3 : (64 : Int) * (blocks r.length : Int) = (N : Int) := by omega
  rw [← hN]
  have HN : Hid (N = 64 * blocks r.length) := hN
  clear hN hb1
  go_enter Tryz.func159, Tryz.ntmps159
  go_wp2_with fail
  refine (blocks_any r.length _ (by omega)).mono ?_
  rintro e w' ⟨rfl, hw⟩
  have hw2 := hw.symm
  subst hw2
  clear hw
  go_wp2_with (at_make; refine wpList_make_full _ rfl _ _ 37 rfl w.heap.size 5 i0 (.int .u8 0) 1 Tryz.underlying37 hi hz0 hz1 .i64 .i64 _ _ N rfl rfl ?qa ?qb ?qc ?qd ?qe ?_)
  all_goals (try (first | omega | (unfold maxLen; omega) | (rw [hz2]; omega)))
  intro w1 hown1 hgrow1
  have hb1 : Below w.heap.size w w1 := (Below.refl _ w).grown hgrow1 (Nat.le_refl _) (by intro k hk; cases hk)
  have hown1' : w1.ownsRow w.heap.size 5 1 (.slice (some ⟨w.heap.size, 0, none⟩) N N) N (bcs (List.replicate N 0)) := by
    rw [← made_bcs]
    simpa using hown1
  have hs1 := h.later hb1
  clear hown1 hgrow1
  go_wp2_with (refine wpList_copy_front rfl (.tmp 13) (.tmp 14) 37 37 rfl 5 Tryz.underlying37 s_u8 w.heap.size N _ _ _ rfl rfl w.heap.size _ hown1' r hs1 ?ra ?_)
  case ra => omega
  intro w2 hown2 hgrow2
  have hb2 : Below w.heap.size w w2 := hb1.grown hgrow2 hb1.size (by intro k hk; cases hk; exact Nat.le_refl _)
  have hown3 : w2.ownsRow w.heap.size 5 1 (.slice (some ⟨w.heap.size, 0, none⟩) N N) N (bcs (r ++ List.replicate (N - r.length) 0)) := by
    rw [bcs_append]
    rw [bcs_drop] at hown2
    simpa using hown2
  have q1 : w2.cell? ⟨w.heap.size, r.length, none⟩ = some (.int .u8 0) := by
    rw [hown3.cellAt r.length (by omega), bcs_get, List.getElem?_append_right (Nat.le_refl _), Nat.sub_self]
    have : 0 < N - r.length := by omega
    simp [this, bc]
  have q2 := hown3.frozenAt r.length
  have hst := owns_put hown3 r.length 128 (.int .u8 128) rfl
  rw [padL_start r N (8 * n) hN1] at hst
  have hb3 := hb2.setCell (p := ⟨w.heap.size, r.length, none⟩) (Nat.le_refl _) (.int .u8 128)
  clear hown1' hown2 hgrow2 hs1 hb1 hown3
  go_wp2
  generalize w2.setCell ⟨w.heap.size, r.length, none⟩ (.int .u8 128) = w3 at *
  clear q1 q2 hb2
  go_loopw [23] (fun i wr => ∃ k : Nat, k ≤ 8 ∧ i = .int .i64 k ∧ wr.ownsRow w.heap.size 5 1 (.slice (some ⟨w.heap.size, 0, none⟩) N N) N (bcs (padL r N (8 * n) k)) ∧ Below w.heap.size w wr)
    (fun i _ => 8 - (intOf i).toNat)
  case atStart => exact ⟨0, Nat.zero_le _, rfl, hst, hb3⟩
  case round =>
    clear hst hb3
    obtain ⟨k, hk, rfl, hown, hbe⟩ := hrel
    by_cases hlt : k < 8
    · have hlen := padL_length r N (8 * n) k hN1 hk
      obtain ⟨y, q1⟩ : ∃ y : UInt8, wr.cell? ⟨w.heap.size, N - 1 - k, none⟩ = some (.int .u8 (y.toNat : Int)) := by
        have hl : N - 1 - k < (padL r N (8 * n) k).length := by omega
        refine ⟨(padL r N (8 * n) k)[N - 1 - k], ?_⟩
        rw [hown.cellAt _ (by omega), bcs_get, List.getElem?_eq_getElem hl]
        rfl
      have q2 := hown.frozenAt (N - 1 - k)
      clear hlen
      go_wp2
      have hv : Value.int .u8 ((n : Int) * 8 / 2 ^ (8 * k) % 256) = bc (UInt8.ofNat (8 * n / 2 ^ (8 * k))) := by
        unfold bc
        rw [show (n : Int) * 8 / 2 ^ (8 * k) % 256 = ((8 * n / 2 ^ (8 * k) % 256 : Nat) : Int) by rw [Nat.mul_comm 8 n]; simp]
        simp
      have hst := owns_put hown (N - 1 - k) _ _ hv
      rw [padL_step r N (8 * n) k hN1 hlt] at hst
      exact ⟨⟨k + 1, by omega, by go_num, hst, hbe.setCell (Nat.le_refl _) _⟩, by simp [intOf]; omega⟩
    · have hk8 : k = 8 := by omega
      subst hk8
      have hh := HB.of_owns hown
      go_wp2
      go_ret
      exact ⟨rfl, hh, hbe⟩

end Go.Proofs.YtcgpgnajmfemhaaGreatDoor
