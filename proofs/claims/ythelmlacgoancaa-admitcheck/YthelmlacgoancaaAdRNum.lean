/- What this text proves: the walks of the document's numbers of parameters (annalsref15) over this program. (By program: mkadnum.py.) -/
import Derived.Test.YthelmlacgoancaaAdNum
import Derived.Test.YthelmlacgoancaaAdRMay
namespace Go.Proofs.Ythelmlacgoancaa
open Go.RowKit

theorem rwithinB (n lo hi : Int) (w : World) : Calls Try.prog 29 #[.int .i64 n, .int .i64 lo, .int .i64 hi] w fun x w' => x = .returned (.bool (decide (lo ≤ n ∧ n ≤ hi))) ∧ Below w.heap.size w w' := (rwithin_any n lo hi w).mono fun _ _ ⟨e, hw⟩ => ⟨e, hw ▸ Below.refl _ _⟩

set_option maxRecDepth 100000 in
set_option maxHeartbeats 4000000 in
theorem rdeep_any (s h mi mk ch ar ca pg : Int) (w : World) : Calls Try.prog 10 #[.agg #[.int .i64 s, .int .i64 h, .int .i64 mi, .int .i64 mk, .int .i64 ch, .int .i64 ar, .int .i64 ca, .int .i64 pg]] w fun x w' => x = .returned (.int .i64 (deepV s h mi mk ch ca pg)) ∧ Below w.heap.size w w' := by
  have b0 := (Below.refl w.heap.size w).alloc (Nat.le_refl _) (.cells #[.int .i64 s, .int .i64 h, .int .i64 mi, .int .i64 mk, .int .i64 ch, .int .i64 ar, .int .i64 ca, .int .i64 pg] 23)
  have g0 := heap_alloc_new w (.cells #[.int .i64 s, .int .i64 h, .int .i64 mi, .int .i64 mk, .int .i64 ch, .int .i64 ar, .int .i64 ca, .int .i64 pg] 23)
  obtain ⟨V, hV⟩ : ∃ V, w.alloc (.cells #[.int .i64 s, .int .i64 h, .int .i64 mi, .int .i64 mk, .int .i64 ch, .int .i64 ar, .int .i64 ca, .int .i64 pg] 23) = V := ⟨_, rfl⟩
  rw [hV] at b0 g0
  have hlt : w.heap.size < V.heap.size := (Array.getElem?_eq_some_iff.1 g0).1
  obtain ⟨q0, q1, q2, q3, q4, q5, q6, q7⟩ := par_cells g0
  go_enter Try.func10, Try.ntmps10
  go_wp2_with (go_at_call 28; refine (two_of (rmay_any s h mi mk ch ar ca pg _)).mono ?_; rintro e w1 ⟨b, rfl, hd, hb1⟩; have gW := (hb1.block _ hlt).trans g0; obtain ⟨p0, p1, p2, p3, p4, p5, p6, p7⟩ := par_cells gW; have hb := b0.trans (hb1.mono b0.size); have hs1 := hb1.size; rcases hd with ⟨rfl, hm⟩ | ⟨rfl, hm⟩)
  · go_ret
    refine ⟨?_, hb⟩
    have hm := hm.out
    rw [show deepV s h mi mk ch ca pg = 8 * (mi + 1) from if_pos hm]
    unfold mayP at hm
    show Ending.returned (.int .i64 _) = _
    congr 2
    simp only [wrap64]
    omega
  · go_ret
    exact ⟨by rw [show deepV s h mi mk ch ca pg = 0 from if_neg hm.out]; rfl, hb⟩

set_option maxRecDepth 100000 in
set_option maxHeartbeats 4000000 in
theorem reach_any (s h mi mk ch ar ca pg : Int) (w : World) : Calls Try.prog 12 #[.agg #[.int .i64 s, .int .i64 h, .int .i64 mi, .int .i64 mk, .int .i64 ch, .int .i64 ar, .int .i64 ca, .int .i64 pg]] w fun x w' => x = .returned (.int .i64 (eachV s h mi mk ch ca pg)) ∧ Below w.heap.size w w' := by
  have b0 := (Below.refl w.heap.size w).alloc (Nat.le_refl _) (.cells #[.int .i64 s, .int .i64 h, .int .i64 mi, .int .i64 mk, .int .i64 ch, .int .i64 ar, .int .i64 ca, .int .i64 pg] 23)
  have g0 := heap_alloc_new w (.cells #[.int .i64 s, .int .i64 h, .int .i64 mi, .int .i64 mk, .int .i64 ch, .int .i64 ar, .int .i64 ca, .int .i64 pg] 23)
  obtain ⟨V, hV⟩ : ∃ V, w.alloc (.cells #[.int .i64 s, .int .i64 h, .int .i64 mi, .int .i64 mk, .int .i64 ch, .int .i64 ar, .int .i64 ca, .int .i64 pg] 23) = V := ⟨_, rfl⟩
  rw [hV] at b0 g0
  have hlt : w.heap.size < V.heap.size := (Array.getElem?_eq_some_iff.1 g0).1
  obtain ⟨q0, q1, q2, q3, q4, q5, q6, q7⟩ := par_cells g0
  go_enter Try.func12, Try.ntmps12
  go_wp2_with (first | (go_at_call 28; refine (two_of (rmay_any s h mi mk ch ar ca pg _)).mono ?_; rintro e w1 ⟨b, rfl, hd, hb1⟩; have gW := (hb1.block _ hlt).trans g0; obtain ⟨p0, p1, p2, p3, p4, p5, p6, p7⟩ := par_cells gW; have hb := b0.trans (hb1.mono b0.size); have hs1 := hb1.size; rcases hd with ⟨rfl, hm⟩ | ⟨rfl, hm⟩) | (go_at_call 10; refine (rdeep_any s h mi mk ch ar ca pg _).mono ?_; rintro e w2 ⟨rfl, hb2⟩; have hb3 := hb.trans (hb2.mono hb.size)))
  · go_ret
    refine ⟨?_, hb3⟩
    have hm := hm.out
    rw [show eachV s h mi mk ch ca pg = 8 * (mi + 1) + 2 from if_pos hm, show deepV s h mi mk ch ca pg = 8 * (mi + 1) from if_pos hm]
    unfold mayP at hm
    show Ending.returned (.int .i64 _) = _
    congr 2
    simp only [wrap64]
    omega
  · go_ret
    exact ⟨by rw [show eachV s h mi mk ch ca pg = 0 from if_neg hm.out]; rfl, hb⟩

set_option maxRecDepth 100000 in
set_option maxHeartbeats 4000000 in
theorem rneed_any (s h mi mk ch ar ca pg : Int) (w : World) : Calls Try.prog 14 #[.agg #[.int .i64 s, .int .i64 h, .int .i64 mi, .int .i64 mk, .int .i64 ch, .int .i64 ar, .int .i64 ca, .int .i64 pg]] w fun x w' => x = .returned (.int .i64 (needV s h mi mk ch ca pg)) ∧ Below w.heap.size w w' := by
  have b0 := (Below.refl w.heap.size w).alloc (Nat.le_refl _) (.cells #[.int .i64 s, .int .i64 h, .int .i64 mi, .int .i64 mk, .int .i64 ch, .int .i64 ar, .int .i64 ca, .int .i64 pg] 23)
  have g0 := heap_alloc_new w (.cells #[.int .i64 s, .int .i64 h, .int .i64 mi, .int .i64 mk, .int .i64 ch, .int .i64 ar, .int .i64 ca, .int .i64 pg] 23)
  obtain ⟨V, hV⟩ : ∃ V, w.alloc (.cells #[.int .i64 s, .int .i64 h, .int .i64 mi, .int .i64 mk, .int .i64 ch, .int .i64 ar, .int .i64 ca, .int .i64 pg] 23) = V := ⟨_, rfl⟩
  rw [hV] at b0 g0
  have hlt : w.heap.size < V.heap.size := (Array.getElem?_eq_some_iff.1 g0).1
  obtain ⟨q0, q1, q2, q3, q4, q5, q6, q7⟩ := par_cells g0
  go_enter Try.func14, Try.ntmps14
  go_wp2_with (go_at_call 28; refine (two_of (rmay_any s h mi mk ch ar ca pg _)).mono ?_; rintro e w1 ⟨b, rfl, hd, hb1⟩; have gW := (hb1.block _ hlt).trans g0; obtain ⟨p0, p1, p2, p3, p4, p5, p6, p7⟩ := par_cells gW; have hb := b0.trans (hb1.mono b0.size); have hs1 := hb1.size; rcases hd with ⟨rfl, hm⟩ | ⟨rfl, hm⟩)
  · have hd1 : Below w1.heap.size w1 w1.drew := (Below.refl _ _).drew
    have g1 := (hd1.block _ (by omega)).trans gW
    clear q0 q1 q2 q3 q4 q5 q6 q7 hV gW g0
    go_region_held3 (fun w' => w'.cell? ⟨w.heap.size, 0, none⟩ = some (.int .i64 s) ∧ w'.cell? ⟨w.heap.size, 1, none⟩ = some (.int .i64 h) ∧ w'.cell? ⟨w.heap.size, 2, none⟩ = some (.int .i64 mi) ∧ w'.cell? ⟨w.heap.size, 3, none⟩ = some (.int .i64 mk) ∧ w'.cell? ⟨w.heap.size, 4, none⟩ = some (.int .i64 ch) ∧ w'.cell? ⟨w.heap.size, 5, none⟩ = some (.int .i64 ar) ∧ w'.cell? ⟨w.heap.size, 6, none⟩ = some (.int .i64 ca) ∧ w'.cell? ⟨w.heap.size, 7, none⟩ = some (.int .i64 pg)) (first | exact ⟨p0, p1, p2, p3, p4, p5, p6, p7⟩ | exact hS2 | exact ⟨by simpa using p0, by simpa using p1, by simpa using p2, by simpa using p3, by simpa using p4, by simpa using p5, by simpa using p6, by simpa using p7⟩) (first
      | (go_at_call 12; refine (reach_any s h mi mk ch ar ca pg _).mono ?_; rintro e w2 ⟨rfl, hb2⟩; have hb3 := hb.trans ((hd1.trans (hb2.mono (by simp))).mono hb.size); have hS2 := par_cells ((hb2.block _ (by simp; omega)).trans g1)))
    go_wp2
    go_ret
    refine ⟨?_, hb3⟩
    have hm := hm.out
    rw [show needV s h mi mk ch ca pg = (2 + ca) * ch * (8 * (mi + 1) + 2) + 1 from if_pos hm, show eachV s h mi mk ch ca pg = 8 * (mi + 1) + 2 from if_pos hm]
    unfold mayP at hm
    obtain ⟨a1, a2, a3, a4⟩ := mul_small ch ca mi (by omega) (by omega) (by omega) (by omega) (by omega) (by omega)
    show Ending.returned (.int .i64 (IntKind.i64.wrap (IntKind.i64.wrap (IntKind.i64.wrap (IntKind.i64.wrap (2 + ca) * ch) * (8 * (mi + 1) + 2)) + 1))) = _
    rw [wrapZ (2 + ca) (by omega) (by omega), wrapZ ((2 + ca) * ch) (by omega) (by omega), wrapZ ((2 + ca) * ch * (8 * (mi + 1) + 2)) (by omega) (by omega), wrapZ _ (by omega) (by omega)]
  · go_ret
    exact ⟨by rw [show needV s h mi mk ch ca pg = 0 from if_neg hm.out]; rfl, hb⟩

set_option maxRecDepth 100000 in
set_option maxHeartbeats 4000000 in
theorem repochs_any (s h mi mk ch ar ca pg : Int) (w : World) : Calls Try.prog 16 #[.agg #[.int .i64 s, .int .i64 h, .int .i64 mi, .int .i64 mk, .int .i64 ch, .int .i64 ar, .int .i64 ca, .int .i64 pg]] w fun x w' => x = .returned (.int .i64 (epochsV s h mi mk ch ca pg)) ∧ Below w.heap.size w w' := by
  have b0 := (Below.refl w.heap.size w).alloc (Nat.le_refl _) (.cells #[.int .i64 s, .int .i64 h, .int .i64 mi, .int .i64 mk, .int .i64 ch, .int .i64 ar, .int .i64 ca, .int .i64 pg] 23)
  have g0 := heap_alloc_new w (.cells #[.int .i64 s, .int .i64 h, .int .i64 mi, .int .i64 mk, .int .i64 ch, .int .i64 ar, .int .i64 ca, .int .i64 pg] 23)
  obtain ⟨V, hV⟩ : ∃ V, w.alloc (.cells #[.int .i64 s, .int .i64 h, .int .i64 mi, .int .i64 mk, .int .i64 ch, .int .i64 ar, .int .i64 ca, .int .i64 pg] 23) = V := ⟨_, rfl⟩
  rw [hV] at b0 g0
  have hlt : w.heap.size < V.heap.size := (Array.getElem?_eq_some_iff.1 g0).1
  obtain ⟨q0, q1, q2, q3, q4, q5, q6, q7⟩ := par_cells g0
  go_enter Try.func16, Try.ntmps16
  go_wp2_with ((go_at_call 28; refine (two_of (rmay_any s h mi mk ch ar ca pg _)).mono ?_; rintro e w1 ⟨b, rfl, hd, hb1⟩; have gW := (hb1.block _ hlt).trans g0; obtain ⟨p0, p1, p2, p3, p4, p5, p6, p7⟩ := par_cells gW; have hb := b0.trans (hb1.mono b0.size); have hs1 := hb1.size; rcases hd with ⟨rfl, hm⟩ | ⟨rfl, hm⟩); have hh0 := hm.out.2.1.1)
  · go_ret
    refine ⟨?_, hb⟩
    have hm := hm.out
    rw [show epochsV s h mi mk ch ca pg = 2 ^ h.toNat from if_pos hm]
    show Ending.returned (.int .i64 (wrap64 (2 ^ min h.toNat 64))) = _
    rw [pow_small h hm.2.1.1 hm.2.1.2]
  · go_ret
    exact ⟨by rw [show epochsV s h mi mk ch ca pg = 0 from if_neg hm.out]; rfl, hb⟩

set_option maxRecDepth 100000 in
set_option maxHeartbeats 4000000 in
theorem rsect_any (s h mi mk ch ar ca pg : Int) (w : World) : Calls Try.prog 18 #[.agg #[.int .i64 s, .int .i64 h, .int .i64 mi, .int .i64 mk, .int .i64 ch, .int .i64 ar, .int .i64 ca, .int .i64 pg]] w fun x w' => x = .returned (.int .i64 (sectV s h mi mk ch ca pg)) ∧ Below w.heap.size w w' := by
  have b0 := (Below.refl w.heap.size w).alloc (Nat.le_refl _) (.cells #[.int .i64 s, .int .i64 h, .int .i64 mi, .int .i64 mk, .int .i64 ch, .int .i64 ar, .int .i64 ca, .int .i64 pg] 23)
  have g0 := heap_alloc_new w (.cells #[.int .i64 s, .int .i64 h, .int .i64 mi, .int .i64 mk, .int .i64 ch, .int .i64 ar, .int .i64 ca, .int .i64 pg] 23)
  obtain ⟨V, hV⟩ : ∃ V, w.alloc (.cells #[.int .i64 s, .int .i64 h, .int .i64 mi, .int .i64 mk, .int .i64 ch, .int .i64 ar, .int .i64 ca, .int .i64 pg] 23) = V := ⟨_, rfl⟩
  rw [hV] at b0 g0
  have hlt : w.heap.size < V.heap.size := (Array.getElem?_eq_some_iff.1 g0).1
  obtain ⟨q0, q1, q2, q3, q4, q5, q6, q7⟩ := par_cells g0
  go_enter Try.func18, Try.ntmps18
  go_wp2_with (go_at_call 28; refine (two_of (rmay_any s h mi mk ch ar ca pg _)).mono ?_; rintro e w1 ⟨b, rfl, hd, hb1⟩; have gW := (hb1.block _ hlt).trans g0; obtain ⟨p0, p1, p2, p3, p4, p5, p6, p7⟩ := par_cells gW; have hb := b0.trans (hb1.mono b0.size); have hs1 := hb1.size; rcases hd with ⟨rfl, hm⟩ | ⟨rfl, hm⟩)
  · go_ret
    refine ⟨?_, hb⟩
    have hm := hm.out
    rw [show sectV s h mi mk ch ca pg = 5 + ch * (1 + (91 + mi + mk) / 64) from if_pos hm]
    unfold mayP at hm
    obtain ⟨a1, a2, a3, a4⟩ := sect_small ch mi mk (by omega) (by omega) (by omega) (by omega) (by omega) (by omega)
    show Ending.returned (.int .i64 (wrap64 (5 + wrap64 (ch * wrap64 (wrap64 ((wrap64 (wrap64 (91 + mi) + mk)).tdiv 64) + 1))))) = _
    rw [w64 (91 + mi) (by omega) (by omega), w64 (91 + mi + mk) (by omega) (by omega), Int.tdiv_eq_ediv_of_nonneg (by omega), w64 ((91 + mi + mk) / 64) (by omega) (by omega), Int.add_comm ((91 + mi + mk) / 64) 1, w64 (1 + (91 + mi + mk) / 64) (by omega) (by omega), w64 (ch * (1 + (91 + mi + mk) / 64)) (by omega) (by omega), w64 (5 + ch * (1 + (91 + mi + mk) / 64)) (by omega) (by omega)]
  · go_ret
    exact ⟨by rw [show sectV s h mi mk ch ca pg = 0 from if_neg hm.out]; rfl, hb⟩

set_option maxRecDepth 100000 in
set_option maxHeartbeats 4000000 in
theorem rchk_any (s h mi mk ch ar ca pg : Int) (w : World) : Calls Try.prog 8 #[.agg #[.int .i64 s, .int .i64 h, .int .i64 mi, .int .i64 mk, .int .i64 ch, .int .i64 ar, .int .i64 ca, .int .i64 pg]] w fun x w' => x = .returned (.int .i64 (chkV s h mi mk ch ar ca pg)) ∧ Below w.heap.size w w' := by
  have b0 := (Below.refl w.heap.size w).alloc (Nat.le_refl _) (.cells #[.int .i64 s, .int .i64 h, .int .i64 mi, .int .i64 mk, .int .i64 ch, .int .i64 ar, .int .i64 ca, .int .i64 pg] 23)
  have g0 := heap_alloc_new w (.cells #[.int .i64 s, .int .i64 h, .int .i64 mi, .int .i64 mk, .int .i64 ch, .int .i64 ar, .int .i64 ca, .int .i64 pg] 23)
  obtain ⟨V, hV⟩ : ∃ V, w.alloc (.cells #[.int .i64 s, .int .i64 h, .int .i64 mi, .int .i64 mk, .int .i64 ch, .int .i64 ar, .int .i64 ca, .int .i64 pg] 23) = V := ⟨_, rfl⟩
  rw [hV] at b0 g0
  have hlt : w.heap.size < V.heap.size := (Array.getElem?_eq_some_iff.1 g0).1
  obtain ⟨q0, q1, q2, q3, q4, q5, q6, q7⟩ := par_cells g0
  have hN := fun W => rneed_any s h mi mk ch ar ca pg W
  obtain ⟨N, hNN⟩ : ∃ N, N = needV s h mi mk ch ca pg := ⟨_, rfl⟩
  rw [← hNN] at hN
  have HN := (show Hid _ from hNN)
  clear hNN
  have hfin : ar < N ∨ ¬ ar < N := Decidable.em _
  rcases hfin with hn | hn
  · go_enter Try.func8, Try.ntmps8
    go_wp2_with (first | (go_at_call 28; refine (two_of (rmay_any s h mi mk ch ar ca pg _)).mono ?_; rintro e w1 ⟨b, rfl, hd, hb1⟩; have gW := (hb1.block _ hlt).trans g0; obtain ⟨p0, p1, p2, p3, p4, p5, p6, p7⟩ := par_cells gW; have hb := b0.trans (hb1.mono b0.size); have hs1 := hb1.size; rcases hd with ⟨rfl, hm⟩ | ⟨rfl, hm⟩) | (go_at_call 29; refine (two_of (rwithinB ar 1 4194304 _)).mono ?_; rintro e w2 ⟨b, rfl, hd, hb2⟩; have gW2 := (hb2.block _ (by omega)).trans gW; obtain ⟨p0, p1, p2, p3, p4, p5, p6, p7⟩ := par_cells gW2; have hb3 := hb.trans (hb2.mono hb.size); have hs2 := hb2.size; rcases hd with ⟨rfl, ha⟩ | ⟨rfl, ha⟩))
    · have hd1 : Below w2.heap.size w2 w2.drew := (Below.refl _ _).drew
      have g1 := (hd1.block _ (by omega)).trans gW2
      clear q0 q1 q2 q3 q4 q5 q6 q7 hV gW g0
      go_region_held3 (fun w' => w'.cell? ⟨w.heap.size, 0, none⟩ = some (.int .i64 s) ∧ w'.cell? ⟨w.heap.size, 1, none⟩ = some (.int .i64 h) ∧ w'.cell? ⟨w.heap.size, 2, none⟩ = some (.int .i64 mi) ∧ w'.cell? ⟨w.heap.size, 3, none⟩ = some (.int .i64 mk) ∧ w'.cell? ⟨w.heap.size, 4, none⟩ = some (.int .i64 ch) ∧ w'.cell? ⟨w.heap.size, 5, none⟩ = some (.int .i64 ar) ∧ w'.cell? ⟨w.heap.size, 6, none⟩ = some (.int .i64 ca) ∧ w'.cell? ⟨w.heap.size, 7, none⟩ = some (.int .i64 pg)) (first | exact ⟨p0, p1, p2, p3, p4, p5, p6, p7⟩ | exact hS2 | exact ⟨by simpa using p0, by simpa using p1, by simpa using p2, by simpa using p3, by simpa using p4, by simpa using p5, by simpa using p6, by simpa using p7⟩) (first
        | (go_at_call 14; refine (hN _).mono ?_; rintro e w3 ⟨rfl, hb4⟩; have hb5 := hb3.trans ((hd1.trans (hb4.mono (by simp))).mono hb3.size); have hS2 := par_cells ((hb4.block _ (by simp; omega)).trans g1)))
      go_wp2
      go_ret
      refine ⟨?_, hb5⟩
      rw [show chkV s h mi mk ch ar ca pg = 4 by unfold chkV; rw [if_pos ⟨hm.out, ha.out⟩, ← HN.out]; exact if_pos (by omega)]
      rfl
    · go_ret
      refine ⟨?_, hb3⟩
      rw [show chkV s h mi mk ch ar ca pg = 1 from if_neg fun q => ha.out q.2]
      rfl
    · go_ret
      refine ⟨?_, hb⟩
      rw [show chkV s h mi mk ch ar ca pg = 1 from if_neg fun q => hm.out q.1]
      rfl
  · go_enter Try.func8, Try.ntmps8
    go_wp2_with (first | (go_at_call 28; refine (two_of (rmay_any s h mi mk ch ar ca pg _)).mono ?_; rintro e w1 ⟨b, rfl, hd, hb1⟩; have gW := (hb1.block _ hlt).trans g0; obtain ⟨p0, p1, p2, p3, p4, p5, p6, p7⟩ := par_cells gW; have hb := b0.trans (hb1.mono b0.size); have hs1 := hb1.size; rcases hd with ⟨rfl, hm⟩ | ⟨rfl, hm⟩) | (go_at_call 29; refine (two_of (rwithinB ar 1 4194304 _)).mono ?_; rintro e w2 ⟨b, rfl, hd, hb2⟩; have gW2 := (hb2.block _ (by omega)).trans gW; obtain ⟨p0, p1, p2, p3, p4, p5, p6, p7⟩ := par_cells gW2; have hb3 := hb.trans (hb2.mono hb.size); have hs2 := hb2.size; rcases hd with ⟨rfl, ha⟩ | ⟨rfl, ha⟩))
    · have hd1 : Below w2.heap.size w2 w2.drew := (Below.refl _ _).drew
      have g1 := (hd1.block _ (by omega)).trans gW2
      clear q0 q1 q2 q3 q4 q5 q6 q7 hV gW g0
      go_region_held3 (fun w' => w'.cell? ⟨w.heap.size, 0, none⟩ = some (.int .i64 s) ∧ w'.cell? ⟨w.heap.size, 1, none⟩ = some (.int .i64 h) ∧ w'.cell? ⟨w.heap.size, 2, none⟩ = some (.int .i64 mi) ∧ w'.cell? ⟨w.heap.size, 3, none⟩ = some (.int .i64 mk) ∧ w'.cell? ⟨w.heap.size, 4, none⟩ = some (.int .i64 ch) ∧ w'.cell? ⟨w.heap.size, 5, none⟩ = some (.int .i64 ar) ∧ w'.cell? ⟨w.heap.size, 6, none⟩ = some (.int .i64 ca) ∧ w'.cell? ⟨w.heap.size, 7, none⟩ = some (.int .i64 pg)) (first | exact ⟨p0, p1, p2, p3, p4, p5, p6, p7⟩ | exact hS2 | exact ⟨by simpa using p0, by simpa using p1, by simpa using p2, by simpa using p3, by simpa using p4, by simpa using p5, by simpa using p6, by simpa using p7⟩) (first
        | (go_at_call 14; refine (hN _).mono ?_; rintro e w3 ⟨rfl, hb4⟩; have hb5 := hb3.trans ((hd1.trans (hb4.mono (by simp))).mono hb3.size); have hS2 := par_cells ((hb4.block _ (by simp; omega)).trans g1)))
      go_wp2
      go_ret
      refine ⟨?_, hb5⟩
      rw [show chkV s h mi mk ch ar ca pg = 0 by unfold chkV; rw [if_pos ⟨hm.out, ha.out⟩, ← HN.out]; exact if_neg (by omega)]
      rfl
    · go_ret
      refine ⟨?_, hb3⟩
      rw [show chkV s h mi mk ch ar ca pg = 1 from if_neg fun q => ha.out q.2]
      rfl
    · go_ret
      refine ⟨?_, hb⟩
      rw [show chkV s h mi mk ch ar ca pg = 1 from if_neg fun q => hm.out q.1]
      rfl

end Go.Proofs.Ythelmlacgoancaa
