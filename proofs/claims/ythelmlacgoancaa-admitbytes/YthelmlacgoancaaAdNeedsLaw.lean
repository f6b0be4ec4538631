/- What this text proves: the walk of the statement AdmitNeeds over this program: whatever the parameters, it answers true. (By program: mkadlaw.py.) -/
import Derived.Test.YthelmlacgoancaaAdAwake
import Derived.Test.YthelmlacgoancaaAdRNum
namespace Go.Proofs.Ythelmlacgoancaa
open Go.RowKit

theorem chk_zero {s h mi mk ch ar ca pg : Int} (h0 : chkV s h mi mk ch ar ca pg = 0) : mayP s h mi mk ch ca pg ∧ 1 ≤ ar ∧ ar ≤ 4194304 ∧ needV s h mi mk ch ca pg ≤ ar := by
  unfold chkV at h0
  split at h0
  · rename_i hq
    split at h0
    · cases h0
    · exact ⟨hq.1, hq.2.1, hq.2.2, by omega⟩
  · cases h0

set_option maxRecDepth 100000 in
set_option maxHeartbeats 8000000 in
theorem admitNeeds_walk (s h mi mk ch ar ca pg : Int) (w : World) : Calls Try.prog 6 #[.agg #[.int .i64 s, .int .i64 h, .int .i64 mi, .int .i64 mk, .int .i64 ch, .int .i64 ar, .int .i64 ca, .int .i64 pg]] w fun x w' => x = .returned (.bool true) ∧ Below w.heap.size w w' := by
  have b0 := (Below.refl w.heap.size w).alloc (Nat.le_refl _) (.cells #[.int .i64 s, .int .i64 h, .int .i64 mi, .int .i64 mk, .int .i64 ch, .int .i64 ar, .int .i64 ca, .int .i64 pg] 23)
  have g0 := heap_alloc_new w (.cells #[.int .i64 s, .int .i64 h, .int .i64 mi, .int .i64 mk, .int .i64 ch, .int .i64 ar, .int .i64 ca, .int .i64 pg] 23)
  obtain ⟨V, hV⟩ : ∃ V, w.alloc (.cells #[.int .i64 s, .int .i64 h, .int .i64 mi, .int .i64 mk, .int .i64 ch, .int .i64 ar, .int .i64 ca, .int .i64 pg] 23) = V := ⟨_, rfl⟩
  rw [hV] at b0 g0
  obtain ⟨q0, q1, q2, q3, q4, q5, q6, q7⟩ := par_cells g0
  have H0 := fun W => chk_any s h mi mk ch ar ca pg W
  have H1 := fun W => rchk_any s h mi mk ch ar ca pg W
  by_cases hz : chkV s h mi mk ch ar ca pg = 0
  case neg =>
    obtain ⟨N, hN⟩ : ∃ N, chkV s h mi mk ch ar ca pg = N := ⟨_, rfl⟩
    rw [hN] at H0 H1 hz
    have hz2 : (N == 0) = false := by simpa using hz
    clear hN
    go_enter Try.func6, Try.ntmps6
    go_wp2_with (first
      | (go_at_call 7; refine (H0 _).mono ?_; rintro e w1 ⟨rfl, c1⟩; have hb1 := b0.trans (c1.mono b0.size); have g1 := (c1.block _ (Array.getElem?_eq_some_iff.1 g0).1).trans g0; obtain ⟨p0, p1, p2, p3, p4, p5, p6, p7⟩ := par_cells g1)
      | (go_at_call 8; refine (H1 _).mono ?_; rintro e w2 ⟨rfl, c2⟩; have hb2 := hb1.trans (c2.mono hb1.size))
      | (go_at_call 19; refine (adAwake_any _).mono ?_; rintro e w3 ⟨rfl, c3⟩; have hb3 := hb2.trans (c3.mono hb2.size)))
    go_ret
    exact ⟨by simp, hb3⟩
  case pos =>
    obtain ⟨hm, ha1, ha2, hn⟩ := chk_zero hz
    rw [hz] at H0
    have HE := fun W => each_any s h mi mk ch ar ca pg W
    have HS := fun W => sect_any s h mi mk ch ar ca pg W
    rw [show needV s h mi mk ch ca pg = (2 + ca) * ch * (8 * (mi + 1) + 2) + 1 from if_pos hm] at hn
    rw [show eachV s h mi mk ch ca pg = 8 * (mi + 1) + 2 from if_pos hm] at HE
    rw [show sectV s h mi mk ch ca pg = 5 + ch * (1 + (91 + mi + mk) / 64) from if_pos hm] at HS
    unfold mayP at hm
    obtain ⟨a1, a2, a3, a4⟩ := mul_small ch ca mi (by omega) (by omega) (by omega) (by omega) (by omega) (by omega)
    obtain ⟨d1, d2, d3, d4⟩ := sect_small ch mi mk (by omega) (by omega) (by omega) (by omega) (by omega) (by omega)
    have F : ∃ X E M ME m1 m8 C2 : Int, 8 * (mi + 1) + 2 = E ∧ 5 + ch * (1 + (91 + mi + mk) / 64) = X ∧ IntKind.i64.wrap (2 + ca) = C2 ∧ IntKind.i64.wrap (C2 * ch) = M ∧ IntKind.i64.wrap (M * E) = ME ∧ IntKind.i64.wrap (mi + 1) = m1 ∧ IntKind.i64.wrap (8 * m1) = m8 ∧ IntKind.i64.wrap (m8 + 2) = E ∧ ME < ar ∧ 5 ≤ X ∧ X ≤ 16384 :=
      ⟨_, _, _, _, _, _, _, rfl, rfl, wrapZ (2 + ca) (by omega) (by omega), wrapZ ((2 + ca) * ch) (by omega) (by omega), wrapZ ((2 + ca) * ch * (8 * (mi + 1) + 2)) (by omega) (by omega), wrapZ (mi + 1) (by omega) (by omega), wrapZ (8 * (mi + 1)) (by omega) (by omega), wrapZ (8 * (mi + 1) + 2) (by omega) (by omega), by omega, by omega, by omega⟩
    obtain ⟨X, E, M, ME, m1, m8, C2, fE, fX, f1, f2, f3, f4, f5, f6, fl, f7, f8⟩ := F
    rw [fE] at HE
    rw [fX] at HS
    clear fE fX a1 a2 a3 a4 d1 d2 d3 d4 hn hm ha1 ha2 hz
    go_enter Try.func6, Try.ntmps6
    go_wp2_with (first
      | (go_at_call 7; refine (H0 _).mono ?_; rintro e w1 ⟨rfl, c1⟩; have hb1 := b0.trans (c1.mono b0.size); have g1 := (c1.block _ (Array.getElem?_eq_some_iff.1 g0).1).trans g0; have hS0 := par_cells g1))
    have hd1 : Below w1.heap.size w1 w1.drew := (Below.refl _ _).drew
    have g2 := (hd1.block _ (Array.getElem?_eq_some_iff.1 g1).1).trans g1
    have b2 := hb1.trans (hd1.mono hb1.size)
    have hS1 := par_cells g2
    clear hV q0 q1 q2 q3 q4 q5 q6 q7
    go_region_held3 (fun w' => w'.cell? ⟨w.heap.size, 0, none⟩ = some (.int .i64 s) ∧ w'.cell? ⟨w.heap.size, 1, none⟩ = some (.int .i64 h) ∧ w'.cell? ⟨w.heap.size, 2, none⟩ = some (.int .i64 mi) ∧ w'.cell? ⟨w.heap.size, 3, none⟩ = some (.int .i64 mk) ∧ w'.cell? ⟨w.heap.size, 4, none⟩ = some (.int .i64 ch) ∧ w'.cell? ⟨w.heap.size, 5, none⟩ = some (.int .i64 ar) ∧ w'.cell? ⟨w.heap.size, 6, none⟩ = some (.int .i64 ca) ∧ w'.cell? ⟨w.heap.size, 7, none⟩ = some (.int .i64 pg)) (first | exact hSw | exact hS5 | exact hS4 | exact hS3 | exact hS2 | exact hS1 | exact hS0) (first
      | (go_at_call 11; have hq := hS2; refine (HE _).mono ?_; rintro e w3 ⟨rfl, c3⟩; have b4 := b3.trans (c3.mono b3.size); have g4 := (c3.block _ (Array.getElem?_eq_some_iff.1 g3).1).trans g3; have hS3 := par_cells g4)
      | (go_at_call 11; refine (HE _).mono ?_; rintro e w2 ⟨rfl, c2⟩; have b3 := b2.trans (c2.mono b2.size); have g3 := (c2.block _ (Array.getElem?_eq_some_iff.1 g2).1).trans g2; have hS2 := par_cells g3)
      | (go_at_call 17; have hq := hS4; refine (HS _).mono ?_; rintro e w5 ⟨rfl, c5⟩; have b6 := b5.trans (c5.mono b5.size); have g6 := (c5.block _ (Array.getElem?_eq_some_iff.1 g5).1).trans g5; have hS5 := par_cells g6)
      | (go_at_call 17; refine (HS _).mono ?_; rintro e w4 ⟨rfl, c4⟩; have b5 := b4.trans (c4.mono b4.size); have g5 := (c4.block _ (Array.getElem?_eq_some_iff.1 g4).1).trans g4; have hS4 := par_cells g5)
      | (go_at_call 19; refine (adAwake_any _).mono ?_; rintro e w6 ⟨rfl, c6⟩; have b7 := b6.trans (c6.mono b6.size); have g7 := (c6.block _ (Array.getElem?_eq_some_iff.1 g6).1).trans g6; have hSw := par_cells g7))
    go_wp2
    go_ret
    exact ⟨by simp, b7⟩

end Go.Proofs.Ythelmlacgoancaa
