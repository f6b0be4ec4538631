/- What this text proves: the walk of the statement AdmitCheck over this program: whatever the parameters, it answers true. (By program: mkadlaw.py.) -/
import Derived.Test.YthelmlacgoancaaAdAwake
import Derived.Test.YthelmlacgoancaaAdRNum
namespace Go.Proofs.Ythelmlacgoancaa
open Go.RowKit

set_option maxRecDepth 100000 in
set_option maxHeartbeats 8000000 in
theorem admitCheck_walk (s h mi mk ch ar ca pg : Int) (w : World) : Calls Try.prog 3 #[.agg #[.int .i64 s, .int .i64 h, .int .i64 mi, .int .i64 mk, .int .i64 ch, .int .i64 ar, .int .i64 ca, .int .i64 pg]] w fun x w' => x = .returned (.bool true) ∧ Below w.heap.size w w' := by
  have b0 := (Below.refl w.heap.size w).alloc (Nat.le_refl _) (.cells #[.int .i64 s, .int .i64 h, .int .i64 mi, .int .i64 mk, .int .i64 ch, .int .i64 ar, .int .i64 ca, .int .i64 pg] 23)
  have g0 := heap_alloc_new w (.cells #[.int .i64 s, .int .i64 h, .int .i64 mi, .int .i64 mk, .int .i64 ch, .int .i64 ar, .int .i64 ca, .int .i64 pg] 23)
  obtain ⟨V, hV⟩ : ∃ V, w.alloc (.cells #[.int .i64 s, .int .i64 h, .int .i64 mi, .int .i64 mk, .int .i64 ch, .int .i64 ar, .int .i64 ca, .int .i64 pg] 23) = V := ⟨_, rfl⟩
  rw [hV] at b0 g0
  have hlt : w.heap.size < V.heap.size := (Array.getElem?_eq_some_iff.1 g0).1
  have hd1 : Below V.heap.size V V.drew := (Below.refl _ _).drew
  have g1 := (hd1.block _ hlt).trans g0
  have b1 := b0.trans (hd1.mono b0.size)
  have hS0 := par_cells g1
  have hS00 := par_cells g0
  have H0 := fun W => chk_any s h mi mk ch ar ca pg W
  have H1 := fun W => rchk_any s h mi mk ch ar ca pg W
  have H2 := fun W => deep_any s h mi mk ch ar ca pg W
  have H3 := fun W => rdeep_any s h mi mk ch ar ca pg W
  have H4 := fun W => each_any s h mi mk ch ar ca pg W
  have H5 := fun W => reach_any s h mi mk ch ar ca pg W
  have H6 := fun W => need_any s h mi mk ch ar ca pg W
  have H7 := fun W => rneed_any s h mi mk ch ar ca pg W
  have H8 := fun W => epochs_any s h mi mk ch ar ca pg W
  have H9 := fun W => repochs_any s h mi mk ch ar ca pg W
  have H10 := fun W => sect_any s h mi mk ch ar ca pg W
  have H11 := fun W => rsect_any s h mi mk ch ar ca pg W
  generalize chkV s h mi mk ch ar ca pg = vchk at *
  generalize deepV s h mi mk ch ca pg = vdeep at *
  generalize eachV s h mi mk ch ca pg = veach at *
  generalize needV s h mi mk ch ca pg = vneed at *
  generalize epochsV s h mi mk ch ca pg = vepochs at *
  generalize sectV s h mi mk ch ca pg = vsect at *
  go_enter Try.func3, Try.ntmps3
  go_wp2
  clear hV
  go_region_held3 (fun w' => w'.cell? ⟨w.heap.size, 0, none⟩ = some (.int .i64 s) ∧ w'.cell? ⟨w.heap.size, 1, none⟩ = some (.int .i64 h) ∧ w'.cell? ⟨w.heap.size, 2, none⟩ = some (.int .i64 mi) ∧ w'.cell? ⟨w.heap.size, 3, none⟩ = some (.int .i64 mk) ∧ w'.cell? ⟨w.heap.size, 4, none⟩ = some (.int .i64 ch) ∧ w'.cell? ⟨w.heap.size, 5, none⟩ = some (.int .i64 ar) ∧ w'.cell? ⟨w.heap.size, 6, none⟩ = some (.int .i64 ca) ∧ w'.cell? ⟨w.heap.size, 7, none⟩ = some (.int .i64 pg)) (first | exact hSw | exact hS12 | exact hS11 | exact hS10 | exact hS9 | exact hS8 | exact hS7 | exact hS6 | exact hS5 | exact hS4 | exact hS3 | exact hS2 | exact hS1 | exact hS0 | exact hS00) (first
    | (go_at_call 7; refine (H0 _).mono ?_; rintro e v0 ⟨rfl, c0⟩; have hb0 := b1.trans (c0.mono b1.size); have hg0 := (c0.block _ (Array.getElem?_eq_some_iff.1 g1).1).trans g1; have hS1 := par_cells hg0)
    | (go_at_call 8; refine (H1 _).mono ?_; rintro e v1 ⟨rfl, c1⟩; have hb1 := hb0.trans (c1.mono hb0.size); have hg1 := (c1.block _ (Array.getElem?_eq_some_iff.1 hg0).1).trans hg0; have hS2 := par_cells hg1)
    | (go_at_call 9; refine (H2 _).mono ?_; rintro e v2 ⟨rfl, c2⟩; have hb2 := hb1.trans (c2.mono hb1.size); have hg2 := (c2.block _ (Array.getElem?_eq_some_iff.1 hg1).1).trans hg1; have hS3 := par_cells hg2)
    | (go_at_call 10; refine (H3 _).mono ?_; rintro e v3 ⟨rfl, c3⟩; have hb3 := hb2.trans (c3.mono hb2.size); have hg3 := (c3.block _ (Array.getElem?_eq_some_iff.1 hg2).1).trans hg2; have hS4 := par_cells hg3)
    | (go_at_call 11; refine (H4 _).mono ?_; rintro e v4 ⟨rfl, c4⟩; have hb4 := hb3.trans (c4.mono hb3.size); have hg4 := (c4.block _ (Array.getElem?_eq_some_iff.1 hg3).1).trans hg3; have hS5 := par_cells hg4)
    | (go_at_call 12; refine (H5 _).mono ?_; rintro e v5 ⟨rfl, c5⟩; have hb5 := hb4.trans (c5.mono hb4.size); have hg5 := (c5.block _ (Array.getElem?_eq_some_iff.1 hg4).1).trans hg4; have hS6 := par_cells hg5)
    | (go_at_call 13; refine (H6 _).mono ?_; rintro e v6 ⟨rfl, c6⟩; have hb6 := hb5.trans (c6.mono hb5.size); have hg6 := (c6.block _ (Array.getElem?_eq_some_iff.1 hg5).1).trans hg5; have hS7 := par_cells hg6)
    | (go_at_call 14; refine (H7 _).mono ?_; rintro e v7 ⟨rfl, c7⟩; have hb7 := hb6.trans (c7.mono hb6.size); have hg7 := (c7.block _ (Array.getElem?_eq_some_iff.1 hg6).1).trans hg6; have hS8 := par_cells hg7)
    | (go_at_call 15; refine (H8 _).mono ?_; rintro e v8 ⟨rfl, c8⟩; have hb8 := hb7.trans (c8.mono hb7.size); have hg8 := (c8.block _ (Array.getElem?_eq_some_iff.1 hg7).1).trans hg7; have hS9 := par_cells hg8)
    | (go_at_call 16; refine (H9 _).mono ?_; rintro e v9 ⟨rfl, c9⟩; have hb9 := hb8.trans (c9.mono hb8.size); have hg9 := (c9.block _ (Array.getElem?_eq_some_iff.1 hg8).1).trans hg8; have hS10 := par_cells hg9)
    | (go_at_call 17; refine (H10 _).mono ?_; rintro e v10 ⟨rfl, c10⟩; have hb10 := hb9.trans (c10.mono hb9.size); have hg10 := (c10.block _ (Array.getElem?_eq_some_iff.1 hg9).1).trans hg9; have hS11 := par_cells hg10)
    | (go_at_call 18; refine (H11 _).mono ?_; rintro e v11 ⟨rfl, c11⟩; have hb11 := hb10.trans (c11.mono hb10.size); have hg11 := (c11.block _ (Array.getElem?_eq_some_iff.1 hg10).1).trans hg10; have hS12 := par_cells hg11)
    | (go_at_call 19; refine (adAwake_any _).mono ?_; rintro e vw ⟨rfl, cw⟩; have hbw := hb11.trans (cw.mono hb11.size); have hgw := (cw.block _ (Array.getElem?_eq_some_iff.1 hg11).1).trans hg11; have hSw := par_cells hgw))
  go_wp2
  go_ret
  exact ⟨by simp, hbw⟩

end Go.Proofs.Ythelmlacgoancaa
