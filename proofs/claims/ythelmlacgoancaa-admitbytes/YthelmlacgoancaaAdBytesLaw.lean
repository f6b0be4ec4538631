/- What this text proves: the walk of the statement AdmitBytes over this program: whatever the parameters and the bytes, it answers true. (By program: mkadby.py.) -/
import Derived.Test.YthelmlacgoancaaAdBackLaw
import Derived.Test.YthelmlacgoancaaAdRRead
import Derived.Test.YthelmlacgoancaaAdRWrite
namespace Go.Proofs.Ythelmlacgoancaa
open Go.RowKit

/-- What Read answers, its lists under names of their own. -/
def AdT2 (er : Int) (L : List Nat) (Q : List UInt8) (w : World) (x : Ending) (w' : World) : Prop :=
  ∃ (n0 n1 n2 n3 n4 n5 n6 n7 : Nat) (v : Value), x = .returned (.tuple #[.agg #[.int .i64 (n0 : Int), .int .i64 (n1 : Int), .int .i64 (n2 : Int), .int .i64 (n3 : Int), .int .i64 (n4 : Int), .int .i64 (n5 : Int), .int .i64 (n6 : Int), .int .i64 (n7 : Int)], v, .int .i64 er]) ∧ [n0, n1, n2, n3, n4, n5, n6, n7] = L ∧ HB w' v Q ∧ Below w.heap.size w w'

/-- The three blocks of parameters. -/
def B3 (w : World) (gp gx gy : Nat) (s h mi mk ch ar ca pg : Int) (n0 n1 n2 n3 n4 n5 n6 n7 : Nat) : Prop :=
  w.heap[gp]? = some (.cells #[.int .i64 s, .int .i64 h, .int .i64 mi, .int .i64 mk, .int .i64 ch, .int .i64 ar, .int .i64 ca, .int .i64 pg] 23 (0, 0)) ∧ w.heap[gx]? = some (.cells #[.int .i64 (n0 : Int), .int .i64 (n1 : Int), .int .i64 (n2 : Int), .int .i64 (n3 : Int), .int .i64 (n4 : Int), .int .i64 (n5 : Int), .int .i64 (n6 : Int), .int .i64 (n7 : Int)] 23 (0, 0)) ∧ w.heap[gy]? = some (.cells #[.int .i64 (n0 : Int), .int .i64 (n1 : Int), .int .i64 (n2 : Int), .int .i64 (n3 : Int), .int .i64 (n4 : Int), .int .i64 (n5 : Int), .int .i64 (n6 : Int), .int .i64 (n7 : Int)] 23 (0, 0))

theorem B3.later {w w' : World} {gp gx gy : Nat} {s h mi mk ch ar ca pg : Int} {n0 n1 n2 n3 n4 n5 n6 n7 : Nat} (H : B3 w gp gx gy s h mi mk ch ar ca pg n0 n1 n2 n3 n4 n5 n6 n7) (hb : Below w.heap.size w w') : B3 w' gp gx gy s h mi mk ch ar ca pg n0 n1 n2 n3 n4 n5 n6 n7 :=
  ⟨(hb.block _ (Array.getElem?_eq_some_iff.1 H.1).1).trans H.1, (hb.block _ (Array.getElem?_eq_some_iff.1 H.2.1).1).trans H.2.1, (hb.block _ (Array.getElem?_eq_some_iff.1 H.2.2).1).trans H.2.2⟩

theorem B3.cells {w W : World} {gx gy : Nat} {s h mi mk ch ar ca pg : Int} {n0 n1 n2 n3 n4 n5 n6 n7 : Nat} (H : B3 W w.heap.size gx gy s h mi mk ch ar ca pg n0 n1 n2 n3 n4 n5 n6 n7) : W.cell? ⟨w.heap.size, 0, none⟩ = some (.int .i64 s) ∧ W.cell? ⟨w.heap.size, 1, none⟩ = some (.int .i64 h) ∧ W.cell? ⟨w.heap.size, 2, none⟩ = some (.int .i64 mi) ∧ W.cell? ⟨w.heap.size, 3, none⟩ = some (.int .i64 mk) ∧ W.cell? ⟨w.heap.size, 4, none⟩ = some (.int .i64 ch) ∧ W.cell? ⟨w.heap.size, 5, none⟩ = some (.int .i64 ar) ∧ W.cell? ⟨w.heap.size, 6, none⟩ = some (.int .i64 ca) ∧ W.cell? ⟨w.heap.size, 7, none⟩ = some (.int .i64 pg) ∧ W.cell? ⟨gx, 0, none⟩ = some (.int .i64 (n0 : Int)) ∧ W.cell? ⟨gx, 1, none⟩ = some (.int .i64 (n1 : Int)) ∧ W.cell? ⟨gx, 2, none⟩ = some (.int .i64 (n2 : Int)) ∧ W.cell? ⟨gx, 3, none⟩ = some (.int .i64 (n3 : Int)) ∧ W.cell? ⟨gx, 4, none⟩ = some (.int .i64 (n4 : Int)) ∧ W.cell? ⟨gx, 5, none⟩ = some (.int .i64 (n5 : Int)) ∧ W.cell? ⟨gx, 6, none⟩ = some (.int .i64 (n6 : Int)) ∧ W.cell? ⟨gx, 7, none⟩ = some (.int .i64 (n7 : Int)) ∧ W.cell? ⟨gy, 0, none⟩ = some (.int .i64 (n0 : Int)) ∧ W.cell? ⟨gy, 1, none⟩ = some (.int .i64 (n1 : Int)) ∧ W.cell? ⟨gy, 2, none⟩ = some (.int .i64 (n2 : Int)) ∧ W.cell? ⟨gy, 3, none⟩ = some (.int .i64 (n3 : Int)) ∧ W.cell? ⟨gy, 4, none⟩ = some (.int .i64 (n4 : Int)) ∧ W.cell? ⟨gy, 5, none⟩ = some (.int .i64 (n5 : Int)) ∧ W.cell? ⟨gy, 6, none⟩ = some (.int .i64 (n6 : Int)) ∧ W.cell? ⟨gy, 7, none⟩ = some (.int .i64 (n7 : Int)) := by
  obtain ⟨a0, a1, a2, a3, a4, a5, a6, a7⟩ := par_cells H.1
  obtain ⟨b0, b1, b2, b3, b4, b5, b6, b7⟩ := par_cells H.2.1
  obtain ⟨c0, c1, c2, c3, c4, c5, c6, c7⟩ := par_cells H.2.2
  exact ⟨a0, a1, a2, a3, a4, a5, a6, a7, b0, b1, b2, b3, b4, b5, b6, b7, c0, c1, c2, c3, c4, c5, c6, c7⟩

set_option maxRecDepth 100000 in
set_option maxHeartbeats 2000000 in
theorem admitBytes_walk (s h mi mk ch ar ca pg : Int) (v : Value) (l : List UInt8) (w : World) (hv : HB w v l) (hl : l.length ≤ 140737488351232) : Calls Try.prog 4 #[.agg #[.int .i64 s, .int .i64 h, .int .i64 mi, .int .i64 mk, .int .i64 ch, .int .i64 ar, .int .i64 ca, .int .i64 pg], v] w fun x w' => x = .returned (.bool true) ∧ Below w.heap.size w w' := by
  have b0 := (Below.refl w.heap.size w).alloc (Nat.le_refl _) (.cells #[.int .i64 s, .int .i64 h, .int .i64 mi, .int .i64 mk, .int .i64 ch, .int .i64 ar, .int .i64 ca, .int .i64 pg] 23)
  have g0 := heap_alloc_new w (.cells #[.int .i64 s, .int .i64 h, .int .i64 mi, .int .i64 mk, .int .i64 ch, .int .i64 ar, .int .i64 ca, .int .i64 pg] 23)
  obtain ⟨V, hV⟩ : ∃ V, w.alloc (.cells #[.int .i64 s, .int .i64 h, .int .i64 mi, .int .i64 mk, .int .i64 ch, .int .i64 ar, .int .i64 ca, .int .i64 pg] 23) = V := ⟨_, rfl⟩
  rw [hV] at b0 g0
  obtain ⟨pv, cv, rfl⟩ := hv.shape
  have hC := clone_any _ l V (hv.later b0) (by omega)
  obtain ⟨L, hL⟩ : ∃ L : List Nat, L = if (auS l 8).2.2 = 0 then (auS l 8).1 else [0, 0, 0, 0, 0, 0, 0, 0] := ⟨_, rfl⟩
  obtain ⟨Q, hQ⟩ : ∃ Q : List UInt8, Q = if (auS l 8).2.2 = 0 then (auS l 8).2.1 else [] := ⟨_, rfl⟩
  obtain ⟨EN, hEN⟩ : ∃ EN, EN = (auS l 8).2.2 := ⟨_, rfl⟩
  have hRd : Hid (∀ v W, HB W v l → Calls Try.prog 21 #[v] W (AdT2 EN L Q W)) := fun v W hv => by rw [hL, hQ, hEN]; exact adread_any v l W hv (by omega)
  have hRr : Hid (∀ v W, HB W v l → Calls Try.prog 22 #[v] W (AdT2 EN L Q W)) := fun v W hv => by rw [hL, hQ, hEN]; exact radread_any v l W hv (by omega)
  clear hL hQ hEN
  go_enter Try.func4, Try.ntmps4
  go_wp2_with fail
  refine hC.mono ?_
  rintro x w1 ⟨p1, c1, rfl, h1, k1⟩
  have e1 := b0.trans (k1.mono b0.size)
  have g1 := (k1.block _ (Array.getElem?_eq_some_iff.1 g0).1).trans g0
  have hA := hRd.out _ w1 h1
  clear hC hV g0 k1 hRd
  go_wp2_with fail
  refine hA.mono ?_
  rintro x w2 ⟨n0, n1, n2, n3, n4, n5, n6, n7, v2, rfl, q2, r2, k2⟩
  have bX := (Below.refl w2.heap.size w2).alloc (Nat.le_refl _) (.cells #[.int .i64 (n0 : Int), .int .i64 (n1 : Int), .int .i64 (n2 : Int), .int .i64 (n3 : Int), .int .i64 (n4 : Int), .int .i64 (n5 : Int), .int .i64 (n6 : Int), .int .i64 (n7 : Int)] 23)
  have gX := heap_alloc_new w2 (.cells #[.int .i64 (n0 : Int), .int .i64 (n1 : Int), .int .i64 (n2 : Int), .int .i64 (n3 : Int), .int .i64 (n4 : Int), .int .i64 (n5 : Int), .int .i64 (n6 : Int), .int .i64 (n7 : Int)] 23)
  have f2 := k2.trans (bX.mono k2.size)
  have e2 := e1.trans (f2.mono e1.size)
  have g2 := (f2.block _ (Array.getElem?_eq_some_iff.1 g1).1).trans g1
  have h2 := h1.later f2
  have rX := r2.later bX
  have hB := hRr.out _ _ (hv.later e2)
  obtain ⟨p2, c2, hp2⟩ := r2.shape
  subst hp2
  clear hA hRr h1 g1 k2 f2 r2 bX b0 e1
  go_wp2_with fail
  refine hB.mono ?_
  rintro x w3 ⟨m0, m1, m2, m3, m4, m5, m6, m7, v3, rfl, q3, r3, k3⟩
  rw [← q2] at q3
  simp only [List.cons.injEq, and_true] at q3
  obtain ⟨rfl, rfl, rfl, rfl, rfl, rfl, rfl, rfl⟩ := q3
  have bY := (Below.refl w3.heap.size w3).alloc (Nat.le_refl _) (.cells #[.int .i64 (m0 : Int), .int .i64 (m1 : Int), .int .i64 (m2 : Int), .int .i64 (m3 : Int), .int .i64 (m4 : Int), .int .i64 (m5 : Int), .int .i64 (m6 : Int), .int .i64 (m7 : Int)] 23)
  have gY := heap_alloc_new w3 (.cells #[.int .i64 (m0 : Int), .int .i64 (m1 : Int), .int .i64 (m2 : Int), .int .i64 (m3 : Int), .int .i64 (m4 : Int), .int .i64 (m5 : Int), .int .i64 (m6 : Int), .int .i64 (m7 : Int)] 23)
  have f3 := k3.trans (bY.mono k3.size)
  have e3 := e2.trans (f3.mono e2.size)
  have B0 : B3 (w3.alloc (.cells #[.int .i64 (m0 : Int), .int .i64 (m1 : Int), .int .i64 (m2 : Int), .int .i64 (m3 : Int), .int .i64 (m4 : Int), .int .i64 (m5 : Int), .int .i64 (m6 : Int), .int .i64 (m7 : Int)] 23)) w.heap.size w2.heap.size w3.heap.size s h mi mk ch ar ca pg m0 m1 m2 m3 m4 m5 m6 m7 := ⟨(f3.block _ (Array.getElem?_eq_some_iff.1 g2).1).trans g2, (f3.block _ (Array.getElem?_eq_some_iff.1 gX).1).trans gX, gY⟩
  have h3 := h2.later f3
  have rX3 := rX.later f3
  have rY3 := r3.later bY
  have hv3 := hv.later e3
  obtain ⟨p3, c3, hp3⟩ := r3.shape
  subst hp3
  clear hB g2 gX gY k3 f3 r3 h2 rX bY e2 q2 hv
  go_wp2
  generalize w3.alloc (.cells #[.int .i64 (m0 : Int), .int .i64 (m1 : Int), .int .i64 (m2 : Int), .int .i64 (m3 : Int), .int .i64 (m4 : Int), .int .i64 (m5 : Int), .int .i64 (m6 : Int), .int .i64 (m7 : Int)] 23) = U at *
  generalize w2.heap.size = gx at *
  generalize w3.heap.size = gy at *
  have bD : Below U.heap.size U U.drew := (Below.refl _ _).drew
  have B1 := B0.later bD
  have hS0 := B0.cells
  have hS1 := B1.cells
  have d3 := e3.trans (bD.mono e3.size)
  have hq1 := equal_t _ _ _ _ _ (rX3.later bD) (rY3.later bD) rfl
  have hW1 := adwrite_any _ _ s h mi mk ch ar ca pg _ (h3.later bD) (by omega)
  have hW2 := fun W hv => radwrite_any (.slice pv l.length cv) l s h mi mk ch ar ca pg W hv (by omega)
  obtain ⟨G, hG⟩ : ∃ G, G = wrN l [s, h, mi, mk, ch, ar, ca, pg] := ⟨_, rfl⟩
  rw [← hG] at hW1 hW2
  clear hG rX3 rY3 B0
  have hg3 := h3.later bD
  have hv4 := hv3.later bD
  clear h3 hv3
  go_region_held3 (fun w' => w'.cell? ⟨w.heap.size, 0, none⟩ = some (.int .i64 s) ∧ w'.cell? ⟨w.heap.size, 1, none⟩ = some (.int .i64 h) ∧ w'.cell? ⟨w.heap.size, 2, none⟩ = some (.int .i64 mi) ∧ w'.cell? ⟨w.heap.size, 3, none⟩ = some (.int .i64 mk) ∧ w'.cell? ⟨w.heap.size, 4, none⟩ = some (.int .i64 ch) ∧ w'.cell? ⟨w.heap.size, 5, none⟩ = some (.int .i64 ar) ∧ w'.cell? ⟨w.heap.size, 6, none⟩ = some (.int .i64 ca) ∧ w'.cell? ⟨w.heap.size, 7, none⟩ = some (.int .i64 pg) ∧ w'.cell? ⟨gx, 0, none⟩ = some (.int .i64 (m0 : Int)) ∧ w'.cell? ⟨gx, 1, none⟩ = some (.int .i64 (m1 : Int)) ∧ w'.cell? ⟨gx, 2, none⟩ = some (.int .i64 (m2 : Int)) ∧ w'.cell? ⟨gx, 3, none⟩ = some (.int .i64 (m3 : Int)) ∧ w'.cell? ⟨gx, 4, none⟩ = some (.int .i64 (m4 : Int)) ∧ w'.cell? ⟨gx, 5, none⟩ = some (.int .i64 (m5 : Int)) ∧ w'.cell? ⟨gx, 6, none⟩ = some (.int .i64 (m6 : Int)) ∧ w'.cell? ⟨gx, 7, none⟩ = some (.int .i64 (m7 : Int)) ∧ w'.cell? ⟨gy, 0, none⟩ = some (.int .i64 (m0 : Int)) ∧ w'.cell? ⟨gy, 1, none⟩ = some (.int .i64 (m1 : Int)) ∧ w'.cell? ⟨gy, 2, none⟩ = some (.int .i64 (m2 : Int)) ∧ w'.cell? ⟨gy, 3, none⟩ = some (.int .i64 (m3 : Int)) ∧ w'.cell? ⟨gy, 4, none⟩ = some (.int .i64 (m4 : Int)) ∧ w'.cell? ⟨gy, 5, none⟩ = some (.int .i64 (m5 : Int)) ∧ w'.cell? ⟨gy, 6, none⟩ = some (.int .i64 (m6 : Int)) ∧ w'.cell? ⟨gy, 7, none⟩ = some (.int .i64 (m7 : Int))) (first | with_reducible exact hSw | with_reducible exact hS3 | with_reducible exact hS2 | with_reducible exact hS1 | with_reducible exact hS0) (first
    | (go_at_call 23; have hz := hE2; refine (equal_t _ _ _ _ _ (hg3.later k5) (hv4.later k5) rfl).mono ?_; rintro e w7 ⟨rfl, hw⟩; have hw2 := hw.symm; clear hw; subst hw2; have hE3 := True.intro)
    | (go_at_call 23; have hz := hS3; refine (equal_t _ _ _ _ _ (o4.later k5') o5 rfl).mono ?_; rintro e w6 ⟨rfl, hw⟩; have hw2 := hw.symm; clear hw; subst hw2; have hE2 := True.intro)
    | (go_at_call 23; refine hq1.mono ?_; rintro e w3' ⟨rfl, hw⟩; subst hw)
    | (go_at_call 24; refine hW1.mono ?_; rintro e w4 ⟨v4, rfl, o4, _, k4⟩; obtain ⟨p4, c4, hp4⟩ := o4.shape; subst hp4; have hS2 := (B1.later k4).cells)
    | (go_at_call 25; refine (hW2 _ (hv4.later k4)).mono ?_; rintro e w5 ⟨v5, rfl, o5, _, k5'⟩; obtain ⟨p5, c5, hp5⟩ := o5.shape; subst hp5; have k5 := k4.trans (k5'.mono k4.size); have d5 := d3.trans (k5.mono d3.size); have hS3 := (B1.later k5).cells)
    | (go_at_call 19; refine (adAwake_any _).mono ?_; rintro e w8 ⟨rfl, k8⟩; have d8 := d5.trans (k8.mono d5.size); have hSw := ((B1.later k5).later k8).cells))
  go_wp2
  go_ret
  exact ⟨by simp, d8⟩

end Go.Proofs.Ythelmlacgoancaa
