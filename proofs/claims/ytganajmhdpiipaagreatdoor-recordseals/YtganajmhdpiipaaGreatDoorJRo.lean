/- What this text proves: the walk of record.Open over this program, in each case (made by mkopens.py). What this text proves: the walk of the document's Open (annalsref13) over this program, in each case (made by mkopens.py). -/
import Derived.Test.YtganajmhdpiipaaGreatDoorJMl
import Derived.Test.YtganajmhdpiipaaGreatDoorJX
namespace Go.Proofs.YtganajmhdpiipaaGreatDoor
open Go.RowKit

set_option maxRecDepth 100000 in
set_option maxHeartbeats 2000000 in
theorem open_dec (size height : Int) (v : Value) (b EL SG : List UInt8) (e1 : Int) (w : World) (hv : HB w v b) (hTD : TD w) (hbl : b.length ≤ 140737488354000) (hRB : rdB b 0 (b.length : Int) = (e1, EL, SG)) (hEl : EL.length ≤ b.length) (hok : dcOk size EL = false) :
    Calls Tryz.prog 6 #[.int .i64 size, .int .i64 height, v] w fun x w' => x = .returned (.tuple #[.agg #[.int .i64 0, .int .i64 0, .slice none 0 0, .int .i64 0, .slice none 0 0, .slice none 0 0, .int .i64 0, .slice none 0 0, .slice none 0 0], .int .i64 5]) ∧ Below w.heap.size w w' := by
  obtain ⟨p, c, rfl⟩ := hv.shape
  have b0 := (Below.refl w.heap.size w).alloc (Nat.le_refl _) (.cells #[.int .i64 0, .int .i64 0, .slice none 0 0, .int .i64 0, .slice none 0 0, .slice none 0 0, .int .i64 0, .slice none 0 0, .slice none 0 0] 29)
  have g0 := heap_alloc_new w (.cells #[.int .i64 0, .int .i64 0, .slice none 0 0, .int .i64 0, .slice none 0 0, .slice none 0 0, .int .i64 0, .slice none 0 0, .slice none 0 0] 29)
  obtain ⟨V, hV⟩ : ∃ V, w.alloc (.cells #[.int .i64 0, .int .i64 0, .slice none 0 0, .int .i64 0, .slice none 0 0, .slice none 0 0, .int .i64 0, .slice none 0 0, .slice none 0 0] 29) = V := ⟨_, rfl⟩
  rw [hV] at b0 g0
  have hO := open_any _ b V (hv.later b0) (by omega)
  have hBy := fun g W hh => rbytes_all g b 0 (b.length : Int) W hh (by omega)
  rw [hRB] at hBy
  have hDe := fun v W (hv' : HB W v EL) (ht : TD W) => decode_any size v EL W hv' (by omega) ht
  rw [hok] at hDe
  clear hRB hok hv
  go_enter Tryz.func6, Tryz.ntmps6
  go_wp2_with fail
  refine hO.mono ?_
  rintro x w2 ⟨g, hg, rfl, rr2, c2⟩
  have d2 := b0.trans (c2.mono b0.size)
  have hgw : w.heap.size < g := by have := (Array.getElem?_eq_some_iff.1 g0).1; omega
  have g2 := (c2.block _ (Array.getElem?_eq_some_iff.1 g0).1).trans g0
  have hB2 := hBy g w2 rr2
  clear hO hV b0 g0 c2 hBy rr2 hg
  go_wp2_with fail
  refine hB2.mono ?_
  rintro x w3 ⟨v3, rfl, p3, c3, hv3, hn3, rr3, o3⟩
  subst hv3
  have d3 := d2.trans (o3.below (Nat.le_of_lt hgw))
  have g3 := (o3.block _ (by omega) (Array.getElem?_eq_some_iff.1 g2).1).trans g2
  have hD3 := hDe _ w3 hn3.1 (hTD.later d3)
  clear hB2 hDe hn3 o3 g2 d2 hTD
  go_wp2_with fail
  refine hD3.mono ?_
  rintro x w4 ⟨hD4, _, c4⟩
  obtain rfl := hD4 rfl
  have d4 := d3.trans (c4.mono d3.size)
  have g4 := (c4.block _ (Array.getElem?_eq_some_iff.1 g3).1).trans g3
  have b7 := (Below.refl w4.heap.size w4).alloc (Nat.le_refl _) (.cells #[.int .i64 0, .int .i64 0, .slice none 0 0, .int .i64 0, .slice none 0 0, .slice none 0 0] 25)
  have g7 := (b7.block _ (Array.getElem?_eq_some_iff.1 g4).1).trans g4
  have d7 := d4.trans (b7.mono d4.size)
  have x0 : (w4.alloc (.cells #[.int .i64 0, .int .i64 0, .slice none 0 0, .int .i64 0, .slice none 0 0, .slice none 0 0] 25)).cell? ⟨w.heap.size, 0, none⟩ = some (.int .i64 0) := by rw [cell_of_row _ _ 0 _ _ _ g7]; rfl
  have y0 : (w4.alloc (.cells #[.int .i64 0, .int .i64 0, .slice none 0 0, .int .i64 0, .slice none 0 0, .slice none 0 0] 25)).frozen? ⟨w.heap.size, 0, none⟩ = false := by simp [World.frozen?, g7]
  have x1 : (w4.alloc (.cells #[.int .i64 0, .int .i64 0, .slice none 0 0, .int .i64 0, .slice none 0 0, .slice none 0 0] 25)).cell? ⟨w.heap.size, 1, none⟩ = some (.int .i64 0) := by rw [cell_of_row _ _ 1 _ _ _ g7]; rfl
  have y1 : (w4.alloc (.cells #[.int .i64 0, .int .i64 0, .slice none 0 0, .int .i64 0, .slice none 0 0, .slice none 0 0] 25)).frozen? ⟨w.heap.size, 1, none⟩ = false := by simp [World.frozen?, g7]
  have x2 : (w4.alloc (.cells #[.int .i64 0, .int .i64 0, .slice none 0 0, .int .i64 0, .slice none 0 0, .slice none 0 0] 25)).cell? ⟨w.heap.size, 2, none⟩ = some (.slice none 0 0) := by rw [cell_of_row _ _ 2 _ _ _ g7]; rfl
  have y2 : (w4.alloc (.cells #[.int .i64 0, .int .i64 0, .slice none 0 0, .int .i64 0, .slice none 0 0, .slice none 0 0] 25)).frozen? ⟨w.heap.size, 2, none⟩ = false := by simp [World.frozen?, g7]
  have x3 : (w4.alloc (.cells #[.int .i64 0, .int .i64 0, .slice none 0 0, .int .i64 0, .slice none 0 0, .slice none 0 0] 25)).cell? ⟨w.heap.size, 3, none⟩ = some (.int .i64 0) := by rw [cell_of_row _ _ 3 _ _ _ g7]; rfl
  have y3 : (w4.alloc (.cells #[.int .i64 0, .int .i64 0, .slice none 0 0, .int .i64 0, .slice none 0 0, .slice none 0 0] 25)).frozen? ⟨w.heap.size, 3, none⟩ = false := by simp [World.frozen?, g7]
  have x4 : (w4.alloc (.cells #[.int .i64 0, .int .i64 0, .slice none 0 0, .int .i64 0, .slice none 0 0, .slice none 0 0] 25)).cell? ⟨w.heap.size, 4, none⟩ = some (.slice none 0 0) := by rw [cell_of_row _ _ 4 _ _ _ g7]; rfl
  have y4 : (w4.alloc (.cells #[.int .i64 0, .int .i64 0, .slice none 0 0, .int .i64 0, .slice none 0 0, .slice none 0 0] 25)).frozen? ⟨w.heap.size, 4, none⟩ = false := by simp [World.frozen?, g7]
  have x5 : (w4.alloc (.cells #[.int .i64 0, .int .i64 0, .slice none 0 0, .int .i64 0, .slice none 0 0, .slice none 0 0] 25)).cell? ⟨w.heap.size, 5, none⟩ = some (.slice none 0 0) := by rw [cell_of_row _ _ 5 _ _ _ g7]; rfl
  have y5 : (w4.alloc (.cells #[.int .i64 0, .int .i64 0, .slice none 0 0, .int .i64 0, .slice none 0 0, .slice none 0 0] 25)).frozen? ⟨w.heap.size, 5, none⟩ = false := by simp [World.frozen?, g7]
  have x6 : (w4.alloc (.cells #[.int .i64 0, .int .i64 0, .slice none 0 0, .int .i64 0, .slice none 0 0, .slice none 0 0] 25)).cell? ⟨w.heap.size, 6, none⟩ = some (.int .i64 0) := by rw [cell_of_row _ _ 6 _ _ _ g7]; rfl
  have y6 : (w4.alloc (.cells #[.int .i64 0, .int .i64 0, .slice none 0 0, .int .i64 0, .slice none 0 0, .slice none 0 0] 25)).frozen? ⟨w.heap.size, 6, none⟩ = false := by simp [World.frozen?, g7]
  have x7 : (w4.alloc (.cells #[.int .i64 0, .int .i64 0, .slice none 0 0, .int .i64 0, .slice none 0 0, .slice none 0 0] 25)).cell? ⟨w.heap.size, 7, none⟩ = some (.slice none 0 0) := by rw [cell_of_row _ _ 7 _ _ _ g7]; rfl
  have y7 : (w4.alloc (.cells #[.int .i64 0, .int .i64 0, .slice none 0 0, .int .i64 0, .slice none 0 0, .slice none 0 0] 25)).frozen? ⟨w.heap.size, 7, none⟩ = false := by simp [World.frozen?, g7]
  have x8 : (w4.alloc (.cells #[.int .i64 0, .int .i64 0, .slice none 0 0, .int .i64 0, .slice none 0 0, .slice none 0 0] 25)).cell? ⟨w.heap.size, 8, none⟩ = some (.slice none 0 0) := by rw [cell_of_row _ _ 8 _ _ _ g7]; rfl
  have y8 : (w4.alloc (.cells #[.int .i64 0, .int .i64 0, .slice none 0 0, .int .i64 0, .slice none 0 0, .slice none 0 0] 25)).frozen? ⟨w.heap.size, 8, none⟩ = false := by simp [World.frozen?, g7]
  have hon : Only w.heap.size (w4.alloc (.cells #[.int .i64 0, .int .i64 0, .slice none 0 0, .int .i64 0, .slice none 0 0, .slice none 0 0] 25)) ((((((((((w4.alloc (.cells #[.int .i64 0, .int .i64 0, .slice none 0 0, .int .i64 0, .slice none 0 0, .slice none 0 0] 25)).setCell ⟨w.heap.size, 0, none⟩ (.int .i64 0)).setCell ⟨w.heap.size, 1, none⟩ (.int .i64 0)).setCell ⟨w.heap.size, 2, none⟩ (.slice none 0 0)).setCell ⟨w.heap.size, 3, none⟩ (.int .i64 0)).setCell ⟨w.heap.size, 4, none⟩ (.slice none 0 0)).setCell ⟨w.heap.size, 5, none⟩ (.slice none 0 0)).setCell ⟨w.heap.size, 6, none⟩ (.int .i64 0)).setCell ⟨w.heap.size, 7, none⟩ (.slice none 0 0)).setCell ⟨w.heap.size, 8, none⟩ (.slice none 0 0)) := (((((((((Only.refl (w.heap.size) (w4.alloc (.cells #[.int .i64 0, .int .i64 0, .slice none 0 0, .int .i64 0, .slice none 0 0, .slice none 0 0] 25))).setCell 0 _).setCell 1 _).setCell 2 _).setCell 3 _).setCell 4 _).setCell 5 _).setCell 6 _).setCell 7 _).setCell 8 _
  have bF := d7.trans (hon.below (Nat.le_refl _))
  clear hD3 hD4 c4 g4 b7 g3 d3 d4 d7 hon rr3
  go_wp2
  refine bodyPost_ret (v := .tuple #[.agg #[.int .i64 0, .int .i64 0, .slice none 0 0, .int .i64 0, .slice none 0 0, .slice none 0 0, .int .i64 0, .slice none 0 0, .slice none 0 0], .int .i64 5]) ?_ rfl ?_
  · simp only [results, Tryz.results6]
    go_simp
  · exact ⟨rfl, bF⟩

set_option maxRecDepth 100000 in
set_option maxHeartbeats 2000000 in
theorem open_bad1 (size height : Int) (v : Value) (b EL SG : List UInt8) (r : Rc) (w : World) (hv : HB w v b) (hTD : TD w) (hbl : b.length ≤ 140737488354000) (hRB : rdB b 0 (b.length : Int) = (0, EL, SG)) (hEl : EL.length ≤ b.length) (hSl : SG.length ≤ b.length) (HSd : Hid (SG = b.drop (b.length - SG.length))) (hok : dcOk size EL = true) (hr : dcR size EL = r) (er ix : Int) (ls ps : List (List UInt8)) (R : List UInt8) (hMR : ∀ v W, HB W v SG → Calls Tryz.prog 25 #[.int .i64 size, .int .i64 height, v] W fun e w' => ∃ p1 c1 p2 c2 p c, e = .returned (.tuple #[.agg #[.int .i64 ix, .slice p1 ls.length c1, .slice p2 ps.length c2], .slice p R.length c, .int .i64 er]) ∧ PA w' (.slice p1 ls.length c1) ls ∧ PA w' (.slice p2 ps.length c2) ps ∧ HB w' (.slice p R.length c) R ∧ Below W.heap.size W w') (her : er ≠ 0) :
    Calls Tryz.prog 6 #[.int .i64 size, .int .i64 height, v] w fun x w' => x = .returned (.tuple #[.agg #[.int .i64 0, .int .i64 0, .slice none 0 0, .int .i64 0, .slice none 0 0, .slice none 0 0, .int .i64 0, .slice none 0 0, .slice none 0 0], .int .i64 5]) ∧ Below w.heap.size w w' := by
  have hne : (er != 0) = true := by simpa using her
  have hne2 : (er == 0) = false := by simpa using her
  obtain ⟨p, c, rfl⟩ := hv.shape
  have b0 := (Below.refl w.heap.size w).alloc (Nat.le_refl _) (.cells #[.int .i64 0, .int .i64 0, .slice none 0 0, .int .i64 0, .slice none 0 0, .slice none 0 0, .int .i64 0, .slice none 0 0, .slice none 0 0] 29)
  have g0 := heap_alloc_new w (.cells #[.int .i64 0, .int .i64 0, .slice none 0 0, .int .i64 0, .slice none 0 0, .slice none 0 0, .int .i64 0, .slice none 0 0, .slice none 0 0] 29)
  obtain ⟨V, hV⟩ : ∃ V, w.alloc (.cells #[.int .i64 0, .int .i64 0, .slice none 0 0, .int .i64 0, .slice none 0 0, .slice none 0 0, .int .i64 0, .slice none 0 0, .slice none 0 0] 29) = V := ⟨_, rfl⟩
  rw [hV] at b0 g0
  have hO := open_any _ b V (hv.later b0) (by omega)
  have hBy := fun g W hh => rbytes_all g b 0 (b.length : Int) W hh (by omega)
  rw [hRB] at hBy
  have hDe := fun v W (hv' : HB W v EL) (ht : TD W) => decode_any size v EL W hv' (by omega) ht
  rw [hok, hr] at hDe
  have hcu := hv.len
  have hws : wrap64 ((b.length : Int) - (SG.length : Int)) = (b.length : Int) - (SG.length : Int) := by unfold wrap64; omega
  have kc : ∀ w', (Instr.slice 22 (.slice p b.length c) (some (.int .i64 ((b.length : Int) - (SG.length : Int)))) none none).run Tryz.prog w' = .ok (.slice (cutP p c (b.length - SG.length)) (b.length - (b.length - SG.length)) (c - (b.length - SG.length))) w' := fun w' => run_cut (P := Tryz.prog) Tryz.underlying22 s_u8 p b.length c (b.length - SG.length) ((b.length : Int) - (SG.length : Int)) (by omega) (by omega) w'
  have hcut : ∀ W, Below w.heap.size w W → HB W (.slice (cutP p c (b.length - SG.length)) (b.length - (b.length - SG.length)) (c - (b.length - SG.length))) SG := by
    intro W hb
    have := (hv.later hb).behind (b.length - SG.length) (by omega)
    rw [← HSd.out] at this
    exact this
  have hl1 : b.length - (b.length - SG.length) = SG.length := by omega
  rw [hl1] at kc hcut
  generalize cutP p c (b.length - SG.length) = pr at *
  generalize c - (b.length - SG.length) = qr at *
  have hrb : (SG.length : Int) ≤ (b.length : Int) := by omega
  clear hRB hok hr hl1 HSd hcu hv
  go_enter Tryz.func6, Tryz.ntmps6
  go_wp2_with fail
  refine hO.mono ?_
  rintro x w2 ⟨g, hg, rfl, rr2, c2⟩
  have d2 := b0.trans (c2.mono b0.size)
  have hgw : w.heap.size < g := by have := (Array.getElem?_eq_some_iff.1 g0).1; omega
  have g2 := (c2.block _ (Array.getElem?_eq_some_iff.1 g0).1).trans g0
  have hB2 := hBy g w2 rr2
  clear hO hV b0 g0 c2 hBy rr2 hg
  go_wp2_with fail
  refine hB2.mono ?_
  rintro x w3 ⟨v3, rfl, p3, c3, hv3, hn3, rr3, o3⟩
  subst hv3
  have d3 := d2.trans (o3.below (Nat.le_of_lt hgw))
  have g3 := (o3.block _ (by omega) (Array.getElem?_eq_some_iff.1 g2).1).trans g2
  have hD3 := hDe _ w3 hn3.1 (hTD.later d3)
  clear hB2 hDe hn3 o3 g2 d2 hTD
  go_wp2_with fail
  refine hD3.mono ?_
  rintro x w4 ⟨_, hD4, c4⟩
  obtain ⟨tv, lv, kv, rfl, ht4, hl4, hk4⟩ := hD4 rfl
  obtain ⟨pt, ct, rfl⟩ := ht4.shape
  obtain ⟨pl, cl, rfl⟩ := hl4.shape
  obtain ⟨pk, ck, rfl⟩ := hk4.shape
  have d4 := d3.trans (c4.mono d3.size)
  have g4 := (c4.block _ (Array.getElem?_eq_some_iff.1 g3).1).trans g3
  have rr4 := rr3.later c4
  have b5 := (Below.refl w4.heap.size w4).alloc (Nat.le_refl _) (.cells #[.int .i64 r.e, .int .i64 r.t, .slice pt r.tr.length ct, .int .i64 r.c, .slice pl r.li.length cl, .slice pk r.lk.length ck] 25)
  have gR := heap_alloc_new w4 (.cells #[.int .i64 r.e, .int .i64 r.t, .slice pt r.tr.length ct, .int .i64 r.c, .slice pl r.li.length cl, .slice pk r.lk.length ck] 25)
  have d5 := d4.trans (b5.mono d4.size)
  have g5 := (b5.block _ (Array.getElem?_eq_some_iff.1 g4).1).trans g4
  have rr5 := rr4.later b5
  have hL5 := rr_left g SG 0 _ rr5
  have ht5 := ht4.later b5
  have hl5 := hl4.later b5
  have hk5 := hk4.later b5
  have hM5 := hMR _ _ (hcut _ d5)
  clear hD3 hD4 rr3 rr4 rr5 g3 g4 d3 d4 ht4 hl4 hk4 hMR hcut c4 b5
  go_wp2_with (first | (go_at_call 26; refine hL5.mono ?_; rintro x w6 ⟨rfl, hw⟩; have hw2 := hw.symm; clear hw; subst hw2) | fail)
  refine hM5.mono ?_
  rintro x w6 ⟨p1, c1, p2, c2, p6, q6, rfl, hX, hY, _, c6⟩
  have d6 := d5.trans (c6.mono d5.size)
  have g6 := (c6.block _ (Array.getElem?_eq_some_iff.1 g5).1).trans g5
  have b7 := (Below.refl w6.heap.size w6).alloc (Nat.le_refl _) (.cells #[.int .i64 ix, .slice p1 ls.length c1, .slice p2 ps.length c2] 27)
  have g7 := (b7.block _ (Array.getElem?_eq_some_iff.1 g6).1).trans g6
  have d7 := d6.trans (b7.mono d6.size)
  have x0 : (w6.alloc (.cells #[.int .i64 ix, .slice p1 ls.length c1, .slice p2 ps.length c2] 27)).cell? ⟨w.heap.size, 0, none⟩ = some (.int .i64 0) := by rw [cell_of_row _ _ 0 _ _ _ g7]; rfl
  have y0 : (w6.alloc (.cells #[.int .i64 ix, .slice p1 ls.length c1, .slice p2 ps.length c2] 27)).frozen? ⟨w.heap.size, 0, none⟩ = false := by simp [World.frozen?, g7]
  have x1 : (w6.alloc (.cells #[.int .i64 ix, .slice p1 ls.length c1, .slice p2 ps.length c2] 27)).cell? ⟨w.heap.size, 1, none⟩ = some (.int .i64 0) := by rw [cell_of_row _ _ 1 _ _ _ g7]; rfl
  have y1 : (w6.alloc (.cells #[.int .i64 ix, .slice p1 ls.length c1, .slice p2 ps.length c2] 27)).frozen? ⟨w.heap.size, 1, none⟩ = false := by simp [World.frozen?, g7]
  have x2 : (w6.alloc (.cells #[.int .i64 ix, .slice p1 ls.length c1, .slice p2 ps.length c2] 27)).cell? ⟨w.heap.size, 2, none⟩ = some (.slice none 0 0) := by rw [cell_of_row _ _ 2 _ _ _ g7]; rfl
  have y2 : (w6.alloc (.cells #[.int .i64 ix, .slice p1 ls.length c1, .slice p2 ps.length c2] 27)).frozen? ⟨w.heap.size, 2, none⟩ = false := by simp [World.frozen?, g7]
  have x3 : (w6.alloc (.cells #[.int .i64 ix, .slice p1 ls.length c1, .slice p2 ps.length c2] 27)).cell? ⟨w.heap.size, 3, none⟩ = some (.int .i64 0) := by rw [cell_of_row _ _ 3 _ _ _ g7]; rfl
  have y3 : (w6.alloc (.cells #[.int .i64 ix, .slice p1 ls.length c1, .slice p2 ps.length c2] 27)).frozen? ⟨w.heap.size, 3, none⟩ = false := by simp [World.frozen?, g7]
  have x4 : (w6.alloc (.cells #[.int .i64 ix, .slice p1 ls.length c1, .slice p2 ps.length c2] 27)).cell? ⟨w.heap.size, 4, none⟩ = some (.slice none 0 0) := by rw [cell_of_row _ _ 4 _ _ _ g7]; rfl
  have y4 : (w6.alloc (.cells #[.int .i64 ix, .slice p1 ls.length c1, .slice p2 ps.length c2] 27)).frozen? ⟨w.heap.size, 4, none⟩ = false := by simp [World.frozen?, g7]
  have x5 : (w6.alloc (.cells #[.int .i64 ix, .slice p1 ls.length c1, .slice p2 ps.length c2] 27)).cell? ⟨w.heap.size, 5, none⟩ = some (.slice none 0 0) := by rw [cell_of_row _ _ 5 _ _ _ g7]; rfl
  have y5 : (w6.alloc (.cells #[.int .i64 ix, .slice p1 ls.length c1, .slice p2 ps.length c2] 27)).frozen? ⟨w.heap.size, 5, none⟩ = false := by simp [World.frozen?, g7]
  have x6 : (w6.alloc (.cells #[.int .i64 ix, .slice p1 ls.length c1, .slice p2 ps.length c2] 27)).cell? ⟨w.heap.size, 6, none⟩ = some (.int .i64 0) := by rw [cell_of_row _ _ 6 _ _ _ g7]; rfl
  have y6 : (w6.alloc (.cells #[.int .i64 ix, .slice p1 ls.length c1, .slice p2 ps.length c2] 27)).frozen? ⟨w.heap.size, 6, none⟩ = false := by simp [World.frozen?, g7]
  have x7 : (w6.alloc (.cells #[.int .i64 ix, .slice p1 ls.length c1, .slice p2 ps.length c2] 27)).cell? ⟨w.heap.size, 7, none⟩ = some (.slice none 0 0) := by rw [cell_of_row _ _ 7 _ _ _ g7]; rfl
  have y7 : (w6.alloc (.cells #[.int .i64 ix, .slice p1 ls.length c1, .slice p2 ps.length c2] 27)).frozen? ⟨w.heap.size, 7, none⟩ = false := by simp [World.frozen?, g7]
  have x8 : (w6.alloc (.cells #[.int .i64 ix, .slice p1 ls.length c1, .slice p2 ps.length c2] 27)).cell? ⟨w.heap.size, 8, none⟩ = some (.slice none 0 0) := by rw [cell_of_row _ _ 8 _ _ _ g7]; rfl
  have y8 : (w6.alloc (.cells #[.int .i64 ix, .slice p1 ls.length c1, .slice p2 ps.length c2] 27)).frozen? ⟨w.heap.size, 8, none⟩ = false := by simp [World.frozen?, g7]
  have hon : Only w.heap.size (w6.alloc (.cells #[.int .i64 ix, .slice p1 ls.length c1, .slice p2 ps.length c2] 27)) ((((((((((w6.alloc (.cells #[.int .i64 ix, .slice p1 ls.length c1, .slice p2 ps.length c2] 27)).setCell ⟨w.heap.size, 0, none⟩ (.int .i64 0)).setCell ⟨w.heap.size, 1, none⟩ (.int .i64 0)).setCell ⟨w.heap.size, 2, none⟩ (.slice none 0 0)).setCell ⟨w.heap.size, 3, none⟩ (.int .i64 0)).setCell ⟨w.heap.size, 4, none⟩ (.slice none 0 0)).setCell ⟨w.heap.size, 5, none⟩ (.slice none 0 0)).setCell ⟨w.heap.size, 6, none⟩ (.int .i64 0)).setCell ⟨w.heap.size, 7, none⟩ (.slice none 0 0)).setCell ⟨w.heap.size, 8, none⟩ (.slice none 0 0)) := (((((((((Only.refl (w.heap.size) (w6.alloc (.cells #[.int .i64 ix, .slice p1 ls.length c1, .slice p2 ps.length c2] 27))).setCell 0 _).setCell 1 _).setCell 2 _).setCell 3 _).setCell 4 _).setCell 5 _).setCell 6 _).setCell 7 _).setCell 8 _
  have bF := d7.trans (hon.below (Nat.le_refl _))
  clear hM5 c6 g6 b7 g5 d5 hon d6 d7 gR ht5 hl5 hk5 hL5 kc hX hY
  go_wp2
  refine bodyPost_ret (v := .tuple #[.agg #[.int .i64 0, .int .i64 0, .slice none 0 0, .int .i64 0, .slice none 0 0, .slice none 0 0, .int .i64 0, .slice none 0 0, .slice none 0 0], .int .i64 5]) ?_ rfl ?_
  · simp only [results, Tryz.results6]
    go_simp
  · exact ⟨rfl, bF⟩

set_option maxRecDepth 100000 in
set_option maxHeartbeats 2000000 in
theorem open_bad2 (size height : Int) (v : Value) (b EL SG : List UInt8) (r : Rc) (w : World) (hv : HB w v b) (hTD : TD w) (hbl : b.length ≤ 140737488354000) (hRB : rdB b 0 (b.length : Int) = (0, EL, SG)) (hEl : EL.length ≤ b.length) (hSl : SG.length ≤ b.length) (HSd : Hid (SG = b.drop (b.length - SG.length))) (hok : dcOk size EL = true) (hr : dcR size EL = r) (er ix : Int) (ls ps : List (List UInt8)) (R : List UInt8) (hMR : ∀ v W, HB W v SG → Calls Tryz.prog 25 #[.int .i64 size, .int .i64 height, v] W fun e w' => ∃ p1 c1 p2 c2 p c, e = .returned (.tuple #[.agg #[.int .i64 ix, .slice p1 ls.length c1, .slice p2 ps.length c2], .slice p R.length c, .int .i64 er]) ∧ PA w' (.slice p1 ls.length c1) ls ∧ PA w' (.slice p2 ps.length c2) ps ∧ HB w' (.slice p R.length c) R ∧ Below W.heap.size W w') (her : er = 0) (hR : 0 < R.length) :
    Calls Tryz.prog 6 #[.int .i64 size, .int .i64 height, v] w fun x w' => x = .returned (.tuple #[.agg #[.int .i64 0, .int .i64 0, .slice none 0 0, .int .i64 0, .slice none 0 0, .slice none 0 0, .int .i64 0, .slice none 0 0, .slice none 0 0], .int .i64 5]) ∧ Below w.heap.size w w' := by
  subst her
  have hgt : (0 : Int) < (R.length : Int) := by omega
  obtain ⟨p, c, rfl⟩ := hv.shape
  have b0 := (Below.refl w.heap.size w).alloc (Nat.le_refl _) (.cells #[.int .i64 0, .int .i64 0, .slice none 0 0, .int .i64 0, .slice none 0 0, .slice none 0 0, .int .i64 0, .slice none 0 0, .slice none 0 0] 29)
  have g0 := heap_alloc_new w (.cells #[.int .i64 0, .int .i64 0, .slice none 0 0, .int .i64 0, .slice none 0 0, .slice none 0 0, .int .i64 0, .slice none 0 0, .slice none 0 0] 29)
  obtain ⟨V, hV⟩ : ∃ V, w.alloc (.cells #[.int .i64 0, .int .i64 0, .slice none 0 0, .int .i64 0, .slice none 0 0, .slice none 0 0, .int .i64 0, .slice none 0 0, .slice none 0 0] 29) = V := ⟨_, rfl⟩
  rw [hV] at b0 g0
  have hO := open_any _ b V (hv.later b0) (by omega)
  have hBy := fun g W hh => rbytes_all g b 0 (b.length : Int) W hh (by omega)
  rw [hRB] at hBy
  have hDe := fun v W (hv' : HB W v EL) (ht : TD W) => decode_any size v EL W hv' (by omega) ht
  rw [hok, hr] at hDe
  have hcu := hv.len
  have hws : wrap64 ((b.length : Int) - (SG.length : Int)) = (b.length : Int) - (SG.length : Int) := by unfold wrap64; omega
  have kc : ∀ w', (Instr.slice 22 (.slice p b.length c) (some (.int .i64 ((b.length : Int) - (SG.length : Int)))) none none).run Tryz.prog w' = .ok (.slice (cutP p c (b.length - SG.length)) (b.length - (b.length - SG.length)) (c - (b.length - SG.length))) w' := fun w' => run_cut (P := Tryz.prog) Tryz.underlying22 s_u8 p b.length c (b.length - SG.length) ((b.length : Int) - (SG.length : Int)) (by omega) (by omega) w'
  have hcut : ∀ W, Below w.heap.size w W → HB W (.slice (cutP p c (b.length - SG.length)) (b.length - (b.length - SG.length)) (c - (b.length - SG.length))) SG := by
    intro W hb
    have := (hv.later hb).behind (b.length - SG.length) (by omega)
    rw [← HSd.out] at this
    exact this
  have hl1 : b.length - (b.length - SG.length) = SG.length := by omega
  rw [hl1] at kc hcut
  generalize cutP p c (b.length - SG.length) = pr at *
  generalize c - (b.length - SG.length) = qr at *
  have hrb : (SG.length : Int) ≤ (b.length : Int) := by omega
  clear hRB hok hr hl1 HSd hcu hv
  go_enter Tryz.func6, Tryz.ntmps6
  go_wp2_with fail
  refine hO.mono ?_
  rintro x w2 ⟨g, hg, rfl, rr2, c2⟩
  have d2 := b0.trans (c2.mono b0.size)
  have hgw : w.heap.size < g := by have := (Array.getElem?_eq_some_iff.1 g0).1; omega
  have g2 := (c2.block _ (Array.getElem?_eq_some_iff.1 g0).1).trans g0
  have hB2 := hBy g w2 rr2
  clear hO hV b0 g0 c2 hBy rr2 hg
  go_wp2_with fail
  refine hB2.mono ?_
  rintro x w3 ⟨v3, rfl, p3, c3, hv3, hn3, rr3, o3⟩
  subst hv3
  have d3 := d2.trans (o3.below (Nat.le_of_lt hgw))
  have g3 := (o3.block _ (by omega) (Array.getElem?_eq_some_iff.1 g2).1).trans g2
  have hD3 := hDe _ w3 hn3.1 (hTD.later d3)
  clear hB2 hDe hn3 o3 g2 d2 hTD
  go_wp2_with fail
  refine hD3.mono ?_
  rintro x w4 ⟨_, hD4, c4⟩
  obtain ⟨tv, lv, kv, rfl, ht4, hl4, hk4⟩ := hD4 rfl
  obtain ⟨pt, ct, rfl⟩ := ht4.shape
  obtain ⟨pl, cl, rfl⟩ := hl4.shape
  obtain ⟨pk, ck, rfl⟩ := hk4.shape
  have d4 := d3.trans (c4.mono d3.size)
  have g4 := (c4.block _ (Array.getElem?_eq_some_iff.1 g3).1).trans g3
  have rr4 := rr3.later c4
  have b5 := (Below.refl w4.heap.size w4).alloc (Nat.le_refl _) (.cells #[.int .i64 r.e, .int .i64 r.t, .slice pt r.tr.length ct, .int .i64 r.c, .slice pl r.li.length cl, .slice pk r.lk.length ck] 25)
  have gR := heap_alloc_new w4 (.cells #[.int .i64 r.e, .int .i64 r.t, .slice pt r.tr.length ct, .int .i64 r.c, .slice pl r.li.length cl, .slice pk r.lk.length ck] 25)
  have d5 := d4.trans (b5.mono d4.size)
  have g5 := (b5.block _ (Array.getElem?_eq_some_iff.1 g4).1).trans g4
  have rr5 := rr4.later b5
  have hL5 := rr_left g SG 0 _ rr5
  have ht5 := ht4.later b5
  have hl5 := hl4.later b5
  have hk5 := hk4.later b5
  have hM5 := hMR _ _ (hcut _ d5)
  clear hD3 hD4 rr3 rr4 rr5 g3 g4 d3 d4 ht4 hl4 hk4 hMR hcut c4 b5
  go_wp2_with (first | (go_at_call 26; refine hL5.mono ?_; rintro x w6 ⟨rfl, hw⟩; have hw2 := hw.symm; clear hw; subst hw2) | fail)
  refine hM5.mono ?_
  rintro x w6 ⟨p1, c1, p2, c2, p6, q6, rfl, hX, hY, _, c6⟩
  have d6 := d5.trans (c6.mono d5.size)
  have g6 := (c6.block _ (Array.getElem?_eq_some_iff.1 g5).1).trans g5
  have b7 := (Below.refl w6.heap.size w6).alloc (Nat.le_refl _) (.cells #[.int .i64 ix, .slice p1 ls.length c1, .slice p2 ps.length c2] 27)
  have g7 := (b7.block _ (Array.getElem?_eq_some_iff.1 g6).1).trans g6
  have d7 := d6.trans (b7.mono d6.size)
  have x0 : (w6.alloc (.cells #[.int .i64 ix, .slice p1 ls.length c1, .slice p2 ps.length c2] 27)).cell? ⟨w.heap.size, 0, none⟩ = some (.int .i64 0) := by rw [cell_of_row _ _ 0 _ _ _ g7]; rfl
  have y0 : (w6.alloc (.cells #[.int .i64 ix, .slice p1 ls.length c1, .slice p2 ps.length c2] 27)).frozen? ⟨w.heap.size, 0, none⟩ = false := by simp [World.frozen?, g7]
  have x1 : (w6.alloc (.cells #[.int .i64 ix, .slice p1 ls.length c1, .slice p2 ps.length c2] 27)).cell? ⟨w.heap.size, 1, none⟩ = some (.int .i64 0) := by rw [cell_of_row _ _ 1 _ _ _ g7]; rfl
  have y1 : (w6.alloc (.cells #[.int .i64 ix, .slice p1 ls.length c1, .slice p2 ps.length c2] 27)).frozen? ⟨w.heap.size, 1, none⟩ = false := by simp [World.frozen?, g7]
  have x2 : (w6.alloc (.cells #[.int .i64 ix, .slice p1 ls.length c1, .slice p2 ps.length c2] 27)).cell? ⟨w.heap.size, 2, none⟩ = some (.slice none 0 0) := by rw [cell_of_row _ _ 2 _ _ _ g7]; rfl
  have y2 : (w6.alloc (.cells #[.int .i64 ix, .slice p1 ls.length c1, .slice p2 ps.length c2] 27)).frozen? ⟨w.heap.size, 2, none⟩ = false := by simp [World.frozen?, g7]
  have x3 : (w6.alloc (.cells #[.int .i64 ix, .slice p1 ls.length c1, .slice p2 ps.length c2] 27)).cell? ⟨w.heap.size, 3, none⟩ = some (.int .i64 0) := by rw [cell_of_row _ _ 3 _ _ _ g7]; rfl
  have y3 : (w6.alloc (.cells #[.int .i64 ix, .slice p1 ls.length c1, .slice p2 ps.length c2] 27)).frozen? ⟨w.heap.size, 3, none⟩ = false := by simp [World.frozen?, g7]
  have x4 : (w6.alloc (.cells #[.int .i64 ix, .slice p1 ls.length c1, .slice p2 ps.length c2] 27)).cell? ⟨w.heap.size, 4, none⟩ = some (.slice none 0 0) := by rw [cell_of_row _ _ 4 _ _ _ g7]; rfl
  have y4 : (w6.alloc (.cells #[.int .i64 ix, .slice p1 ls.length c1, .slice p2 ps.length c2] 27)).frozen? ⟨w.heap.size, 4, none⟩ = false := by simp [World.frozen?, g7]
  have x5 : (w6.alloc (.cells #[.int .i64 ix, .slice p1 ls.length c1, .slice p2 ps.length c2] 27)).cell? ⟨w.heap.size, 5, none⟩ = some (.slice none 0 0) := by rw [cell_of_row _ _ 5 _ _ _ g7]; rfl
  have y5 : (w6.alloc (.cells #[.int .i64 ix, .slice p1 ls.length c1, .slice p2 ps.length c2] 27)).frozen? ⟨w.heap.size, 5, none⟩ = false := by simp [World.frozen?, g7]
  have x6 : (w6.alloc (.cells #[.int .i64 ix, .slice p1 ls.length c1, .slice p2 ps.length c2] 27)).cell? ⟨w.heap.size, 6, none⟩ = some (.int .i64 0) := by rw [cell_of_row _ _ 6 _ _ _ g7]; rfl
  have y6 : (w6.alloc (.cells #[.int .i64 ix, .slice p1 ls.length c1, .slice p2 ps.length c2] 27)).frozen? ⟨w.heap.size, 6, none⟩ = false := by simp [World.frozen?, g7]
  have x7 : (w6.alloc (.cells #[.int .i64 ix, .slice p1 ls.length c1, .slice p2 ps.length c2] 27)).cell? ⟨w.heap.size, 7, none⟩ = some (.slice none 0 0) := by rw [cell_of_row _ _ 7 _ _ _ g7]; rfl
  have y7 : (w6.alloc (.cells #[.int .i64 ix, .slice p1 ls.length c1, .slice p2 ps.length c2] 27)).frozen? ⟨w.heap.size, 7, none⟩ = false := by simp [World.frozen?, g7]
  have x8 : (w6.alloc (.cells #[.int .i64 ix, .slice p1 ls.length c1, .slice p2 ps.length c2] 27)).cell? ⟨w.heap.size, 8, none⟩ = some (.slice none 0 0) := by rw [cell_of_row _ _ 8 _ _ _ g7]; rfl
  have y8 : (w6.alloc (.cells #[.int .i64 ix, .slice p1 ls.length c1, .slice p2 ps.length c2] 27)).frozen? ⟨w.heap.size, 8, none⟩ = false := by simp [World.frozen?, g7]
  have hon : Only w.heap.size (w6.alloc (.cells #[.int .i64 ix, .slice p1 ls.length c1, .slice p2 ps.length c2] 27)) ((((((((((w6.alloc (.cells #[.int .i64 ix, .slice p1 ls.length c1, .slice p2 ps.length c2] 27)).setCell ⟨w.heap.size, 0, none⟩ (.int .i64 0)).setCell ⟨w.heap.size, 1, none⟩ (.int .i64 0)).setCell ⟨w.heap.size, 2, none⟩ (.slice none 0 0)).setCell ⟨w.heap.size, 3, none⟩ (.int .i64 0)).setCell ⟨w.heap.size, 4, none⟩ (.slice none 0 0)).setCell ⟨w.heap.size, 5, none⟩ (.slice none 0 0)).setCell ⟨w.heap.size, 6, none⟩ (.int .i64 0)).setCell ⟨w.heap.size, 7, none⟩ (.slice none 0 0)).setCell ⟨w.heap.size, 8, none⟩ (.slice none 0 0)) := (((((((((Only.refl (w.heap.size) (w6.alloc (.cells #[.int .i64 ix, .slice p1 ls.length c1, .slice p2 ps.length c2] 27))).setCell 0 _).setCell 1 _).setCell 2 _).setCell 3 _).setCell 4 _).setCell 5 _).setCell 6 _).setCell 7 _).setCell 8 _
  have bF := d7.trans (hon.below (Nat.le_refl _))
  clear hM5 c6 g6 b7 g5 d5 hon d6 d7 gR ht5 hl5 hk5 hL5 kc hX hY
  go_wp2
  refine bodyPost_ret (v := .tuple #[.agg #[.int .i64 0, .int .i64 0, .slice none 0 0, .int .i64 0, .slice none 0 0, .slice none 0 0, .int .i64 0, .slice none 0 0, .slice none 0 0], .int .i64 5]) ?_ rfl ?_
  · simp only [results, Tryz.results6]
    go_simp
  · exact ⟨rfl, bF⟩

set_option maxRecDepth 100000 in
set_option maxHeartbeats 2000000 in
theorem open_good (size height : Int) (v : Value) (b EL SG : List UInt8) (r : Rc) (w : World) (hv : HB w v b) (hTD : TD w) (hbl : b.length ≤ 140737488354000) (hRB : rdB b 0 (b.length : Int) = (0, EL, SG)) (hEl : EL.length ≤ b.length) (hSl : SG.length ≤ b.length) (HSd : Hid (SG = b.drop (b.length - SG.length))) (hok : dcOk size EL = true) (hr : dcR size EL = r) (er ix : Int) (ls ps : List (List UInt8)) (R : List UInt8) (hMR : ∀ v W, HB W v SG → Calls Tryz.prog 25 #[.int .i64 size, .int .i64 height, v] W fun e w' => ∃ p1 c1 p2 c2 p c, e = .returned (.tuple #[.agg #[.int .i64 ix, .slice p1 ls.length c1, .slice p2 ps.length c2], .slice p R.length c, .int .i64 er]) ∧ PA w' (.slice p1 ls.length c1) ls ∧ PA w' (.slice p2 ps.length c2) ps ∧ HB w' (.slice p R.length c) R ∧ Below W.heap.size W w') (her : er = 0) (hR : R = []) (hpos : ∀ l ∈ r.lk, 0 < l.length) (hposl : ∀ l ∈ ls, 0 < l.length) (hposp : ∀ l ∈ ps, 0 < l.length) :
    Calls Tryz.prog 6 #[.int .i64 size, .int .i64 height, v] w fun x w' => ∃ tv lv kv cv pv, x = .returned (.tuple #[.agg #[.int .i64 r.e, .int .i64 r.t, tv, .int .i64 r.c, lv, kv, .int .i64 ix, cv, pv], .int .i64 0]) ∧ HB w' tv r.tr ∧ HB w' lv r.li ∧ PA w' kv r.lk ∧ PA w' cv ls ∧ PA w' pv ps ∧ Below w.heap.size w w' := by
  subst her
  subst hR
  obtain ⟨p, c, rfl⟩ := hv.shape
  have b0 := (Below.refl w.heap.size w).alloc (Nat.le_refl _) (.cells #[.int .i64 0, .int .i64 0, .slice none 0 0, .int .i64 0, .slice none 0 0, .slice none 0 0, .int .i64 0, .slice none 0 0, .slice none 0 0] 29)
  have g0 := heap_alloc_new w (.cells #[.int .i64 0, .int .i64 0, .slice none 0 0, .int .i64 0, .slice none 0 0, .slice none 0 0, .int .i64 0, .slice none 0 0, .slice none 0 0] 29)
  obtain ⟨V, hV⟩ : ∃ V, w.alloc (.cells #[.int .i64 0, .int .i64 0, .slice none 0 0, .int .i64 0, .slice none 0 0, .slice none 0 0, .int .i64 0, .slice none 0 0, .slice none 0 0] 29) = V := ⟨_, rfl⟩
  rw [hV] at b0 g0
  have hO := open_any _ b V (hv.later b0) (by omega)
  have hBy := fun g W hh => rbytes_all g b 0 (b.length : Int) W hh (by omega)
  rw [hRB] at hBy
  have hDe := fun v W (hv' : HB W v EL) (ht : TD W) => decode_any size v EL W hv' (by omega) ht
  rw [hok, hr] at hDe
  have hcu := hv.len
  have hws : wrap64 ((b.length : Int) - (SG.length : Int)) = (b.length : Int) - (SG.length : Int) := by unfold wrap64; omega
  have kc : ∀ w', (Instr.slice 22 (.slice p b.length c) (some (.int .i64 ((b.length : Int) - (SG.length : Int)))) none none).run Tryz.prog w' = .ok (.slice (cutP p c (b.length - SG.length)) (b.length - (b.length - SG.length)) (c - (b.length - SG.length))) w' := fun w' => run_cut (P := Tryz.prog) Tryz.underlying22 s_u8 p b.length c (b.length - SG.length) ((b.length : Int) - (SG.length : Int)) (by omega) (by omega) w'
  have hcut : ∀ W, Below w.heap.size w W → HB W (.slice (cutP p c (b.length - SG.length)) (b.length - (b.length - SG.length)) (c - (b.length - SG.length))) SG := by
    intro W hb
    have := (hv.later hb).behind (b.length - SG.length) (by omega)
    rw [← HSd.out] at this
    exact this
  have hl1 : b.length - (b.length - SG.length) = SG.length := by omega
  rw [hl1] at kc hcut
  generalize cutP p c (b.length - SG.length) = pr at *
  generalize c - (b.length - SG.length) = qr at *
  have hrb : (SG.length : Int) ≤ (b.length : Int) := by omega
  clear hRB hok hr hl1 HSd hcu hv
  go_enter Tryz.func6, Tryz.ntmps6
  go_wp2_with fail
  refine hO.mono ?_
  rintro x w2 ⟨g, hg, rfl, rr2, c2⟩
  have d2 := b0.trans (c2.mono b0.size)
  have hgw : w.heap.size < g := by have := (Array.getElem?_eq_some_iff.1 g0).1; omega
  have g2 := (c2.block _ (Array.getElem?_eq_some_iff.1 g0).1).trans g0
  have hB2 := hBy g w2 rr2
  clear hO hV b0 g0 c2 hBy rr2 hg
  go_wp2_with fail
  refine hB2.mono ?_
  rintro x w3 ⟨v3, rfl, p3, c3, hv3, hn3, rr3, o3⟩
  subst hv3
  have d3 := d2.trans (o3.below (Nat.le_of_lt hgw))
  have g3 := (o3.block _ (by omega) (Array.getElem?_eq_some_iff.1 g2).1).trans g2
  have hD3 := hDe _ w3 hn3.1 (hTD.later d3)
  clear hB2 hDe hn3 o3 g2 d2 hTD
  go_wp2_with fail
  refine hD3.mono ?_
  rintro x w4 ⟨_, hD4, c4⟩
  obtain ⟨tv, lv, kv, rfl, ht4, hl4, hk4⟩ := hD4 rfl
  obtain ⟨pt, ct, rfl⟩ := ht4.shape
  obtain ⟨pl, cl, rfl⟩ := hl4.shape
  obtain ⟨pk, ck, rfl⟩ := hk4.shape
  have d4 := d3.trans (c4.mono d3.size)
  have g4 := (c4.block _ (Array.getElem?_eq_some_iff.1 g3).1).trans g3
  have rr4 := rr3.later c4
  have b5 := (Below.refl w4.heap.size w4).alloc (Nat.le_refl _) (.cells #[.int .i64 r.e, .int .i64 r.t, .slice pt r.tr.length ct, .int .i64 r.c, .slice pl r.li.length cl, .slice pk r.lk.length ck] 25)
  have gR := heap_alloc_new w4 (.cells #[.int .i64 r.e, .int .i64 r.t, .slice pt r.tr.length ct, .int .i64 r.c, .slice pl r.li.length cl, .slice pk r.lk.length ck] 25)
  have d5 := d4.trans (b5.mono d4.size)
  have g5 := (b5.block _ (Array.getElem?_eq_some_iff.1 g4).1).trans g4
  have rr5 := rr4.later b5
  have hL5 := rr_left g SG 0 _ rr5
  have ht5 := ht4.later b5
  have hl5 := hl4.later b5
  have hk5 := hk4.later b5
  have hM5 := hMR _ _ (hcut _ d5)
  clear hD3 hD4 rr3 rr4 rr5 g3 g4 d3 d4 ht4 hl4 hk4 hMR hcut c4 b5
  go_wp2_with (first | (go_at_call 26; refine hL5.mono ?_; rintro x w6 ⟨rfl, hw⟩; have hw2 := hw.symm; clear hw; subst hw2) | fail)
  refine hM5.mono ?_
  rintro x w6 ⟨p1, c1, p2, c2, p6, q6, rfl, hX, hY, _, c6⟩
  have d6 := d5.trans (c6.mono d5.size)
  have g6 := (c6.block _ (Array.getElem?_eq_some_iff.1 g5).1).trans g5
  have b7 := (Below.refl w6.heap.size w6).alloc (Nat.le_refl _) (.cells #[.int .i64 ix, .slice p1 ls.length c1, .slice p2 ps.length c2] 27)
  have g7 := (b7.block _ (Array.getElem?_eq_some_iff.1 g6).1).trans g6
  have d7 := d6.trans (b7.mono d6.size)
  have gS := heap_alloc_new w6 (.cells #[.int .i64 ix, .slice p1 ls.length c1, .slice p2 ps.length c2] 27)
  have gR6 := (c6.block _ (Array.getElem?_eq_some_iff.1 gR).1).trans gR
  have gR7 := (b7.block _ (Array.getElem?_eq_some_iff.1 gR6).1).trans gR6
  have ht7 := (ht5.later c6).later b7
  have hl7 := (hl5.later c6).later b7
  have hk7 := (hk5.later c6).later b7
  have hX7 := hX.later b7
  have hY7 := hY.later b7
  obtain ⟨w7, hw7⟩ : ∃ w7, w6.alloc (.cells #[.int .i64 ix, .slice p1 ls.length c1, .slice p2 ps.length c2] 27) = w7 := ⟨_, rfl⟩
  rw [hw7] at g7 gR7 gS d7 ht7 hl7 hk7 hX7 hY7
  have x0 : (w7).cell? ⟨w.heap.size, 0, none⟩ = some (.int .i64 0) := by rw [cell_of_row _ _ 0 _ _ _ g7]; rfl
  have y0 : (w7).frozen? ⟨w.heap.size, 0, none⟩ = false := by simp [World.frozen?, g7]
  have x1 : (w7).cell? ⟨w.heap.size, 1, none⟩ = some (.int .i64 0) := by rw [cell_of_row _ _ 1 _ _ _ g7]; rfl
  have y1 : (w7).frozen? ⟨w.heap.size, 1, none⟩ = false := by simp [World.frozen?, g7]
  have x2 : (w7).cell? ⟨w.heap.size, 2, none⟩ = some (.slice none 0 0) := by rw [cell_of_row _ _ 2 _ _ _ g7]; rfl
  have y2 : (w7).frozen? ⟨w.heap.size, 2, none⟩ = false := by simp [World.frozen?, g7]
  have x3 : (w7).cell? ⟨w.heap.size, 3, none⟩ = some (.int .i64 0) := by rw [cell_of_row _ _ 3 _ _ _ g7]; rfl
  have y3 : (w7).frozen? ⟨w.heap.size, 3, none⟩ = false := by simp [World.frozen?, g7]
  have x4 : (w7).cell? ⟨w.heap.size, 4, none⟩ = some (.slice none 0 0) := by rw [cell_of_row _ _ 4 _ _ _ g7]; rfl
  have y4 : (w7).frozen? ⟨w.heap.size, 4, none⟩ = false := by simp [World.frozen?, g7]
  have x5 : (w7).cell? ⟨w.heap.size, 5, none⟩ = some (.slice none 0 0) := by rw [cell_of_row _ _ 5 _ _ _ g7]; rfl
  have y5 : (w7).frozen? ⟨w.heap.size, 5, none⟩ = false := by simp [World.frozen?, g7]
  have x6 : (w7).cell? ⟨w.heap.size, 6, none⟩ = some (.int .i64 0) := by rw [cell_of_row _ _ 6 _ _ _ g7]; rfl
  have y6 : (w7).frozen? ⟨w.heap.size, 6, none⟩ = false := by simp [World.frozen?, g7]
  have x7 : (w7).cell? ⟨w.heap.size, 7, none⟩ = some (.slice none 0 0) := by rw [cell_of_row _ _ 7 _ _ _ g7]; rfl
  have y7 : (w7).frozen? ⟨w.heap.size, 7, none⟩ = false := by simp [World.frozen?, g7]
  have x8 : (w7).cell? ⟨w.heap.size, 8, none⟩ = some (.slice none 0 0) := by rw [cell_of_row _ _ 8 _ _ _ g7]; rfl
  have y8 : (w7).frozen? ⟨w.heap.size, 8, none⟩ = false := by simp [World.frozen?, g7]
  have r0 : w7.cell? ⟨w4.heap.size, 0, none⟩ = some (.int .i64 r.e) := by rw [cell_of_row _ _ 0 _ _ _ gR7]; rfl
  have r1 : w7.cell? ⟨w4.heap.size, 1, none⟩ = some (.int .i64 r.t) := by rw [cell_of_row _ _ 1 _ _ _ gR7]; rfl
  have r2 : w7.cell? ⟨w4.heap.size, 2, none⟩ = some (.slice pt r.tr.length ct) := by rw [cell_of_row _ _ 2 _ _ _ gR7]; rfl
  have r3 : w7.cell? ⟨w4.heap.size, 3, none⟩ = some (.int .i64 r.c) := by rw [cell_of_row _ _ 3 _ _ _ gR7]; rfl
  have r4 : w7.cell? ⟨w4.heap.size, 4, none⟩ = some (.slice pl r.li.length cl) := by rw [cell_of_row _ _ 4 _ _ _ gR7]; rfl
  have r5 : w7.cell? ⟨w4.heap.size, 5, none⟩ = some (.slice pk r.lk.length ck) := by rw [cell_of_row _ _ 5 _ _ _ gR7]; rfl
  have s0 : w7.cell? ⟨w6.heap.size, 0, none⟩ = some (.int .i64 ix) := by rw [cell_of_row _ _ 0 _ _ _ gS]; rfl
  have s1 : w7.cell? ⟨w6.heap.size, 1, none⟩ = some (.slice p1 ls.length c1) := by rw [cell_of_row _ _ 1 _ _ _ gS]; rfl
  have s2 : w7.cell? ⟨w6.heap.size, 2, none⟩ = some (.slice p2 ps.length c2) := by rw [cell_of_row _ _ 2 _ _ _ gS]; rfl
  have hon : Only w.heap.size (w7) ((((((((((w7).setCell ⟨w.heap.size, 0, none⟩ (.int .i64 r.e)).setCell ⟨w.heap.size, 1, none⟩ (.int .i64 r.t)).setCell ⟨w.heap.size, 2, none⟩ (.slice pt r.tr.length ct)).setCell ⟨w.heap.size, 3, none⟩ (.int .i64 r.c)).setCell ⟨w.heap.size, 4, none⟩ (.slice pl r.li.length cl)).setCell ⟨w.heap.size, 5, none⟩ (.slice pk r.lk.length ck)).setCell ⟨w.heap.size, 6, none⟩ (.int .i64 ix)).setCell ⟨w.heap.size, 7, none⟩ (.slice p1 ls.length c1)).setCell ⟨w.heap.size, 8, none⟩ (.slice p2 ps.length c2)) := (((((((((Only.refl (w.heap.size) (w7)).setCell 0 _).setCell 1 _).setCell 2 _).setCell 3 _).setCell 4 _).setCell 5 _).setCell 6 _).setCell 7 _).setCell 8 _
  have bF := d7.trans (hon.below (Nat.le_refl _))
  have nb : ∀ x ∈ (#[.int .i64 0, .int .i64 0, .slice none 0 0, .int .i64 0, .slice none 0 0, .slice none 0 0, .int .i64 0, .slice none 0 0, .slice none 0 0] : Array Value).toList, ∀ y : UInt8, x ≠ bc y := by
    intro x hx y
    simp only [List.mem_cons, List.not_mem_nil, or_false] at hx
    rcases hx with rfl | rfl | rfl | rfl | rfl | rfl | rfl | rfl | rfl <;> simp [bc]
  have nz : ∀ x ∈ (#[.int .i64 0, .int .i64 0, .slice none 0 0, .int .i64 0, .slice none 0 0, .slice none 0 0, .int .i64 0, .slice none 0 0, .slice none 0 0] : Array Value).toList, ∀ q n c, x = Value.slice q n c → n = 0 := by
    intro x hx q n c e
    simp only [List.mem_cons, List.not_mem_nil, or_false] at hx
    rcases hx with rfl | rfl | rfl | rfl | rfl | rfl | rfl | rfl | rfl <;> simp at e <;> omega
  have tF := ht7.onlyC g7 nb hon
  have lF := hl7.onlyC g7 nb hon
  have kF := hk7.onlyC hpos g7 nb nz hon
  have xF := hX7.onlyC hposl g7 nb nz hon
  have yF := hY7.onlyC hposp g7 nb nz hon
  clear hM5 c6 g6 b7 g5 d5 hon d6 d7 gR ht5 hl5 hk5 hL5 kc ht7 hl7 hk7 hX hY hX7 hY7 gR6 gR7 gS nb nz
  go_wp2
  refine bodyPost_ret (v := .tuple #[.agg #[.int .i64 r.e, .int .i64 r.t, .slice pt r.tr.length ct, .int .i64 r.c, .slice pl r.li.length cl, .slice pk r.lk.length ck, .int .i64 ix, .slice p1 ls.length c1, .slice p2 ps.length c2], .int .i64 0]) ?_ rfl ?_
  · simp only [results, Tryz.results6]
    go_simp
  · exact ⟨_, _, _, _, _, rfl, tF, lF, kF, xF, yF, bF⟩

end Go.Proofs.YtganajmhdpiipaaGreatDoor

namespace Go.Proofs.YtganajmhdpiipaaGreatDoor
open Go.RowKit

theorem told_of {ok : Bool} {r : Rc} {de : Int} {w w' : World} {x : Ending} (h : DecTold ok r w x w') (h0 : ok = false → r = ⟨0, 0, 0, [], [], []⟩ ∧ de = 5) (h1 : ok = true → de = 0) : ∃ p q p2 q2 p3 q3, x = .returned (.tuple #[.agg #[.int .i64 r.e, .int .i64 r.t, .slice p r.tr.length q, .int .i64 r.c, .slice p2 r.li.length q2, .slice p3 r.lk.length q3], .int .i64 de]) ∧ HB w' (.slice p r.tr.length q) r.tr ∧ HB w' (.slice p2 r.li.length q2) r.li ∧ PA w' (.slice p3 r.lk.length q3) r.lk ∧ Below w.heap.size w w' := by
  obtain ⟨a1, a2, a3⟩ := h
  cases hk : ok with
  | false =>
    obtain ⟨rfl, rfl⟩ := h0 hk
    exact ⟨none, 0, none, 0, none, 0, a1 hk, HB.nil _, HB.nil _, PA.nil _, a3⟩
  | true =>
    have h2 := h1 hk
    subst h2
    obtain ⟨tv, lv, kv, rfl, g1, g2, g3⟩ := a2 hk
    obtain ⟨p, q, rfl⟩ := g1.shape
    obtain ⟨p2, q2, rfl⟩ := g2.shape
    obtain ⟨p3, q3, rfl⟩ := g3.shape
    exact ⟨p, q, p2, q2, p3, q3, rfl, g1, g2, g3, a3⟩

set_option maxRecDepth 100000 in
set_option maxHeartbeats 2000000 in
theorem ropen_err (size height : Int) (v : Value) (b EL SG : List UInt8) (e1 : Int) (w : World) (hv : HB w v b) (hbl : b.length ≤ 140737488354000) (hRB : rdB b 0 4096 = (e1, EL, SG)) (he1 : e1 ≠ 0) :
    Calls Tryz.prog 7 #[.int .i64 size, .int .i64 height, v] w fun x w' => x = .returned (.tuple #[.agg #[.int .i64 0, .int .i64 0, .slice none 0 0, .int .i64 0, .slice none 0 0, .slice none 0 0, .int .i64 0, .slice none 0 0, .slice none 0 0], .int .i64 5]) ∧ Below w.heap.size w w' := by
  have hne : (e1 != 0) = true := by simpa using he1
  have hne2 : (e1 == 0) = false := by simpa using he1
  obtain ⟨p, c, rfl⟩ := hv.shape
  have bA := (Below.refl w.heap.size w).alloc (Nat.le_refl _) (.cells #[.int .i64 0, .int .i64 0, .slice none 0 0, .int .i64 0, .slice none 0 0, .slice none 0 0, .int .i64 0, .slice none 0 0, .slice none 0 0] 29)
  have gA := heap_alloc_new w (.cells #[.int .i64 0, .int .i64 0, .slice none 0 0, .int .i64 0, .slice none 0 0, .slice none 0 0, .int .i64 0, .slice none 0 0, .slice none 0 0] 29)
  obtain ⟨V, hV⟩ : ∃ V, V = w.alloc (.cells #[.int .i64 0, .int .i64 0, .slice none 0 0, .int .i64 0, .slice none 0 0, .slice none 0 0, .int .i64 0, .slice none 0 0, .slice none 0 0] 29) := ⟨_, rfl⟩
  rw [← hV] at bA gA
  have sV : w.heap.size < V.heap.size := (Array.getElem?_eq_some_iff.1 gA).1
  have bV := (Below.refl V.heap.size V).alloc (Nat.le_refl _) (.cells #[] 5)
  have hf := (hv.later bA).later bV
  have sV1 : V.heap.size = w.heap.size + 1 := by rw [hV]; simp
  have hmade : (V.alloc (.cells #[] 5)).ownsRow (w.heap.size + 1) 5 1 (.slice (some ⟨w.heap.size + 1, 0, none⟩) 0 0) 0 (bcs []) := by
    have := World.ownsRow_made (e := 5) (size := 1) (base := V.heap.size) V #[] 0 (Nat.le_refl _) (Nat.zero_le _) rfl
    rw [sV1] at this
    exact this
  rw [hV] at hf hmade
  have hBy := fun g W hh => xbytes_all g b 0 4096 W hh (fun h => absurd rfl h) (by omega)
  rw [hRB] at hBy
  clear hv hRB
  go_enter Tryz.func7, Tryz.ntmps7
  go_wp2_with (first | (at_builtin; refine wpList_append_hb rfl (.tmp 15) (.tmp 16) 22 rfl (w.heap.size + 1) 5 Tryz.underlying22 i_u8 _ 0 (bcs []) rfl hmade _ _ _ b rfl hf ?qa ?qb ?_))
  case qa => omega
  try (case qb => simp)
  intro v1 w1 hown1 hgrow1
  rw [← hV] at hgrow1
  rw [← sV1] at hown1
  have hb1 : Below V.heap.size V w1 := bV.grown hgrow1 (by simp) (by intro k hk; cases hk; show _ ≤ w.heap.size + 1; omega)
  have hown1' : w1.ownsRow V.heap.size 5 1 v1 b.length (bcs b) := by simpa [bcs] using hown1
  have hlt := hown1'.lt
  obtain ⟨p1, d1, rfl⟩ := owns_shape hown1'
  have hh := HB.of_owns hown1'
  have hty := fun a n c (e : Value.slice p1 b.length d1 = .slice (some a) n c) => TY.of_owns hown1' e
  have bW := (Below.refl w1.heap.size w1).alloc (Nat.le_refl _) (.cells #[.slice p1 b.length d1, .int .i64 0] 55)
  have x2 : XR (w1.alloc (.cells #[.slice p1 b.length d1, .int .i64 0] 55)) w1.heap.size b 0 := ⟨p1, d1, heap_alloc_new w1 _, hh.later bW, fun a n c e => ⟨by have := (hlt a.block (by rw [e]; rfl)).2; omega, (hty a n c e).later bW⟩⟩
  have d2 := bA.trans ((hb1.trans (bW.mono hb1.size)).mono bA.size)
  have g2 := ((hb1.trans (bW.mono hb1.size)).block _ sV).trans gA
  have hgw : w.heap.size < w1.heap.size := by have := hb1.size; omega
  clear hgrow1 hown1 hown1' hlt hf hh hty bA gA bV hmade sV1
  have hB2 := hBy _ _ x2
  clear hBy
  go_wp2_with fail
  refine hB2.mono ?_
  rintro x w3 ⟨v3, rfl, p3, c3, hv3, hn3, rr3, o3⟩
  subst hv3
  generalize hgg : w1.heap.size = g at *
  have d3 := d2.trans (o3.below (Nat.le_of_lt hgw))
  have g3 := (o3.block _ (by omega) (Array.getElem?_eq_some_iff.1 g2).1).trans g2
  clear hB2 o3 g2 d2 bW x2 hb1 hgg hV
  obtain ⟨q3, k3, hd3, hh3⟩ := rr3
  obtain ⟨e30, e31⟩ := hd3.cells
  have x0 : (w3).cell? ⟨w.heap.size, 0, none⟩ = some (.int .i64 0) := by rw [cell_of_row _ _ 0 _ _ _ g3]; rfl
  have y0 : (w3).frozen? ⟨w.heap.size, 0, none⟩ = false := by simp [World.frozen?, g3]
  have x1 : (w3).cell? ⟨w.heap.size, 1, none⟩ = some (.int .i64 0) := by rw [cell_of_row _ _ 1 _ _ _ g3]; rfl
  have y1 : (w3).frozen? ⟨w.heap.size, 1, none⟩ = false := by simp [World.frozen?, g3]
  have x2 : (w3).cell? ⟨w.heap.size, 2, none⟩ = some (.slice none 0 0) := by rw [cell_of_row _ _ 2 _ _ _ g3]; rfl
  have y2 : (w3).frozen? ⟨w.heap.size, 2, none⟩ = false := by simp [World.frozen?, g3]
  have x3 : (w3).cell? ⟨w.heap.size, 3, none⟩ = some (.int .i64 0) := by rw [cell_of_row _ _ 3 _ _ _ g3]; rfl
  have y3 : (w3).frozen? ⟨w.heap.size, 3, none⟩ = false := by simp [World.frozen?, g3]
  have x4 : (w3).cell? ⟨w.heap.size, 4, none⟩ = some (.slice none 0 0) := by rw [cell_of_row _ _ 4 _ _ _ g3]; rfl
  have y4 : (w3).frozen? ⟨w.heap.size, 4, none⟩ = false := by simp [World.frozen?, g3]
  have x5 : (w3).cell? ⟨w.heap.size, 5, none⟩ = some (.slice none 0 0) := by rw [cell_of_row _ _ 5 _ _ _ g3]; rfl
  have y5 : (w3).frozen? ⟨w.heap.size, 5, none⟩ = false := by simp [World.frozen?, g3]
  have x6 : (w3).cell? ⟨w.heap.size, 6, none⟩ = some (.int .i64 0) := by rw [cell_of_row _ _ 6 _ _ _ g3]; rfl
  have y6 : (w3).frozen? ⟨w.heap.size, 6, none⟩ = false := by simp [World.frozen?, g3]
  have x7 : (w3).cell? ⟨w.heap.size, 7, none⟩ = some (.slice none 0 0) := by rw [cell_of_row _ _ 7 _ _ _ g3]; rfl
  have y7 : (w3).frozen? ⟨w.heap.size, 7, none⟩ = false := by simp [World.frozen?, g3]
  have x8 : (w3).cell? ⟨w.heap.size, 8, none⟩ = some (.slice none 0 0) := by rw [cell_of_row _ _ 8 _ _ _ g3]; rfl
  have y8 : (w3).frozen? ⟨w.heap.size, 8, none⟩ = false := by simp [World.frozen?, g3]
  have hon : Only w.heap.size (w3) ((((((((((w3).setCell ⟨w.heap.size, 0, none⟩ (.int .i64 0)).setCell ⟨w.heap.size, 1, none⟩ (.int .i64 0)).setCell ⟨w.heap.size, 2, none⟩ (.slice none 0 0)).setCell ⟨w.heap.size, 3, none⟩ (.int .i64 0)).setCell ⟨w.heap.size, 4, none⟩ (.slice none 0 0)).setCell ⟨w.heap.size, 5, none⟩ (.slice none 0 0)).setCell ⟨w.heap.size, 6, none⟩ (.int .i64 0)).setCell ⟨w.heap.size, 7, none⟩ (.slice none 0 0)).setCell ⟨w.heap.size, 8, none⟩ (.slice none 0 0)) := (((((((((Only.refl (w.heap.size) (w3)).setCell 0 _).setCell 1 _).setCell 2 _).setCell 3 _).setCell 4 _).setCell 5 _).setCell 6 _).setCell 7 _).setCell 8 _
  have d7 := d3
  have bF := d7.trans (hon.below (Nat.le_refl _))
  clear hn3 hd3 hh3 g3 d3 d7 hon
  go_wp2
  refine bodyPost_ret (v := .tuple #[.agg #[.int .i64 0, .int .i64 0, .slice none 0 0, .int .i64 0, .slice none 0 0, .slice none 0 0, .int .i64 0, .slice none 0 0, .slice none 0 0], .int .i64 5]) ?_ rfl ?_
  · simp only [results, Tryz.results7]
    go_simp
  · exact ⟨rfl, bF⟩

set_option maxRecDepth 100000 in
set_option maxHeartbeats 2000000 in
theorem ropen_bad0 (size height : Int) (v : Value) (b EL SG : List UInt8) (r : Rc) (de : Int) (w : World) (hv : HB w v b) (hbl : b.length ≤ 140737488354000) (hRB : rdB b 0 4096 = (0, EL, SG)) (hDe : ∀ v W, HB W v EL → Calls Tryz.prog 28 #[.int .i64 size, v] W fun x w' => ∃ p q p2 q2 p3 q3, x = .returned (.tuple #[.agg #[.int .i64 r.e, .int .i64 r.t, .slice p r.tr.length q, .int .i64 r.c, .slice p2 r.li.length q2, .slice p3 r.lk.length q3], .int .i64 de]) ∧ HB w' (.slice p r.tr.length q) r.tr ∧ HB w' (.slice p2 r.li.length q2) r.li ∧ PA w' (.slice p3 r.lk.length q3) r.lk ∧ Below W.heap.size W w') (er ix : Int) (ls ps : List (List UInt8)) (R : List UInt8) (hMR : ∀ v W, HB W v SG → Calls Tryz.prog 29 #[.int .i64 size, .int .i64 height, v] W fun e w' => ∃ p1 c1 p2 c2 p c, e = .returned (.tuple #[.agg #[.int .i64 ix, .slice p1 ls.length c1, .slice p2 ps.length c2], .slice p R.length c, .int .i64 er]) ∧ PA w' (.slice p1 ls.length c1) ls ∧ PA w' (.slice p2 ps.length c2) ps ∧ HB w' (.slice p R.length c) R ∧ Below W.heap.size W w') (hde : de ≠ 0) :
    Calls Tryz.prog 7 #[.int .i64 size, .int .i64 height, v] w fun x w' => x = .returned (.tuple #[.agg #[.int .i64 0, .int .i64 0, .slice none 0 0, .int .i64 0, .slice none 0 0, .slice none 0 0, .int .i64 0, .slice none 0 0, .slice none 0 0], .int .i64 5]) ∧ Below w.heap.size w w' := by
  have hne : (de != 0) = true := by simpa using hde
  have hne2 : (de == 0) = false := by simpa using hde
  obtain ⟨p, c, rfl⟩ := hv.shape
  have bA := (Below.refl w.heap.size w).alloc (Nat.le_refl _) (.cells #[.int .i64 0, .int .i64 0, .slice none 0 0, .int .i64 0, .slice none 0 0, .slice none 0 0, .int .i64 0, .slice none 0 0, .slice none 0 0] 29)
  have gA := heap_alloc_new w (.cells #[.int .i64 0, .int .i64 0, .slice none 0 0, .int .i64 0, .slice none 0 0, .slice none 0 0, .int .i64 0, .slice none 0 0, .slice none 0 0] 29)
  obtain ⟨V, hV⟩ : ∃ V, V = w.alloc (.cells #[.int .i64 0, .int .i64 0, .slice none 0 0, .int .i64 0, .slice none 0 0, .slice none 0 0, .int .i64 0, .slice none 0 0, .slice none 0 0] 29) := ⟨_, rfl⟩
  rw [← hV] at bA gA
  have sV : w.heap.size < V.heap.size := (Array.getElem?_eq_some_iff.1 gA).1
  have bV := (Below.refl V.heap.size V).alloc (Nat.le_refl _) (.cells #[] 5)
  have hf := (hv.later bA).later bV
  have sV1 : V.heap.size = w.heap.size + 1 := by rw [hV]; simp
  have hmade : (V.alloc (.cells #[] 5)).ownsRow (w.heap.size + 1) 5 1 (.slice (some ⟨w.heap.size + 1, 0, none⟩) 0 0) 0 (bcs []) := by
    have := World.ownsRow_made (e := 5) (size := 1) (base := V.heap.size) V #[] 0 (Nat.le_refl _) (Nat.zero_le _) rfl
    rw [sV1] at this
    exact this
  rw [hV] at hf hmade
  have hBy := fun g W hh => xbytes_all g b 0 4096 W hh (fun h => absurd rfl h) (by omega)
  rw [hRB] at hBy
  clear hv hRB
  go_enter Tryz.func7, Tryz.ntmps7
  go_wp2_with (first | (at_builtin; refine wpList_append_hb rfl (.tmp 15) (.tmp 16) 22 rfl (w.heap.size + 1) 5 Tryz.underlying22 i_u8 _ 0 (bcs []) rfl hmade _ _ _ b rfl hf ?qa ?qb ?_))
  case qa => omega
  try (case qb => simp)
  intro v1 w1 hown1 hgrow1
  rw [← hV] at hgrow1
  rw [← sV1] at hown1
  have hb1 : Below V.heap.size V w1 := bV.grown hgrow1 (by simp) (by intro k hk; cases hk; show _ ≤ w.heap.size + 1; omega)
  have hown1' : w1.ownsRow V.heap.size 5 1 v1 b.length (bcs b) := by simpa [bcs] using hown1
  have hlt := hown1'.lt
  obtain ⟨p1, d1, rfl⟩ := owns_shape hown1'
  have hh := HB.of_owns hown1'
  have hty := fun a n c (e : Value.slice p1 b.length d1 = .slice (some a) n c) => TY.of_owns hown1' e
  have bW := (Below.refl w1.heap.size w1).alloc (Nat.le_refl _) (.cells #[.slice p1 b.length d1, .int .i64 0] 55)
  have x2 : XR (w1.alloc (.cells #[.slice p1 b.length d1, .int .i64 0] 55)) w1.heap.size b 0 := ⟨p1, d1, heap_alloc_new w1 _, hh.later bW, fun a n c e => ⟨by have := (hlt a.block (by rw [e]; rfl)).2; omega, (hty a n c e).later bW⟩⟩
  have d2 := bA.trans ((hb1.trans (bW.mono hb1.size)).mono bA.size)
  have g2 := ((hb1.trans (bW.mono hb1.size)).block _ sV).trans gA
  have hgw : w.heap.size < w1.heap.size := by have := hb1.size; omega
  clear hgrow1 hown1 hown1' hlt hf hh hty bA gA bV hmade sV1
  have hB2 := hBy _ _ x2
  clear hBy
  go_wp2_with fail
  refine hB2.mono ?_
  rintro x w3 ⟨v3, rfl, p3, c3, hv3, hn3, rr3, o3⟩
  subst hv3
  generalize hgg : w1.heap.size = g at *
  have d3 := d2.trans (o3.below (Nat.le_of_lt hgw))
  have g3 := (o3.block _ (by omega) (Array.getElem?_eq_some_iff.1 g2).1).trans g2
  clear hB2 o3 g2 d2 bW x2 hb1 hgg hV
  obtain ⟨q3, k3, hd3, hh3⟩ := rr3
  obtain ⟨e30, e31⟩ := hd3.cells
  have hD3 := hDe _ w3 hn3.1
  clear hDe hn3
  go_wp2_with fail
  refine hD3.mono ?_
  rintro x w4 ⟨pt, ct, pl, cl, pk, ck, rfl, ht4, hl4, hk4, c4⟩
  clear hD3
  have d4 := d3.trans (c4.mono d3.size)
  have g4 := (c4.block _ (Array.getElem?_eq_some_iff.1 g3).1).trans g3
  have hd4 := hd3.later c4
  have hh4 := hh3.later c4
  have b5 := (Below.refl w4.heap.size w4).alloc (Nat.le_refl _) (.cells #[.int .i64 r.e, .int .i64 r.t, .slice pt r.tr.length ct, .int .i64 r.c, .slice pl r.li.length cl, .slice pk r.lk.length ck] 25)
  have gR := heap_alloc_new w4 (.cells #[.int .i64 r.e, .int .i64 r.t, .slice pt r.tr.length ct, .int .i64 r.c, .slice pl r.li.length cl, .slice pk r.lk.length ck] 25)
  have d5 := d4.trans (b5.mono d4.size)
  have g5 := (b5.block _ (Array.getElem?_eq_some_iff.1 g4).1).trans g4
  have hd5 := hd4.later b5
  have hh5 := hh4.later b5
  obtain ⟨e50, e51⟩ := hd5.cells
  have ht5 := ht4.later b5
  have hl5 := hl4.later b5
  have hk5 := hk4.later b5
  have hM5 := hMR _ _ hh5.1
  clear g3 g4 d3 d4 ht4 hl4 hk4 hMR c4 b5 hd3 hd4 hh3 hh4 hh5 hd5 e30 e31
  go_wp2_with fail
  refine hM5.mono ?_
  rintro x w6 ⟨p1, c1, p2, c2, p6, q6, rfl, hX, hY, _, c6⟩
  have d6 := d5.trans (c6.mono d5.size)
  have g6 := (c6.block _ (Array.getElem?_eq_some_iff.1 g5).1).trans g5
  have b7 := (Below.refl w6.heap.size w6).alloc (Nat.le_refl _) (.cells #[.int .i64 ix, .slice p1 ls.length c1, .slice p2 ps.length c2] 27)
  have g7 := (b7.block _ (Array.getElem?_eq_some_iff.1 g6).1).trans g6
  have d7 := d6.trans (b7.mono d6.size)
  have x0 : (w6.alloc (.cells #[.int .i64 ix, .slice p1 ls.length c1, .slice p2 ps.length c2] 27)).cell? ⟨w.heap.size, 0, none⟩ = some (.int .i64 0) := by rw [cell_of_row _ _ 0 _ _ _ g7]; rfl
  have y0 : (w6.alloc (.cells #[.int .i64 ix, .slice p1 ls.length c1, .slice p2 ps.length c2] 27)).frozen? ⟨w.heap.size, 0, none⟩ = false := by simp [World.frozen?, g7]
  have x1 : (w6.alloc (.cells #[.int .i64 ix, .slice p1 ls.length c1, .slice p2 ps.length c2] 27)).cell? ⟨w.heap.size, 1, none⟩ = some (.int .i64 0) := by rw [cell_of_row _ _ 1 _ _ _ g7]; rfl
  have y1 : (w6.alloc (.cells #[.int .i64 ix, .slice p1 ls.length c1, .slice p2 ps.length c2] 27)).frozen? ⟨w.heap.size, 1, none⟩ = false := by simp [World.frozen?, g7]
  have x2 : (w6.alloc (.cells #[.int .i64 ix, .slice p1 ls.length c1, .slice p2 ps.length c2] 27)).cell? ⟨w.heap.size, 2, none⟩ = some (.slice none 0 0) := by rw [cell_of_row _ _ 2 _ _ _ g7]; rfl
  have y2 : (w6.alloc (.cells #[.int .i64 ix, .slice p1 ls.length c1, .slice p2 ps.length c2] 27)).frozen? ⟨w.heap.size, 2, none⟩ = false := by simp [World.frozen?, g7]
  have x3 : (w6.alloc (.cells #[.int .i64 ix, .slice p1 ls.length c1, .slice p2 ps.length c2] 27)).cell? ⟨w.heap.size, 3, none⟩ = some (.int .i64 0) := by rw [cell_of_row _ _ 3 _ _ _ g7]; rfl
  have y3 : (w6.alloc (.cells #[.int .i64 ix, .slice p1 ls.length c1, .slice p2 ps.length c2] 27)).frozen? ⟨w.heap.size, 3, none⟩ = false := by simp [World.frozen?, g7]
  have x4 : (w6.alloc (.cells #[.int .i64 ix, .slice p1 ls.length c1, .slice p2 ps.length c2] 27)).cell? ⟨w.heap.size, 4, none⟩ = some (.slice none 0 0) := by rw [cell_of_row _ _ 4 _ _ _ g7]; rfl
  have y4 : (w6.alloc (.cells #[.int .i64 ix, .slice p1 ls.length c1, .slice p2 ps.length c2] 27)).frozen? ⟨w.heap.size, 4, none⟩ = false := by simp [World.frozen?, g7]
  have x5 : (w6.alloc (.cells #[.int .i64 ix, .slice p1 ls.length c1, .slice p2 ps.length c2] 27)).cell? ⟨w.heap.size, 5, none⟩ = some (.slice none 0 0) := by rw [cell_of_row _ _ 5 _ _ _ g7]; rfl
  have y5 : (w6.alloc (.cells #[.int .i64 ix, .slice p1 ls.length c1, .slice p2 ps.length c2] 27)).frozen? ⟨w.heap.size, 5, none⟩ = false := by simp [World.frozen?, g7]
  have x6 : (w6.alloc (.cells #[.int .i64 ix, .slice p1 ls.length c1, .slice p2 ps.length c2] 27)).cell? ⟨w.heap.size, 6, none⟩ = some (.int .i64 0) := by rw [cell_of_row _ _ 6 _ _ _ g7]; rfl
  have y6 : (w6.alloc (.cells #[.int .i64 ix, .slice p1 ls.length c1, .slice p2 ps.length c2] 27)).frozen? ⟨w.heap.size, 6, none⟩ = false := by simp [World.frozen?, g7]
  have x7 : (w6.alloc (.cells #[.int .i64 ix, .slice p1 ls.length c1, .slice p2 ps.length c2] 27)).cell? ⟨w.heap.size, 7, none⟩ = some (.slice none 0 0) := by rw [cell_of_row _ _ 7 _ _ _ g7]; rfl
  have y7 : (w6.alloc (.cells #[.int .i64 ix, .slice p1 ls.length c1, .slice p2 ps.length c2] 27)).frozen? ⟨w.heap.size, 7, none⟩ = false := by simp [World.frozen?, g7]
  have x8 : (w6.alloc (.cells #[.int .i64 ix, .slice p1 ls.length c1, .slice p2 ps.length c2] 27)).cell? ⟨w.heap.size, 8, none⟩ = some (.slice none 0 0) := by rw [cell_of_row _ _ 8 _ _ _ g7]; rfl
  have y8 : (w6.alloc (.cells #[.int .i64 ix, .slice p1 ls.length c1, .slice p2 ps.length c2] 27)).frozen? ⟨w.heap.size, 8, none⟩ = false := by simp [World.frozen?, g7]
  have hon : Only w.heap.size (w6.alloc (.cells #[.int .i64 ix, .slice p1 ls.length c1, .slice p2 ps.length c2] 27)) ((((((((((w6.alloc (.cells #[.int .i64 ix, .slice p1 ls.length c1, .slice p2 ps.length c2] 27)).setCell ⟨w.heap.size, 0, none⟩ (.int .i64 0)).setCell ⟨w.heap.size, 1, none⟩ (.int .i64 0)).setCell ⟨w.heap.size, 2, none⟩ (.slice none 0 0)).setCell ⟨w.heap.size, 3, none⟩ (.int .i64 0)).setCell ⟨w.heap.size, 4, none⟩ (.slice none 0 0)).setCell ⟨w.heap.size, 5, none⟩ (.slice none 0 0)).setCell ⟨w.heap.size, 6, none⟩ (.int .i64 0)).setCell ⟨w.heap.size, 7, none⟩ (.slice none 0 0)).setCell ⟨w.heap.size, 8, none⟩ (.slice none 0 0)) := (((((((((Only.refl (w.heap.size) (w6.alloc (.cells #[.int .i64 ix, .slice p1 ls.length c1, .slice p2 ps.length c2] 27))).setCell 0 _).setCell 1 _).setCell 2 _).setCell 3 _).setCell 4 _).setCell 5 _).setCell 6 _).setCell 7 _).setCell 8 _
  have bF := d7.trans (hon.below (Nat.le_refl _))
  clear hM5 c6 g6 b7 g5 d5 hon d6 d7 gR ht5 hl5 hk5 hX hY e50 e51
  go_wp2
  refine bodyPost_ret (v := .tuple #[.agg #[.int .i64 0, .int .i64 0, .slice none 0 0, .int .i64 0, .slice none 0 0, .slice none 0 0, .int .i64 0, .slice none 0 0, .slice none 0 0], .int .i64 5]) ?_ rfl ?_
  · simp only [results, Tryz.results7]
    go_simp
  · exact ⟨rfl, bF⟩

set_option maxRecDepth 100000 in
set_option maxHeartbeats 2000000 in
theorem ropen_bad1 (size height : Int) (v : Value) (b EL SG : List UInt8) (r : Rc) (de : Int) (w : World) (hv : HB w v b) (hbl : b.length ≤ 140737488354000) (hRB : rdB b 0 4096 = (0, EL, SG)) (hDe : ∀ v W, HB W v EL → Calls Tryz.prog 28 #[.int .i64 size, v] W fun x w' => ∃ p q p2 q2 p3 q3, x = .returned (.tuple #[.agg #[.int .i64 r.e, .int .i64 r.t, .slice p r.tr.length q, .int .i64 r.c, .slice p2 r.li.length q2, .slice p3 r.lk.length q3], .int .i64 de]) ∧ HB w' (.slice p r.tr.length q) r.tr ∧ HB w' (.slice p2 r.li.length q2) r.li ∧ PA w' (.slice p3 r.lk.length q3) r.lk ∧ Below W.heap.size W w') (er ix : Int) (ls ps : List (List UInt8)) (R : List UInt8) (hMR : ∀ v W, HB W v SG → Calls Tryz.prog 29 #[.int .i64 size, .int .i64 height, v] W fun e w' => ∃ p1 c1 p2 c2 p c, e = .returned (.tuple #[.agg #[.int .i64 ix, .slice p1 ls.length c1, .slice p2 ps.length c2], .slice p R.length c, .int .i64 er]) ∧ PA w' (.slice p1 ls.length c1) ls ∧ PA w' (.slice p2 ps.length c2) ps ∧ HB w' (.slice p R.length c) R ∧ Below W.heap.size W w') (hde : de = 0) (her : er ≠ 0) :
    Calls Tryz.prog 7 #[.int .i64 size, .int .i64 height, v] w fun x w' => x = .returned (.tuple #[.agg #[.int .i64 0, .int .i64 0, .slice none 0 0, .int .i64 0, .slice none 0 0, .slice none 0 0, .int .i64 0, .slice none 0 0, .slice none 0 0], .int .i64 5]) ∧ Below w.heap.size w w' := by
  subst hde
  have hne : (er != 0) = true := by simpa using her
  have hne2 : (er == 0) = false := by simpa using her
  obtain ⟨p, c, rfl⟩ := hv.shape
  have bA := (Below.refl w.heap.size w).alloc (Nat.le_refl _) (.cells #[.int .i64 0, .int .i64 0, .slice none 0 0, .int .i64 0, .slice none 0 0, .slice none 0 0, .int .i64 0, .slice none 0 0, .slice none 0 0] 29)
  have gA := heap_alloc_new w (.cells #[.int .i64 0, .int .i64 0, .slice none 0 0, .int .i64 0, .slice none 0 0, .slice none 0 0, .int .i64 0, .slice none 0 0, .slice none 0 0] 29)
  obtain ⟨V, hV⟩ : ∃ V, V = w.alloc (.cells #[.int .i64 0, .int .i64 0, .slice none 0 0, .int .i64 0, .slice none 0 0, .slice none 0 0, .int .i64 0, .slice none 0 0, .slice none 0 0] 29) := ⟨_, rfl⟩
  rw [← hV] at bA gA
  have sV : w.heap.size < V.heap.size := (Array.getElem?_eq_some_iff.1 gA).1
  have bV := (Below.refl V.heap.size V).alloc (Nat.le_refl _) (.cells #[] 5)
  have hf := (hv.later bA).later bV
  have sV1 : V.heap.size = w.heap.size + 1 := by rw [hV]; simp
  have hmade : (V.alloc (.cells #[] 5)).ownsRow (w.heap.size + 1) 5 1 (.slice (some ⟨w.heap.size + 1, 0, none⟩) 0 0) 0 (bcs []) := by
    have := World.ownsRow_made (e := 5) (size := 1) (base := V.heap.size) V #[] 0 (Nat.le_refl _) (Nat.zero_le _) rfl
    rw [sV1] at this
    exact this
  rw [hV] at hf hmade
  have hBy := fun g W hh => xbytes_all g b 0 4096 W hh (fun h => absurd rfl h) (by omega)
  rw [hRB] at hBy
  clear hv hRB
  go_enter Tryz.func7, Tryz.ntmps7
  go_wp2_with (first | (at_builtin; refine wpList_append_hb rfl (.tmp 15) (.tmp 16) 22 rfl (w.heap.size + 1) 5 Tryz.underlying22 i_u8 _ 0 (bcs []) rfl hmade _ _ _ b rfl hf ?qa ?qb ?_))
  case qa => omega
  try (case qb => simp)
  intro v1 w1 hown1 hgrow1
  rw [← hV] at hgrow1
  rw [← sV1] at hown1
  have hb1 : Below V.heap.size V w1 := bV.grown hgrow1 (by simp) (by intro k hk; cases hk; show _ ≤ w.heap.size + 1; omega)
  have hown1' : w1.ownsRow V.heap.size 5 1 v1 b.length (bcs b) := by simpa [bcs] using hown1
  have hlt := hown1'.lt
  obtain ⟨p1, d1, rfl⟩ := owns_shape hown1'
  have hh := HB.of_owns hown1'
  have hty := fun a n c (e : Value.slice p1 b.length d1 = .slice (some a) n c) => TY.of_owns hown1' e
  have bW := (Below.refl w1.heap.size w1).alloc (Nat.le_refl _) (.cells #[.slice p1 b.length d1, .int .i64 0] 55)
  have x2 : XR (w1.alloc (.cells #[.slice p1 b.length d1, .int .i64 0] 55)) w1.heap.size b 0 := ⟨p1, d1, heap_alloc_new w1 _, hh.later bW, fun a n c e => ⟨by have := (hlt a.block (by rw [e]; rfl)).2; omega, (hty a n c e).later bW⟩⟩
  have d2 := bA.trans ((hb1.trans (bW.mono hb1.size)).mono bA.size)
  have g2 := ((hb1.trans (bW.mono hb1.size)).block _ sV).trans gA
  have hgw : w.heap.size < w1.heap.size := by have := hb1.size; omega
  clear hgrow1 hown1 hown1' hlt hf hh hty bA gA bV hmade sV1
  have hB2 := hBy _ _ x2
  clear hBy
  go_wp2_with fail
  refine hB2.mono ?_
  rintro x w3 ⟨v3, rfl, p3, c3, hv3, hn3, rr3, o3⟩
  subst hv3
  generalize hgg : w1.heap.size = g at *
  have d3 := d2.trans (o3.below (Nat.le_of_lt hgw))
  have g3 := (o3.block _ (by omega) (Array.getElem?_eq_some_iff.1 g2).1).trans g2
  clear hB2 o3 g2 d2 bW x2 hb1 hgg hV
  obtain ⟨q3, k3, hd3, hh3⟩ := rr3
  obtain ⟨e30, e31⟩ := hd3.cells
  have hD3 := hDe _ w3 hn3.1
  clear hDe hn3
  go_wp2_with fail
  refine hD3.mono ?_
  rintro x w4 ⟨pt, ct, pl, cl, pk, ck, rfl, ht4, hl4, hk4, c4⟩
  clear hD3
  have d4 := d3.trans (c4.mono d3.size)
  have g4 := (c4.block _ (Array.getElem?_eq_some_iff.1 g3).1).trans g3
  have hd4 := hd3.later c4
  have hh4 := hh3.later c4
  have b5 := (Below.refl w4.heap.size w4).alloc (Nat.le_refl _) (.cells #[.int .i64 r.e, .int .i64 r.t, .slice pt r.tr.length ct, .int .i64 r.c, .slice pl r.li.length cl, .slice pk r.lk.length ck] 25)
  have gR := heap_alloc_new w4 (.cells #[.int .i64 r.e, .int .i64 r.t, .slice pt r.tr.length ct, .int .i64 r.c, .slice pl r.li.length cl, .slice pk r.lk.length ck] 25)
  have d5 := d4.trans (b5.mono d4.size)
  have g5 := (b5.block _ (Array.getElem?_eq_some_iff.1 g4).1).trans g4
  have hd5 := hd4.later b5
  have hh5 := hh4.later b5
  obtain ⟨e50, e51⟩ := hd5.cells
  have ht5 := ht4.later b5
  have hl5 := hl4.later b5
  have hk5 := hk4.later b5
  have hM5 := hMR _ _ hh5.1
  clear g3 g4 d3 d4 ht4 hl4 hk4 hMR c4 b5 hd3 hd4 hh3 hh4 hh5 hd5 e30 e31
  go_wp2_with fail
  refine hM5.mono ?_
  rintro x w6 ⟨p1, c1, p2, c2, p6, q6, rfl, hX, hY, _, c6⟩
  have d6 := d5.trans (c6.mono d5.size)
  have g6 := (c6.block _ (Array.getElem?_eq_some_iff.1 g5).1).trans g5
  have b7 := (Below.refl w6.heap.size w6).alloc (Nat.le_refl _) (.cells #[.int .i64 ix, .slice p1 ls.length c1, .slice p2 ps.length c2] 27)
  have g7 := (b7.block _ (Array.getElem?_eq_some_iff.1 g6).1).trans g6
  have d7 := d6.trans (b7.mono d6.size)
  have x0 : (w6.alloc (.cells #[.int .i64 ix, .slice p1 ls.length c1, .slice p2 ps.length c2] 27)).cell? ⟨w.heap.size, 0, none⟩ = some (.int .i64 0) := by rw [cell_of_row _ _ 0 _ _ _ g7]; rfl
  have y0 : (w6.alloc (.cells #[.int .i64 ix, .slice p1 ls.length c1, .slice p2 ps.length c2] 27)).frozen? ⟨w.heap.size, 0, none⟩ = false := by simp [World.frozen?, g7]
  have x1 : (w6.alloc (.cells #[.int .i64 ix, .slice p1 ls.length c1, .slice p2 ps.length c2] 27)).cell? ⟨w.heap.size, 1, none⟩ = some (.int .i64 0) := by rw [cell_of_row _ _ 1 _ _ _ g7]; rfl
  have y1 : (w6.alloc (.cells #[.int .i64 ix, .slice p1 ls.length c1, .slice p2 ps.length c2] 27)).frozen? ⟨w.heap.size, 1, none⟩ = false := by simp [World.frozen?, g7]
  have x2 : (w6.alloc (.cells #[.int .i64 ix, .slice p1 ls.length c1, .slice p2 ps.length c2] 27)).cell? ⟨w.heap.size, 2, none⟩ = some (.slice none 0 0) := by rw [cell_of_row _ _ 2 _ _ _ g7]; rfl
  have y2 : (w6.alloc (.cells #[.int .i64 ix, .slice p1 ls.length c1, .slice p2 ps.length c2] 27)).frozen? ⟨w.heap.size, 2, none⟩ = false := by simp [World.frozen?, g7]
  have x3 : (w6.alloc (.cells #[.int .i64 ix, .slice p1 ls.length c1, .slice p2 ps.length c2] 27)).cell? ⟨w.heap.size, 3, none⟩ = some (.int .i64 0) := by rw [cell_of_row _ _ 3 _ _ _ g7]; rfl
  have y3 : (w6.alloc (.cells #[.int .i64 ix, .slice p1 ls.length c1, .slice p2 ps.length c2] 27)).frozen? ⟨w.heap.size, 3, none⟩ = false := by simp [World.frozen?, g7]
  have x4 : (w6.alloc (.cells #[.int .i64 ix, .slice p1 ls.length c1, .slice p2 ps.length c2] 27)).cell? ⟨w.heap.size, 4, none⟩ = some (.slice none 0 0) := by rw [cell_of_row _ _ 4 _ _ _ g7]; rfl
  have y4 : (w6.alloc (.cells #[.int .i64 ix, .slice p1 ls.length c1, .slice p2 ps.length c2] 27)).frozen? ⟨w.heap.size, 4, none⟩ = false := by simp [World.frozen?, g7]
  have x5 : (w6.alloc (.cells #[.int .i64 ix, .slice p1 ls.length c1, .slice p2 ps.length c2] 27)).cell? ⟨w.heap.size, 5, none⟩ = some (.slice none 0 0) := by rw [cell_of_row _ _ 5 _ _ _ g7]; rfl
  have y5 : (w6.alloc (.cells #[.int .i64 ix, .slice p1 ls.length c1, .slice p2 ps.length c2] 27)).frozen? ⟨w.heap.size, 5, none⟩ = false := by simp [World.frozen?, g7]
  have x6 : (w6.alloc (.cells #[.int .i64 ix, .slice p1 ls.length c1, .slice p2 ps.length c2] 27)).cell? ⟨w.heap.size, 6, none⟩ = some (.int .i64 0) := by rw [cell_of_row _ _ 6 _ _ _ g7]; rfl
  have y6 : (w6.alloc (.cells #[.int .i64 ix, .slice p1 ls.length c1, .slice p2 ps.length c2] 27)).frozen? ⟨w.heap.size, 6, none⟩ = false := by simp [World.frozen?, g7]
  have x7 : (w6.alloc (.cells #[.int .i64 ix, .slice p1 ls.length c1, .slice p2 ps.length c2] 27)).cell? ⟨w.heap.size, 7, none⟩ = some (.slice none 0 0) := by rw [cell_of_row _ _ 7 _ _ _ g7]; rfl
  have y7 : (w6.alloc (.cells #[.int .i64 ix, .slice p1 ls.length c1, .slice p2 ps.length c2] 27)).frozen? ⟨w.heap.size, 7, none⟩ = false := by simp [World.frozen?, g7]
  have x8 : (w6.alloc (.cells #[.int .i64 ix, .slice p1 ls.length c1, .slice p2 ps.length c2] 27)).cell? ⟨w.heap.size, 8, none⟩ = some (.slice none 0 0) := by rw [cell_of_row _ _ 8 _ _ _ g7]; rfl
  have y8 : (w6.alloc (.cells #[.int .i64 ix, .slice p1 ls.length c1, .slice p2 ps.length c2] 27)).frozen? ⟨w.heap.size, 8, none⟩ = false := by simp [World.frozen?, g7]
  have hon : Only w.heap.size (w6.alloc (.cells #[.int .i64 ix, .slice p1 ls.length c1, .slice p2 ps.length c2] 27)) ((((((((((w6.alloc (.cells #[.int .i64 ix, .slice p1 ls.length c1, .slice p2 ps.length c2] 27)).setCell ⟨w.heap.size, 0, none⟩ (.int .i64 0)).setCell ⟨w.heap.size, 1, none⟩ (.int .i64 0)).setCell ⟨w.heap.size, 2, none⟩ (.slice none 0 0)).setCell ⟨w.heap.size, 3, none⟩ (.int .i64 0)).setCell ⟨w.heap.size, 4, none⟩ (.slice none 0 0)).setCell ⟨w.heap.size, 5, none⟩ (.slice none 0 0)).setCell ⟨w.heap.size, 6, none⟩ (.int .i64 0)).setCell ⟨w.heap.size, 7, none⟩ (.slice none 0 0)).setCell ⟨w.heap.size, 8, none⟩ (.slice none 0 0)) := (((((((((Only.refl (w.heap.size) (w6.alloc (.cells #[.int .i64 ix, .slice p1 ls.length c1, .slice p2 ps.length c2] 27))).setCell 0 _).setCell 1 _).setCell 2 _).setCell 3 _).setCell 4 _).setCell 5 _).setCell 6 _).setCell 7 _).setCell 8 _
  have bF := d7.trans (hon.below (Nat.le_refl _))
  clear hM5 c6 g6 b7 g5 d5 hon d6 d7 gR ht5 hl5 hk5 hX hY e50 e51
  go_wp2
  refine bodyPost_ret (v := .tuple #[.agg #[.int .i64 0, .int .i64 0, .slice none 0 0, .int .i64 0, .slice none 0 0, .slice none 0 0, .int .i64 0, .slice none 0 0, .slice none 0 0], .int .i64 5]) ?_ rfl ?_
  · simp only [results, Tryz.results7]
    go_simp
  · exact ⟨rfl, bF⟩

set_option maxRecDepth 100000 in
set_option maxHeartbeats 2000000 in
theorem ropen_bad2 (size height : Int) (v : Value) (b EL SG : List UInt8) (r : Rc) (de : Int) (w : World) (hv : HB w v b) (hbl : b.length ≤ 140737488354000) (hRB : rdB b 0 4096 = (0, EL, SG)) (hDe : ∀ v W, HB W v EL → Calls Tryz.prog 28 #[.int .i64 size, v] W fun x w' => ∃ p q p2 q2 p3 q3, x = .returned (.tuple #[.agg #[.int .i64 r.e, .int .i64 r.t, .slice p r.tr.length q, .int .i64 r.c, .slice p2 r.li.length q2, .slice p3 r.lk.length q3], .int .i64 de]) ∧ HB w' (.slice p r.tr.length q) r.tr ∧ HB w' (.slice p2 r.li.length q2) r.li ∧ PA w' (.slice p3 r.lk.length q3) r.lk ∧ Below W.heap.size W w') (er ix : Int) (ls ps : List (List UInt8)) (R : List UInt8) (hMR : ∀ v W, HB W v SG → Calls Tryz.prog 29 #[.int .i64 size, .int .i64 height, v] W fun e w' => ∃ p1 c1 p2 c2 p c, e = .returned (.tuple #[.agg #[.int .i64 ix, .slice p1 ls.length c1, .slice p2 ps.length c2], .slice p R.length c, .int .i64 er]) ∧ PA w' (.slice p1 ls.length c1) ls ∧ PA w' (.slice p2 ps.length c2) ps ∧ HB w' (.slice p R.length c) R ∧ Below W.heap.size W w') (hde : de = 0) (her : er = 0) (hR : 0 < R.length) :
    Calls Tryz.prog 7 #[.int .i64 size, .int .i64 height, v] w fun x w' => x = .returned (.tuple #[.agg #[.int .i64 0, .int .i64 0, .slice none 0 0, .int .i64 0, .slice none 0 0, .slice none 0 0, .int .i64 0, .slice none 0 0, .slice none 0 0], .int .i64 5]) ∧ Below w.heap.size w w' := by
  subst hde
  subst her
  have hgt : (0 : Int) < (R.length : Int) := by omega
  obtain ⟨p, c, rfl⟩ := hv.shape
  have bA := (Below.refl w.heap.size w).alloc (Nat.le_refl _) (.cells #[.int .i64 0, .int .i64 0, .slice none 0 0, .int .i64 0, .slice none 0 0, .slice none 0 0, .int .i64 0, .slice none 0 0, .slice none 0 0] 29)
  have gA := heap_alloc_new w (.cells #[.int .i64 0, .int .i64 0, .slice none 0 0, .int .i64 0, .slice none 0 0, .slice none 0 0, .int .i64 0, .slice none 0 0, .slice none 0 0] 29)
  obtain ⟨V, hV⟩ : ∃ V, V = w.alloc (.cells #[.int .i64 0, .int .i64 0, .slice none 0 0, .int .i64 0, .slice none 0 0, .slice none 0 0, .int .i64 0, .slice none 0 0, .slice none 0 0] 29) := ⟨_, rfl⟩
  rw [← hV] at bA gA
  have sV : w.heap.size < V.heap.size := (Array.getElem?_eq_some_iff.1 gA).1
  have bV := (Below.refl V.heap.size V).alloc (Nat.le_refl _) (.cells #[] 5)
  have hf := (hv.later bA).later bV
  have sV1 : V.heap.size = w.heap.size + 1 := by rw [hV]; simp
  have hmade : (V.alloc (.cells #[] 5)).ownsRow (w.heap.size + 1) 5 1 (.slice (some ⟨w.heap.size + 1, 0, none⟩) 0 0) 0 (bcs []) := by
    have := World.ownsRow_made (e := 5) (size := 1) (base := V.heap.size) V #[] 0 (Nat.le_refl _) (Nat.zero_le _) rfl
    rw [sV1] at this
    exact this
  rw [hV] at hf hmade
  have hBy := fun g W hh => xbytes_all g b 0 4096 W hh (fun h => absurd rfl h) (by omega)
  rw [hRB] at hBy
  clear hv hRB
  go_enter Tryz.func7, Tryz.ntmps7
  go_wp2_with (first | (at_builtin; refine wpList_append_hb rfl (.tmp 15) (.tmp 16) 22 rfl (w.heap.size + 1) 5 Tryz.underlying22 i_u8 _ 0 (bcs []) rfl hmade _ _ _ b rfl hf ?qa ?qb ?_))
  case qa => omega
  try (case qb => simp)
  intro v1 w1 hown1 hgrow1
  rw [← hV] at hgrow1
  rw [← sV1] at hown1
  have hb1 : Below V.heap.size V w1 := bV.grown hgrow1 (by simp) (by intro k hk; cases hk; show _ ≤ w.heap.size + 1; omega)
  have hown1' : w1.ownsRow V.heap.size 5 1 v1 b.length (bcs b) := by simpa [bcs] using hown1
  have hlt := hown1'.lt
  obtain ⟨p1, d1, rfl⟩ := owns_shape hown1'
  have hh := HB.of_owns hown1'
  have hty := fun a n c (e : Value.slice p1 b.length d1 = .slice (some a) n c) => TY.of_owns hown1' e
  have bW := (Below.refl w1.heap.size w1).alloc (Nat.le_refl _) (.cells #[.slice p1 b.length d1, .int .i64 0] 55)
  have x2 : XR (w1.alloc (.cells #[.slice p1 b.length d1, .int .i64 0] 55)) w1.heap.size b 0 := ⟨p1, d1, heap_alloc_new w1 _, hh.later bW, fun a n c e => ⟨by have := (hlt a.block (by rw [e]; rfl)).2; omega, (hty a n c e).later bW⟩⟩
  have d2 := bA.trans ((hb1.trans (bW.mono hb1.size)).mono bA.size)
  have g2 := ((hb1.trans (bW.mono hb1.size)).block _ sV).trans gA
  have hgw : w.heap.size < w1.heap.size := by have := hb1.size; omega
  clear hgrow1 hown1 hown1' hlt hf hh hty bA gA bV hmade sV1
  have hB2 := hBy _ _ x2
  clear hBy
  go_wp2_with fail
  refine hB2.mono ?_
  rintro x w3 ⟨v3, rfl, p3, c3, hv3, hn3, rr3, o3⟩
  subst hv3
  generalize hgg : w1.heap.size = g at *
  have d3 := d2.trans (o3.below (Nat.le_of_lt hgw))
  have g3 := (o3.block _ (by omega) (Array.getElem?_eq_some_iff.1 g2).1).trans g2
  clear hB2 o3 g2 d2 bW x2 hb1 hgg hV
  obtain ⟨q3, k3, hd3, hh3⟩ := rr3
  obtain ⟨e30, e31⟩ := hd3.cells
  have hD3 := hDe _ w3 hn3.1
  clear hDe hn3
  go_wp2_with fail
  refine hD3.mono ?_
  rintro x w4 ⟨pt, ct, pl, cl, pk, ck, rfl, ht4, hl4, hk4, c4⟩
  clear hD3
  have d4 := d3.trans (c4.mono d3.size)
  have g4 := (c4.block _ (Array.getElem?_eq_some_iff.1 g3).1).trans g3
  have hd4 := hd3.later c4
  have hh4 := hh3.later c4
  have b5 := (Below.refl w4.heap.size w4).alloc (Nat.le_refl _) (.cells #[.int .i64 r.e, .int .i64 r.t, .slice pt r.tr.length ct, .int .i64 r.c, .slice pl r.li.length cl, .slice pk r.lk.length ck] 25)
  have gR := heap_alloc_new w4 (.cells #[.int .i64 r.e, .int .i64 r.t, .slice pt r.tr.length ct, .int .i64 r.c, .slice pl r.li.length cl, .slice pk r.lk.length ck] 25)
  have d5 := d4.trans (b5.mono d4.size)
  have g5 := (b5.block _ (Array.getElem?_eq_some_iff.1 g4).1).trans g4
  have hd5 := hd4.later b5
  have hh5 := hh4.later b5
  obtain ⟨e50, e51⟩ := hd5.cells
  have ht5 := ht4.later b5
  have hl5 := hl4.later b5
  have hk5 := hk4.later b5
  have hM5 := hMR _ _ hh5.1
  clear g3 g4 d3 d4 ht4 hl4 hk4 hMR c4 b5 hd3 hd4 hh3 hh4 hh5 hd5 e30 e31
  go_wp2_with fail
  refine hM5.mono ?_
  rintro x w6 ⟨p1, c1, p2, c2, p6, q6, rfl, hX, hY, _, c6⟩
  have d6 := d5.trans (c6.mono d5.size)
  have g6 := (c6.block _ (Array.getElem?_eq_some_iff.1 g5).1).trans g5
  have b7 := (Below.refl w6.heap.size w6).alloc (Nat.le_refl _) (.cells #[.int .i64 ix, .slice p1 ls.length c1, .slice p2 ps.length c2] 27)
  have g7 := (b7.block _ (Array.getElem?_eq_some_iff.1 g6).1).trans g6
  have d7 := d6.trans (b7.mono d6.size)
  have x0 : (w6.alloc (.cells #[.int .i64 ix, .slice p1 ls.length c1, .slice p2 ps.length c2] 27)).cell? ⟨w.heap.size, 0, none⟩ = some (.int .i64 0) := by rw [cell_of_row _ _ 0 _ _ _ g7]; rfl
  have y0 : (w6.alloc (.cells #[.int .i64 ix, .slice p1 ls.length c1, .slice p2 ps.length c2] 27)).frozen? ⟨w.heap.size, 0, none⟩ = false := by simp [World.frozen?, g7]
  have x1 : (w6.alloc (.cells #[.int .i64 ix, .slice p1 ls.length c1, .slice p2 ps.length c2] 27)).cell? ⟨w.heap.size, 1, none⟩ = some (.int .i64 0) := by rw [cell_of_row _ _ 1 _ _ _ g7]; rfl
  have y1 : (w6.alloc (.cells #[.int .i64 ix, .slice p1 ls.length c1, .slice p2 ps.length c2] 27)).frozen? ⟨w.heap.size, 1, none⟩ = false := by simp [World.frozen?, g7]
  have x2 : (w6.alloc (.cells #[.int .i64 ix, .slice p1 ls.length c1, .slice p2 ps.length c2] 27)).cell? ⟨w.heap.size, 2, none⟩ = some (.slice none 0 0) := by rw [cell_of_row _ _ 2 _ _ _ g7]; rfl
  have y2 : (w6.alloc (.cells #[.int .i64 ix, .slice p1 ls.length c1, .slice p2 ps.length c2] 27)).frozen? ⟨w.heap.size, 2, none⟩ = false := by simp [World.frozen?, g7]
  have x3 : (w6.alloc (.cells #[.int .i64 ix, .slice p1 ls.length c1, .slice p2 ps.length c2] 27)).cell? ⟨w.heap.size, 3, none⟩ = some (.int .i64 0) := by rw [cell_of_row _ _ 3 _ _ _ g7]; rfl
  have y3 : (w6.alloc (.cells #[.int .i64 ix, .slice p1 ls.length c1, .slice p2 ps.length c2] 27)).frozen? ⟨w.heap.size, 3, none⟩ = false := by simp [World.frozen?, g7]
  have x4 : (w6.alloc (.cells #[.int .i64 ix, .slice p1 ls.length c1, .slice p2 ps.length c2] 27)).cell? ⟨w.heap.size, 4, none⟩ = some (.slice none 0 0) := by rw [cell_of_row _ _ 4 _ _ _ g7]; rfl
  have y4 : (w6.alloc (.cells #[.int .i64 ix, .slice p1 ls.length c1, .slice p2 ps.length c2] 27)).frozen? ⟨w.heap.size, 4, none⟩ = false := by simp [World.frozen?, g7]
  have x5 : (w6.alloc (.cells #[.int .i64 ix, .slice p1 ls.length c1, .slice p2 ps.length c2] 27)).cell? ⟨w.heap.size, 5, none⟩ = some (.slice none 0 0) := by rw [cell_of_row _ _ 5 _ _ _ g7]; rfl
  have y5 : (w6.alloc (.cells #[.int .i64 ix, .slice p1 ls.length c1, .slice p2 ps.length c2] 27)).frozen? ⟨w.heap.size, 5, none⟩ = false := by simp [World.frozen?, g7]
  have x6 : (w6.alloc (.cells #[.int .i64 ix, .slice p1 ls.length c1, .slice p2 ps.length c2] 27)).cell? ⟨w.heap.size, 6, none⟩ = some (.int .i64 0) := by rw [cell_of_row _ _ 6 _ _ _ g7]; rfl
  have y6 : (w6.alloc (.cells #[.int .i64 ix, .slice p1 ls.length c1, .slice p2 ps.length c2] 27)).frozen? ⟨w.heap.size, 6, none⟩ = false := by simp [World.frozen?, g7]
  have x7 : (w6.alloc (.cells #[.int .i64 ix, .slice p1 ls.length c1, .slice p2 ps.length c2] 27)).cell? ⟨w.heap.size, 7, none⟩ = some (.slice none 0 0) := by rw [cell_of_row _ _ 7 _ _ _ g7]; rfl
  have y7 : (w6.alloc (.cells #[.int .i64 ix, .slice p1 ls.length c1, .slice p2 ps.length c2] 27)).frozen? ⟨w.heap.size, 7, none⟩ = false := by simp [World.frozen?, g7]
  have x8 : (w6.alloc (.cells #[.int .i64 ix, .slice p1 ls.length c1, .slice p2 ps.length c2] 27)).cell? ⟨w.heap.size, 8, none⟩ = some (.slice none 0 0) := by rw [cell_of_row _ _ 8 _ _ _ g7]; rfl
  have y8 : (w6.alloc (.cells #[.int .i64 ix, .slice p1 ls.length c1, .slice p2 ps.length c2] 27)).frozen? ⟨w.heap.size, 8, none⟩ = false := by simp [World.frozen?, g7]
  have hon : Only w.heap.size (w6.alloc (.cells #[.int .i64 ix, .slice p1 ls.length c1, .slice p2 ps.length c2] 27)) ((((((((((w6.alloc (.cells #[.int .i64 ix, .slice p1 ls.length c1, .slice p2 ps.length c2] 27)).setCell ⟨w.heap.size, 0, none⟩ (.int .i64 0)).setCell ⟨w.heap.size, 1, none⟩ (.int .i64 0)).setCell ⟨w.heap.size, 2, none⟩ (.slice none 0 0)).setCell ⟨w.heap.size, 3, none⟩ (.int .i64 0)).setCell ⟨w.heap.size, 4, none⟩ (.slice none 0 0)).setCell ⟨w.heap.size, 5, none⟩ (.slice none 0 0)).setCell ⟨w.heap.size, 6, none⟩ (.int .i64 0)).setCell ⟨w.heap.size, 7, none⟩ (.slice none 0 0)).setCell ⟨w.heap.size, 8, none⟩ (.slice none 0 0)) := (((((((((Only.refl (w.heap.size) (w6.alloc (.cells #[.int .i64 ix, .slice p1 ls.length c1, .slice p2 ps.length c2] 27))).setCell 0 _).setCell 1 _).setCell 2 _).setCell 3 _).setCell 4 _).setCell 5 _).setCell 6 _).setCell 7 _).setCell 8 _
  have bF := d7.trans (hon.below (Nat.le_refl _))
  clear hM5 c6 g6 b7 g5 d5 hon d6 d7 gR ht5 hl5 hk5 hX hY e50 e51
  go_wp2
  refine bodyPost_ret (v := .tuple #[.agg #[.int .i64 0, .int .i64 0, .slice none 0 0, .int .i64 0, .slice none 0 0, .slice none 0 0, .int .i64 0, .slice none 0 0, .slice none 0 0], .int .i64 5]) ?_ rfl ?_
  · simp only [results, Tryz.results7]
    go_simp
  · exact ⟨rfl, bF⟩

set_option maxRecDepth 100000 in
set_option maxHeartbeats 2000000 in
theorem ropen_good (size height : Int) (v : Value) (b EL SG : List UInt8) (r : Rc) (de : Int) (w : World) (hv : HB w v b) (hbl : b.length ≤ 140737488354000) (hRB : rdB b 0 4096 = (0, EL, SG)) (hDe : ∀ v W, HB W v EL → Calls Tryz.prog 28 #[.int .i64 size, v] W fun x w' => ∃ p q p2 q2 p3 q3, x = .returned (.tuple #[.agg #[.int .i64 r.e, .int .i64 r.t, .slice p r.tr.length q, .int .i64 r.c, .slice p2 r.li.length q2, .slice p3 r.lk.length q3], .int .i64 de]) ∧ HB w' (.slice p r.tr.length q) r.tr ∧ HB w' (.slice p2 r.li.length q2) r.li ∧ PA w' (.slice p3 r.lk.length q3) r.lk ∧ Below W.heap.size W w') (er ix : Int) (ls ps : List (List UInt8)) (R : List UInt8) (hMR : ∀ v W, HB W v SG → Calls Tryz.prog 29 #[.int .i64 size, .int .i64 height, v] W fun e w' => ∃ p1 c1 p2 c2 p c, e = .returned (.tuple #[.agg #[.int .i64 ix, .slice p1 ls.length c1, .slice p2 ps.length c2], .slice p R.length c, .int .i64 er]) ∧ PA w' (.slice p1 ls.length c1) ls ∧ PA w' (.slice p2 ps.length c2) ps ∧ HB w' (.slice p R.length c) R ∧ Below W.heap.size W w') (hde : de = 0) (her : er = 0) (hR : R = []) (hpos : ∀ l ∈ r.lk, 0 < l.length) (hposl : ∀ l ∈ ls, 0 < l.length) (hposp : ∀ l ∈ ps, 0 < l.length) :
    Calls Tryz.prog 7 #[.int .i64 size, .int .i64 height, v] w fun x w' => ∃ tv lv kv cv pv, x = .returned (.tuple #[.agg #[.int .i64 r.e, .int .i64 r.t, tv, .int .i64 r.c, lv, kv, .int .i64 ix, cv, pv], .int .i64 0]) ∧ HB w' tv r.tr ∧ HB w' lv r.li ∧ PA w' kv r.lk ∧ PA w' cv ls ∧ PA w' pv ps ∧ Below w.heap.size w w' := by
  subst hde
  subst her
  subst hR
  obtain ⟨p, c, rfl⟩ := hv.shape
  have bA := (Below.refl w.heap.size w).alloc (Nat.le_refl _) (.cells #[.int .i64 0, .int .i64 0, .slice none 0 0, .int .i64 0, .slice none 0 0, .slice none 0 0, .int .i64 0, .slice none 0 0, .slice none 0 0] 29)
  have gA := heap_alloc_new w (.cells #[.int .i64 0, .int .i64 0, .slice none 0 0, .int .i64 0, .slice none 0 0, .slice none 0 0, .int .i64 0, .slice none 0 0, .slice none 0 0] 29)
  obtain ⟨V, hV⟩ : ∃ V, V = w.alloc (.cells #[.int .i64 0, .int .i64 0, .slice none 0 0, .int .i64 0, .slice none 0 0, .slice none 0 0, .int .i64 0, .slice none 0 0, .slice none 0 0] 29) := ⟨_, rfl⟩
  rw [← hV] at bA gA
  have sV : w.heap.size < V.heap.size := (Array.getElem?_eq_some_iff.1 gA).1
  have bV := (Below.refl V.heap.size V).alloc (Nat.le_refl _) (.cells #[] 5)
  have hf := (hv.later bA).later bV
  have sV1 : V.heap.size = w.heap.size + 1 := by rw [hV]; simp
  have hmade : (V.alloc (.cells #[] 5)).ownsRow (w.heap.size + 1) 5 1 (.slice (some ⟨w.heap.size + 1, 0, none⟩) 0 0) 0 (bcs []) := by
    have := World.ownsRow_made (e := 5) (size := 1) (base := V.heap.size) V #[] 0 (Nat.le_refl _) (Nat.zero_le _) rfl
    rw [sV1] at this
    exact this
  rw [hV] at hf hmade
  have hBy := fun g W hh => xbytes_all g b 0 4096 W hh (fun h => absurd rfl h) (by omega)
  rw [hRB] at hBy
  clear hv hRB
  go_enter Tryz.func7, Tryz.ntmps7
  go_wp2_with (first | (at_builtin; refine wpList_append_hb rfl (.tmp 15) (.tmp 16) 22 rfl (w.heap.size + 1) 5 Tryz.underlying22 i_u8 _ 0 (bcs []) rfl hmade _ _ _ b rfl hf ?qa ?qb ?_))
  case qa => omega
  try (case qb => simp)
  intro v1 w1 hown1 hgrow1
  rw [← hV] at hgrow1
  rw [← sV1] at hown1
  have hb1 : Below V.heap.size V w1 := bV.grown hgrow1 (by simp) (by intro k hk; cases hk; show _ ≤ w.heap.size + 1; omega)
  have hown1' : w1.ownsRow V.heap.size 5 1 v1 b.length (bcs b) := by simpa [bcs] using hown1
  have hlt := hown1'.lt
  obtain ⟨p1, d1, rfl⟩ := owns_shape hown1'
  have hh := HB.of_owns hown1'
  have hty := fun a n c (e : Value.slice p1 b.length d1 = .slice (some a) n c) => TY.of_owns hown1' e
  have bW := (Below.refl w1.heap.size w1).alloc (Nat.le_refl _) (.cells #[.slice p1 b.length d1, .int .i64 0] 55)
  have x2 : XR (w1.alloc (.cells #[.slice p1 b.length d1, .int .i64 0] 55)) w1.heap.size b 0 := ⟨p1, d1, heap_alloc_new w1 _, hh.later bW, fun a n c e => ⟨by have := (hlt a.block (by rw [e]; rfl)).2; omega, (hty a n c e).later bW⟩⟩
  have d2 := bA.trans ((hb1.trans (bW.mono hb1.size)).mono bA.size)
  have g2 := ((hb1.trans (bW.mono hb1.size)).block _ sV).trans gA
  have hgw : w.heap.size < w1.heap.size := by have := hb1.size; omega
  clear hgrow1 hown1 hown1' hlt hf hh hty bA gA bV hmade sV1
  have hB2 := hBy _ _ x2
  clear hBy
  go_wp2_with fail
  refine hB2.mono ?_
  rintro x w3 ⟨v3, rfl, p3, c3, hv3, hn3, rr3, o3⟩
  subst hv3
  generalize hgg : w1.heap.size = g at *
  have d3 := d2.trans (o3.below (Nat.le_of_lt hgw))
  have g3 := (o3.block _ (by omega) (Array.getElem?_eq_some_iff.1 g2).1).trans g2
  clear hB2 o3 g2 d2 bW x2 hb1 hgg hV
  obtain ⟨q3, k3, hd3, hh3⟩ := rr3
  obtain ⟨e30, e31⟩ := hd3.cells
  have hD3 := hDe _ w3 hn3.1
  clear hDe hn3
  go_wp2_with fail
  refine hD3.mono ?_
  rintro x w4 ⟨pt, ct, pl, cl, pk, ck, rfl, ht4, hl4, hk4, c4⟩
  clear hD3
  have d4 := d3.trans (c4.mono d3.size)
  have g4 := (c4.block _ (Array.getElem?_eq_some_iff.1 g3).1).trans g3
  have hd4 := hd3.later c4
  have hh4 := hh3.later c4
  have b5 := (Below.refl w4.heap.size w4).alloc (Nat.le_refl _) (.cells #[.int .i64 r.e, .int .i64 r.t, .slice pt r.tr.length ct, .int .i64 r.c, .slice pl r.li.length cl, .slice pk r.lk.length ck] 25)
  have gR := heap_alloc_new w4 (.cells #[.int .i64 r.e, .int .i64 r.t, .slice pt r.tr.length ct, .int .i64 r.c, .slice pl r.li.length cl, .slice pk r.lk.length ck] 25)
  have d5 := d4.trans (b5.mono d4.size)
  have g5 := (b5.block _ (Array.getElem?_eq_some_iff.1 g4).1).trans g4
  have hd5 := hd4.later b5
  have hh5 := hh4.later b5
  obtain ⟨e50, e51⟩ := hd5.cells
  have ht5 := ht4.later b5
  have hl5 := hl4.later b5
  have hk5 := hk4.later b5
  have hM5 := hMR _ _ hh5.1
  clear g3 g4 d3 d4 ht4 hl4 hk4 hMR c4 b5 hd3 hd4 hh3 hh4 hh5 hd5 e30 e31
  go_wp2_with fail
  refine hM5.mono ?_
  rintro x w6 ⟨p1, c1, p2, c2, p6, q6, rfl, hX, hY, _, c6⟩
  have d6 := d5.trans (c6.mono d5.size)
  have g6 := (c6.block _ (Array.getElem?_eq_some_iff.1 g5).1).trans g5
  have b7 := (Below.refl w6.heap.size w6).alloc (Nat.le_refl _) (.cells #[.int .i64 ix, .slice p1 ls.length c1, .slice p2 ps.length c2] 27)
  have g7 := (b7.block _ (Array.getElem?_eq_some_iff.1 g6).1).trans g6
  have d7 := d6.trans (b7.mono d6.size)
  have gS := heap_alloc_new w6 (.cells #[.int .i64 ix, .slice p1 ls.length c1, .slice p2 ps.length c2] 27)
  have gR6 := (c6.block _ (Array.getElem?_eq_some_iff.1 gR).1).trans gR
  have gR7 := (b7.block _ (Array.getElem?_eq_some_iff.1 gR6).1).trans gR6
  have ht7 := (ht5.later c6).later b7
  have hl7 := (hl5.later c6).later b7
  have hk7 := (hk5.later c6).later b7
  have hX7 := hX.later b7
  have hY7 := hY.later b7
  obtain ⟨w7, hw7⟩ : ∃ w7, w6.alloc (.cells #[.int .i64 ix, .slice p1 ls.length c1, .slice p2 ps.length c2] 27) = w7 := ⟨_, rfl⟩
  rw [hw7] at g7 gR7 gS d7 ht7 hl7 hk7 hX7 hY7
  have x0 : (w7).cell? ⟨w.heap.size, 0, none⟩ = some (.int .i64 0) := by rw [cell_of_row _ _ 0 _ _ _ g7]; rfl
  have y0 : (w7).frozen? ⟨w.heap.size, 0, none⟩ = false := by simp [World.frozen?, g7]
  have x1 : (w7).cell? ⟨w.heap.size, 1, none⟩ = some (.int .i64 0) := by rw [cell_of_row _ _ 1 _ _ _ g7]; rfl
  have y1 : (w7).frozen? ⟨w.heap.size, 1, none⟩ = false := by simp [World.frozen?, g7]
  have x2 : (w7).cell? ⟨w.heap.size, 2, none⟩ = some (.slice none 0 0) := by rw [cell_of_row _ _ 2 _ _ _ g7]; rfl
  have y2 : (w7).frozen? ⟨w.heap.size, 2, none⟩ = false := by simp [World.frozen?, g7]
  have x3 : (w7).cell? ⟨w.heap.size, 3, none⟩ = some (.int .i64 0) := by rw [cell_of_row _ _ 3 _ _ _ g7]; rfl
  have y3 : (w7).frozen? ⟨w.heap.size, 3, none⟩ = false := by simp [World.frozen?, g7]
  have x4 : (w7).cell? ⟨w.heap.size, 4, none⟩ = some (.slice none 0 0) := by rw [cell_of_row _ _ 4 _ _ _ g7]; rfl
  have y4 : (w7).frozen? ⟨w.heap.size, 4, none⟩ = false := by simp [World.frozen?, g7]
  have x5 : (w7).cell? ⟨w.heap.size, 5, none⟩ = some (.slice none 0 0) := by rw [cell_of_row _ _ 5 _ _ _ g7]; rfl
  have y5 : (w7).frozen? ⟨w.heap.size, 5, none⟩ = false := by simp [World.frozen?, g7]
  have x6 : (w7).cell? ⟨w.heap.size, 6, none⟩ = some (.int .i64 0) := by rw [cell_of_row _ _ 6 _ _ _ g7]; rfl
  have y6 : (w7).frozen? ⟨w.heap.size, 6, none⟩ = false := by simp [World.frozen?, g7]
  have x7 : (w7).cell? ⟨w.heap.size, 7, none⟩ = some (.slice none 0 0) := by rw [cell_of_row _ _ 7 _ _ _ g7]; rfl
  have y7 : (w7).frozen? ⟨w.heap.size, 7, none⟩ = false := by simp [World.frozen?, g7]
  have x8 : (w7).cell? ⟨w.heap.size, 8, none⟩ = some (.slice none 0 0) := by rw [cell_of_row _ _ 8 _ _ _ g7]; rfl
  have y8 : (w7).frozen? ⟨w.heap.size, 8, none⟩ = false := by simp [World.frozen?, g7]
  have r0 : w7.cell? ⟨w4.heap.size, 0, none⟩ = some (.int .i64 r.e) := by rw [cell_of_row _ _ 0 _ _ _ gR7]; rfl
  have r1 : w7.cell? ⟨w4.heap.size, 1, none⟩ = some (.int .i64 r.t) := by rw [cell_of_row _ _ 1 _ _ _ gR7]; rfl
  have r2 : w7.cell? ⟨w4.heap.size, 2, none⟩ = some (.slice pt r.tr.length ct) := by rw [cell_of_row _ _ 2 _ _ _ gR7]; rfl
  have r3 : w7.cell? ⟨w4.heap.size, 3, none⟩ = some (.int .i64 r.c) := by rw [cell_of_row _ _ 3 _ _ _ gR7]; rfl
  have r4 : w7.cell? ⟨w4.heap.size, 4, none⟩ = some (.slice pl r.li.length cl) := by rw [cell_of_row _ _ 4 _ _ _ gR7]; rfl
  have r5 : w7.cell? ⟨w4.heap.size, 5, none⟩ = some (.slice pk r.lk.length ck) := by rw [cell_of_row _ _ 5 _ _ _ gR7]; rfl
  have s0 : w7.cell? ⟨w6.heap.size, 0, none⟩ = some (.int .i64 ix) := by rw [cell_of_row _ _ 0 _ _ _ gS]; rfl
  have s1 : w7.cell? ⟨w6.heap.size, 1, none⟩ = some (.slice p1 ls.length c1) := by rw [cell_of_row _ _ 1 _ _ _ gS]; rfl
  have s2 : w7.cell? ⟨w6.heap.size, 2, none⟩ = some (.slice p2 ps.length c2) := by rw [cell_of_row _ _ 2 _ _ _ gS]; rfl
  have hon : Only w.heap.size (w7) ((((((((((w7).setCell ⟨w.heap.size, 0, none⟩ (.int .i64 r.e)).setCell ⟨w.heap.size, 1, none⟩ (.int .i64 r.t)).setCell ⟨w.heap.size, 2, none⟩ (.slice pt r.tr.length ct)).setCell ⟨w.heap.size, 3, none⟩ (.int .i64 r.c)).setCell ⟨w.heap.size, 4, none⟩ (.slice pl r.li.length cl)).setCell ⟨w.heap.size, 5, none⟩ (.slice pk r.lk.length ck)).setCell ⟨w.heap.size, 6, none⟩ (.int .i64 ix)).setCell ⟨w.heap.size, 7, none⟩ (.slice p1 ls.length c1)).setCell ⟨w.heap.size, 8, none⟩ (.slice p2 ps.length c2)) := (((((((((Only.refl (w.heap.size) (w7)).setCell 0 _).setCell 1 _).setCell 2 _).setCell 3 _).setCell 4 _).setCell 5 _).setCell 6 _).setCell 7 _).setCell 8 _
  have bF := d7.trans (hon.below (Nat.le_refl _))
  have nb : ∀ x ∈ (#[.int .i64 0, .int .i64 0, .slice none 0 0, .int .i64 0, .slice none 0 0, .slice none 0 0, .int .i64 0, .slice none 0 0, .slice none 0 0] : Array Value).toList, ∀ y : UInt8, x ≠ bc y := by
    intro x hx y
    simp only [List.mem_cons, List.not_mem_nil, or_false] at hx
    rcases hx with rfl | rfl | rfl | rfl | rfl | rfl | rfl | rfl | rfl <;> simp [bc]
  have nz : ∀ x ∈ (#[.int .i64 0, .int .i64 0, .slice none 0 0, .int .i64 0, .slice none 0 0, .slice none 0 0, .int .i64 0, .slice none 0 0, .slice none 0 0] : Array Value).toList, ∀ q n c, x = Value.slice q n c → n = 0 := by
    intro x hx q n c e
    simp only [List.mem_cons, List.not_mem_nil, or_false] at hx
    rcases hx with rfl | rfl | rfl | rfl | rfl | rfl | rfl | rfl | rfl <;> simp at e <;> omega
  have tF := ht7.onlyC g7 nb hon
  have lF := hl7.onlyC g7 nb hon
  have kF := hk7.onlyC hpos g7 nb nz hon
  have xF := hX7.onlyC hposl g7 nb nz hon
  have yF := hY7.onlyC hposp g7 nb nz hon
  clear hM5 c6 g6 b7 g5 d5 hon d6 d7 gR ht5 hl5 hk5 hX hY e50 e51 ht7 hl7 hk7 hX7 hY7 gR6 gR7 gS nb nz
  go_wp2
  refine bodyPost_ret (v := .tuple #[.agg #[.int .i64 r.e, .int .i64 r.t, .slice pt r.tr.length ct, .int .i64 r.c, .slice pl r.li.length cl, .slice pk r.lk.length ck, .int .i64 ix, .slice p1 ls.length c1, .slice p2 ps.length c2], .int .i64 0]) ?_ rfl ?_
  · simp only [results, Tryz.results7]
    go_simp
  · exact ⟨_, _, _, _, _, rfl, tF, lF, kF, xF, yF, bF⟩

end Go.Proofs.YtganajmhdpiipaaGreatDoor
