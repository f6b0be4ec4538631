/- What this text proves: the walk of record.Open over this program, of bytes that begin with a record's text. -/
import Derived.Test.YtkgoiemnhhdlbaaDoorRcOpenPlain
namespace Go.Proofs.YtkgoiemnhhdlbaaDoor
open Go.RowKit

set_option maxHeartbeats 2000000 in
theorem open_no (N H : Nat) (v : Value) (b EL SG : List UInt8) (r : Rc) (w : World) (hv : HB w v b) (hTD : TD w) (hN1 : 1 ≤ N) (hN : N ≤ 32) (hH : H ≤ 8) (hbl : b.length ≤ 1000000)
    (hRB : rdB b 0 (b.length : Int) = (0, EL, SG)) (hSl : SG.length ≤ b.length) (hEl : EL.length ≤ 1000000) (HSd : Hid (SG = b.drop (b.length - SG.length))) (hok : dcOk (N : Int) EL = true) (hr : dcR (N : Int) EL = r)
    (M ue : Int) (un : Nat) (R R1 : List UInt8) (HM : Hid (wrap64 (wrap64 ((2 : Int) ^ H) - 1) = M)) (HU : Hid (uintF SG M = (ue, un, R))) (HD1 : Hid (R1 = R.drop ((4 * N + 5) * N))) (HR : Hid (ue = 0 → R.length ≤ SG.length ∧ R = SG.drop (SG.length - R.length))) (hue : ue ≠ 0) :
    Calls Tryd.prog 7 #[.int .i64 (N : Int), .int .i64 (H : Int), v] w fun x w' => x = .returned (.tuple #[.agg #[.int .i64 0, .int .i64 0, .slice none 0 0, .int .i64 0, .slice none 0 0, .slice none 0 0, .int .i64 0, .slice none 0 0, .slice none 0 0], .int .i64 5]) ∧ Below w.heap.size w w' := by
  obtain ⟨R2, HD2⟩ : ∃ R2, Hid (R2 = R1.drop (H * N)) := ⟨_, rfl⟩
  obtain ⟨p, c, rfl⟩ := hv.shape
  have b0 := (Below.refl w.heap.size w).alloc (Nat.le_refl _) (.cells #[.int .i64 0, .int .i64 0, .slice none 0 0, .int .i64 0, .slice none 0 0, .slice none 0 0, .int .i64 0, .slice none 0 0, .slice none 0 0] 29)
  have g0 := heap_alloc_new w (.cells #[.int .i64 0, .int .i64 0, .slice none 0 0, .int .i64 0, .slice none 0 0, .slice none 0 0, .int .i64 0, .slice none 0 0, .slice none 0 0] 29)
  obtain ⟨V, hV⟩ : ∃ V, w.alloc (.cells #[.int .i64 0, .int .i64 0, .slice none 0 0, .int .i64 0, .slice none 0 0, .slice none 0 0, .int .i64 0, .slice none 0 0, .slice none 0 0] 29) = V := ⟨_, rfl⟩
  rw [hV] at b0 g0
  have hO := open_any _ b V (hv.later b0) (by omega)
  have hBy := fun g W hh => rbytes_all g b 0 (b.length : Int) W hh (by omega)
  rw [hRB] at hBy
  have hDe := fun v W (hv' : HB W v EL) (ht : TD W) => decode_any (N : Int) v EL W hv' (by omega) ht
  rw [hok, hr] at hDe
  have hMR := fun v W (hv' : HB W v SG) => mread_any N H v SG M ue un R W HM HU R1 R2 HD1 HD2 HR hv' (by omega) hN1 hN hH
  have hcu := hv.len
  have hws : wrap64 ((b.length : Int) - (SG.length : Int)) = (b.length : Int) - (SG.length : Int) := by unfold wrap64; omega
  have kc : ∀ w', (Instr.slice 22 (.slice p b.length c) (some (.int .i64 ((b.length : Int) - (SG.length : Int)))) none none).run Tryd.prog w' = .ok (.slice (cutP p c (b.length - SG.length)) (b.length - (b.length - SG.length)) (c - (b.length - SG.length))) w' := fun w' => run_cut (P := Tryd.prog) Tryd.underlying22 s_u8 p b.length c (b.length - SG.length) ((b.length : Int) - (SG.length : Int)) (by omega) (by omega) w'
  have hcut : ∀ W, Below w.heap.size w W → HB W (.slice (cutP p c (b.length - SG.length)) (b.length - (b.length - SG.length)) (c - (b.length - SG.length))) SG := by
    intro W hb
    have := (hv.later hb).behind (b.length - SG.length) (by omega)
    rw [← HSd.out] at this
    exact this
  have hl1 : b.length - (b.length - SG.length) = SG.length := by omega
  rw [hl1] at kc hcut
  generalize cutP p c (b.length - SG.length) = pr at *
  generalize c - (b.length - SG.length) = qr at *
  have hrb : (SG.length : Int) ≤ (b.length : Int) := by omega
  clear hRB hok hr hl1 HM HU HD1 HD2 HR HSd hcu hv
  go_enter Tryd.func7, Tryd.ntmps7
  go_wp2_with fail
  refine hO.mono ?_
  rintro x w2 ⟨g, hg, rfl, rr2, c2⟩
  have d2 := b0.trans (c2.mono b0.size)
  have hgw : w.heap.size < g := by have := (Array.getElem?_eq_some_iff.1 g0).1; omega
  have g2 := (c2.block _ (Array.getElem?_eq_some_iff.1 g0).1).trans g0
  have hB2 := hBy g w2 rr2
  clear hO hV b0 g0 c2 hBy rr2 hg
  go_wp2_with fail
  refine hB2.mono ?_
  rintro x w3 ⟨v3, rfl, p3, c3, hv3, hn3, rr3, o3⟩
  subst hv3
  have d3 := d2.trans (o3.below (Nat.le_of_lt hgw))
  have g3 := (o3.block _ (by omega) (Array.getElem?_eq_some_iff.1 g2).1).trans g2
  have hD3 := hDe _ w3 hn3.1 (hTD.later d3)
  clear hB2 hDe hn3 o3 g2 d2 hTD
  go_wp2_with fail
  refine hD3.mono ?_
  rintro x w4 ⟨_, hD4, c4⟩
  obtain ⟨tv, lv, kv, rfl, ht4, hl4, hk4⟩ := hD4 rfl
  obtain ⟨pt, ct, rfl⟩ := ht4.shape
  obtain ⟨pl, cl, rfl⟩ := hl4.shape
  obtain ⟨pk, ck, rfl⟩ := hk4.shape
  have d4 := d3.trans (c4.mono d3.size)
  have g4 := (c4.block _ (Array.getElem?_eq_some_iff.1 g3).1).trans g3
  have rr4 := rr3.later c4
  have b5 := (Below.refl w4.heap.size w4).alloc (Nat.le_refl _) (.cells #[.int .i64 r.e, .int .i64 r.t, .slice pt r.tr.length ct, .int .i64 r.c, .slice pl r.li.length cl, .slice pk r.lk.length ck] 25)
  have gR := heap_alloc_new w4 (.cells #[.int .i64 r.e, .int .i64 r.t, .slice pt r.tr.length ct, .int .i64 r.c, .slice pl r.li.length cl, .slice pk r.lk.length ck] 25)
  have d5 := d4.trans (b5.mono d4.size)
  have g5 := (b5.block _ (Array.getElem?_eq_some_iff.1 g4).1).trans g4
  have rr5 := rr4.later b5
  have hL5 := rr_left g SG 0 _ rr5
  have ht5 := ht4.later b5
  have hl5 := hl4.later b5
  have hk5 := hk4.later b5
  have hM5 := hMR _ _ (hcut _ d5)
  clear hD3 hD4 rr3 rr4 rr5 g3 g4 d3 d4 ht4 hl4 hk4 hMR hcut c4 b5
  go_wp2_with (first | (go_at_call 23; refine hL5.mono ?_; rintro x w6 ⟨rfl, hw⟩; have hw2 := hw.symm; clear hw; subst hw2) | fail)
  have hne : (ue != 0) = true := by simpa using hue
  have hne2 : (ue == 0) = false := by simpa using hue
  refine hM5.mono ?_
  rintro x w6 ⟨hA6, _, _, c6⟩
  obtain rfl := hA6 hue
  have d6 := d5.trans (c6.mono d5.size)
  have g6 := (c6.block _ (Array.getElem?_eq_some_iff.1 g5).1).trans g5
  have b7 := (Below.refl w6.heap.size w6).alloc (Nat.le_refl _) (.cells #[.int .i64 0, .slice none 0 0, .slice none 0 0] 27)
  have g7 := (b7.block _ (Array.getElem?_eq_some_iff.1 g6).1).trans g6
  have d7 := d6.trans (b7.mono d6.size)
  have x0 : (w6.alloc (.cells #[.int .i64 0, .slice none 0 0, .slice none 0 0] 27)).cell? ⟨w.heap.size, 0, none⟩ = some (.int .i64 0) := by rw [cell_of_row _ _ 0 _ _ _ g7]; rfl
  have y0 : (w6.alloc (.cells #[.int .i64 0, .slice none 0 0, .slice none 0 0] 27)).frozen? ⟨w.heap.size, 0, none⟩ = false := by simp [World.frozen?, g7]
  have x1 : (w6.alloc (.cells #[.int .i64 0, .slice none 0 0, .slice none 0 0] 27)).cell? ⟨w.heap.size, 1, none⟩ = some (.int .i64 0) := by rw [cell_of_row _ _ 1 _ _ _ g7]; rfl
  have y1 : (w6.alloc (.cells #[.int .i64 0, .slice none 0 0, .slice none 0 0] 27)).frozen? ⟨w.heap.size, 1, none⟩ = false := by simp [World.frozen?, g7]
  have x2 : (w6.alloc (.cells #[.int .i64 0, .slice none 0 0, .slice none 0 0] 27)).cell? ⟨w.heap.size, 2, none⟩ = some (.slice none 0 0) := by rw [cell_of_row _ _ 2 _ _ _ g7]; rfl
  have y2 : (w6.alloc (.cells #[.int .i64 0, .slice none 0 0, .slice none 0 0] 27)).frozen? ⟨w.heap.size, 2, none⟩ = false := by simp [World.frozen?, g7]
  have x3 : (w6.alloc (.cells #[.int .i64 0, .slice none 0 0, .slice none 0 0] 27)).cell? ⟨w.heap.size, 3, none⟩ = some (.int .i64 0) := by rw [cell_of_row _ _ 3 _ _ _ g7]; rfl
  have y3 : (w6.alloc (.cells #[.int .i64 0, .slice none 0 0, .slice none 0 0] 27)).frozen? ⟨w.heap.size, 3, none⟩ = false := by simp [World.frozen?, g7]
  have x4 : (w6.alloc (.cells #[.int .i64 0, .slice none 0 0, .slice none 0 0] 27)).cell? ⟨w.heap.size, 4, none⟩ = some (.slice none 0 0) := by rw [cell_of_row _ _ 4 _ _ _ g7]; rfl
  have y4 : (w6.alloc (.cells #[.int .i64 0, .slice none 0 0, .slice none 0 0] 27)).frozen? ⟨w.heap.size, 4, none⟩ = false := by simp [World.frozen?, g7]
  have x5 : (w6.alloc (.cells #[.int .i64 0, .slice none 0 0, .slice none 0 0] 27)).cell? ⟨w.heap.size, 5, none⟩ = some (.slice none 0 0) := by rw [cell_of_row _ _ 5 _ _ _ g7]; rfl
  have y5 : (w6.alloc (.cells #[.int .i64 0, .slice none 0 0, .slice none 0 0] 27)).frozen? ⟨w.heap.size, 5, none⟩ = false := by simp [World.frozen?, g7]
  have x6 : (w6.alloc (.cells #[.int .i64 0, .slice none 0 0, .slice none 0 0] 27)).cell? ⟨w.heap.size, 6, none⟩ = some (.int .i64 0) := by rw [cell_of_row _ _ 6 _ _ _ g7]; rfl
  have y6 : (w6.alloc (.cells #[.int .i64 0, .slice none 0 0, .slice none 0 0] 27)).frozen? ⟨w.heap.size, 6, none⟩ = false := by simp [World.frozen?, g7]
  have x7 : (w6.alloc (.cells #[.int .i64 0, .slice none 0 0, .slice none 0 0] 27)).cell? ⟨w.heap.size, 7, none⟩ = some (.slice none 0 0) := by rw [cell_of_row _ _ 7 _ _ _ g7]; rfl
  have y7 : (w6.alloc (.cells #[.int .i64 0, .slice none 0 0, .slice none 0 0] 27)).frozen? ⟨w.heap.size, 7, none⟩ = false := by simp [World.frozen?, g7]
  have x8 : (w6.alloc (.cells #[.int .i64 0, .slice none 0 0, .slice none 0 0] 27)).cell? ⟨w.heap.size, 8, none⟩ = some (.slice none 0 0) := by rw [cell_of_row _ _ 8 _ _ _ g7]; rfl
  have y8 : (w6.alloc (.cells #[.int .i64 0, .slice none 0 0, .slice none 0 0] 27)).frozen? ⟨w.heap.size, 8, none⟩ = false := by simp [World.frozen?, g7]
  have hon : Only w.heap.size (w6.alloc (.cells #[.int .i64 0, .slice none 0 0, .slice none 0 0] 27)) ((((((((((w6.alloc (.cells #[.int .i64 0, .slice none 0 0, .slice none 0 0] 27)).setCell ⟨w.heap.size, 0, none⟩ (.int .i64 0)).setCell ⟨w.heap.size, 1, none⟩ (.int .i64 0)).setCell ⟨w.heap.size, 2, none⟩ (.slice none 0 0)).setCell ⟨w.heap.size, 3, none⟩ (.int .i64 0)).setCell ⟨w.heap.size, 4, none⟩ (.slice none 0 0)).setCell ⟨w.heap.size, 5, none⟩ (.slice none 0 0)).setCell ⟨w.heap.size, 6, none⟩ (.int .i64 0)).setCell ⟨w.heap.size, 7, none⟩ (.slice none 0 0)).setCell ⟨w.heap.size, 8, none⟩ (.slice none 0 0)) := ((((((((((Only.refl (w.heap.size) (w6.alloc (.cells #[.int .i64 0, .slice none 0 0, .slice none 0 0] 27))).setCell 0 _).setCell 1 _).setCell 2 _).setCell 3 _).setCell 4 _).setCell 5 _).setCell 6 _).setCell 7 _).setCell 8 _)
  have bF := d7.trans (hon.below (Nat.le_refl _))
  clear hM5 hA6 c6 g6 b7 g5 d5 hon d6 d7 gR ht5 hl5 hk5 hL5 kc
  go_wp2
  refine bodyPost_ret (v := .tuple #[.agg #[.int .i64 0, .int .i64 0, .slice none 0 0, .int .i64 0, .slice none 0 0, .slice none 0 0, .int .i64 0, .slice none 0 0, .slice none 0 0], .int .i64 5]) ?_ rfl ?_
  · simp only [results, Tryd.results7]
    go_simp
  · exact ⟨rfl, bF⟩

set_option maxHeartbeats 2000000 in
theorem open_yes (N H : Nat) (v : Value) (b EL SG : List UInt8) (r : Rc) (w : World) (hv : HB w v b) (hTD : TD w) (hN1 : 1 ≤ N) (hN : N ≤ 32) (hH : H ≤ 8) (hbl : b.length ≤ 1000000)
    (hRB : rdB b 0 (b.length : Int) = (0, EL, SG)) (hSl : SG.length ≤ b.length) (hEl : EL.length ≤ 1000000) (HSd : Hid (SG = b.drop (b.length - SG.length))) (hok : dcOk (N : Int) EL = true) (hr : dcR (N : Int) EL = r)
    (M ue : Int) (un : Nat) (R R1 : List UInt8) (HM : Hid (wrap64 (wrap64 ((2 : Int) ^ H) - 1) = M)) (HU : Hid (uintF SG M = (ue, un, R))) (HD1 : Hid (R1 = R.drop ((4 * N + 5) * N))) (HR : Hid (ue = 0 → R.length ≤ SG.length ∧ R = SG.drop (SG.length - R.length))) (hue : ue = 0) (hRl : ¬ R.length < (4 * N + 5 + H) * N) (HD2 : Hid (([] : List UInt8) = R1.drop (H * N))) (hpos : ∀ l ∈ r.lk, 0 < l.length) :
    Calls Tryd.prog 7 #[.int .i64 (N : Int), .int .i64 (H : Int), v] w fun x w' => ∃ tv lv kv cv pv, x = .returned (.tuple #[.agg #[.int .i64 r.e, .int .i64 r.t, tv, .int .i64 r.c, lv, kv, .int .i64 (un : Int), cv, pv], .int .i64 0]) ∧ HB w' tv r.tr ∧ HB w' lv r.li ∧ PA w' kv r.lk ∧ PA w' cv ((List.range (4 * N + 5)).map (rowB N R)) ∧ PA w' pv ((List.range H).map (rowB N R1)) ∧ Below w.heap.size w w' := by
  obtain ⟨p, c, rfl⟩ := hv.shape
  have b0 := (Below.refl w.heap.size w).alloc (Nat.le_refl _) (.cells #[.int .i64 0, .int .i64 0, .slice none 0 0, .int .i64 0, .slice none 0 0, .slice none 0 0, .int .i64 0, .slice none 0 0, .slice none 0 0] 29)
  have g0 := heap_alloc_new w (.cells #[.int .i64 0, .int .i64 0, .slice none 0 0, .int .i64 0, .slice none 0 0, .slice none 0 0, .int .i64 0, .slice none 0 0, .slice none 0 0] 29)
  obtain ⟨V, hV⟩ : ∃ V, w.alloc (.cells #[.int .i64 0, .int .i64 0, .slice none 0 0, .int .i64 0, .slice none 0 0, .slice none 0 0, .int .i64 0, .slice none 0 0, .slice none 0 0] 29) = V := ⟨_, rfl⟩
  rw [hV] at b0 g0
  have hO := open_any _ b V (hv.later b0) (by omega)
  have hBy := fun g W hh => rbytes_all g b 0 (b.length : Int) W hh (by omega)
  rw [hRB] at hBy
  have hDe := fun v W (hv' : HB W v EL) (ht : TD W) => decode_any (N : Int) v EL W hv' (by omega) ht
  rw [hok, hr] at hDe
  have hMR := fun v W (hv' : HB W v SG) => mread_any N H v SG M ue un R W HM HU R1 [] HD1 HD2 HR hv' (by omega) hN1 hN hH
  have hcu := hv.len
  have hws : wrap64 ((b.length : Int) - (SG.length : Int)) = (b.length : Int) - (SG.length : Int) := by unfold wrap64; omega
  have kc : ∀ w', (Instr.slice 22 (.slice p b.length c) (some (.int .i64 ((b.length : Int) - (SG.length : Int)))) none none).run Tryd.prog w' = .ok (.slice (cutP p c (b.length - SG.length)) (b.length - (b.length - SG.length)) (c - (b.length - SG.length))) w' := fun w' => run_cut (P := Tryd.prog) Tryd.underlying22 s_u8 p b.length c (b.length - SG.length) ((b.length : Int) - (SG.length : Int)) (by omega) (by omega) w'
  have hcut : ∀ W, Below w.heap.size w W → HB W (.slice (cutP p c (b.length - SG.length)) (b.length - (b.length - SG.length)) (c - (b.length - SG.length))) SG := by
    intro W hb
    have := (hv.later hb).behind (b.length - SG.length) (by omega)
    rw [← HSd.out] at this
    exact this
  have hl1 : b.length - (b.length - SG.length) = SG.length := by omega
  rw [hl1] at kc hcut
  generalize cutP p c (b.length - SG.length) = pr at *
  generalize c - (b.length - SG.length) = qr at *
  have hrb : (SG.length : Int) ≤ (b.length : Int) := by omega
  clear hRB hok hr hl1 HM HU HD1 HD2 HR HSd hcu hv
  go_enter Tryd.func7, Tryd.ntmps7
  go_wp2_with fail
  refine hO.mono ?_
  rintro x w2 ⟨g, hg, rfl, rr2, c2⟩
  have d2 := b0.trans (c2.mono b0.size)
  have hgw : w.heap.size < g := by have := (Array.getElem?_eq_some_iff.1 g0).1; omega
  have g2 := (c2.block _ (Array.getElem?_eq_some_iff.1 g0).1).trans g0
  have hB2 := hBy g w2 rr2
  clear hO hV b0 g0 c2 hBy rr2 hg
  go_wp2_with fail
  refine hB2.mono ?_
  rintro x w3 ⟨v3, rfl, p3, c3, hv3, hn3, rr3, o3⟩
  subst hv3
  have d3 := d2.trans (o3.below (Nat.le_of_lt hgw))
  have g3 := (o3.block _ (by omega) (Array.getElem?_eq_some_iff.1 g2).1).trans g2
  have hD3 := hDe _ w3 hn3.1 (hTD.later d3)
  clear hB2 hDe hn3 o3 g2 d2 hTD
  go_wp2_with fail
  refine hD3.mono ?_
  rintro x w4 ⟨_, hD4, c4⟩
  obtain ⟨tv, lv, kv, rfl, ht4, hl4, hk4⟩ := hD4 rfl
  obtain ⟨pt, ct, rfl⟩ := ht4.shape
  obtain ⟨pl, cl, rfl⟩ := hl4.shape
  obtain ⟨pk, ck, rfl⟩ := hk4.shape
  have d4 := d3.trans (c4.mono d3.size)
  have g4 := (c4.block _ (Array.getElem?_eq_some_iff.1 g3).1).trans g3
  have rr4 := rr3.later c4
  have b5 := (Below.refl w4.heap.size w4).alloc (Nat.le_refl _) (.cells #[.int .i64 r.e, .int .i64 r.t, .slice pt r.tr.length ct, .int .i64 r.c, .slice pl r.li.length cl, .slice pk r.lk.length ck] 25)
  have gR := heap_alloc_new w4 (.cells #[.int .i64 r.e, .int .i64 r.t, .slice pt r.tr.length ct, .int .i64 r.c, .slice pl r.li.length cl, .slice pk r.lk.length ck] 25)
  have d5 := d4.trans (b5.mono d4.size)
  have g5 := (b5.block _ (Array.getElem?_eq_some_iff.1 g4).1).trans g4
  have rr5 := rr4.later b5
  have hL5 := rr_left g SG 0 _ rr5
  have ht5 := ht4.later b5
  have hl5 := hl4.later b5
  have hk5 := hk4.later b5
  have hM5 := hMR _ _ (hcut _ d5)
  clear hD3 hD4 rr3 rr4 rr5 g3 g4 d3 d4 ht4 hl4 hk4 hMR hcut c4 b5
  go_wp2_with (first | (go_at_call 23; refine hL5.mono ?_; rintro x w6 ⟨rfl, hw⟩; have hw2 := hw.symm; clear hw; subst hw2) | fail)
  refine hM5.mono ?_
  rintro x w6 ⟨_, _, hA6, c6⟩
  obtain ⟨xv, yv, p6, q6, rfl, hX, hY, _⟩ := hA6 hue hRl
  obtain ⟨px, cx, hx⟩ := owns_shape hX.choose_spec.1
  obtain ⟨py, cy, hy⟩ := owns_shape hY.choose_spec.1
  subst hx
  subst hy
  have d6 := d5.trans (c6.mono d5.size)
  have g6 := (c6.block _ (Array.getElem?_eq_some_iff.1 g5).1).trans g5
  have gR6 := (c6.block _ (Array.getElem?_eq_some_iff.1 gR).1).trans gR
  have ht6 := ht5.later c6
  have hl6 := hl5.later c6
  have hk6 := hk5.later c6
  have b7 := (Below.refl w6.heap.size w6).alloc (Nat.le_refl _) (.cells #[.int .i64 (un : Int), .slice px (4 * N + 5) cx, .slice py H cy] 27)
  have gS := heap_alloc_new w6 (.cells #[.int .i64 (un : Int), .slice px (4 * N + 5) cx, .slice py H cy] 27)
  have g7 := (b7.block _ (Array.getElem?_eq_some_iff.1 g6).1).trans g6
  have gR7 := (b7.block _ (Array.getElem?_eq_some_iff.1 gR6).1).trans gR6
  have d7 := d6.trans (b7.mono d6.size)
  have ht7 := ht6.later b7
  have hl7 := hl6.later b7
  have hk7 := hk6.later b7
  have hX7 := hX.later b7
  have hY7 := hY.later b7
  obtain ⟨w7, hw7⟩ : ∃ w7, w6.alloc (.cells #[.int .i64 (un : Int), .slice px (4 * N + 5) cx, .slice py H cy] 27) = w7 := ⟨_, rfl⟩
  rw [hw7] at g7 gR7 gS d7 ht7 hl7 hk7 hX7 hY7
  have x0 : w7.cell? ⟨w.heap.size, 0, none⟩ = some (.int .i64 0) := by rw [cell_of_row _ _ 0 _ _ _ g7]; rfl
  have y0 : w7.frozen? ⟨w.heap.size, 0, none⟩ = false := by simp [World.frozen?, g7]
  have x1 : w7.cell? ⟨w.heap.size, 1, none⟩ = some (.int .i64 0) := by rw [cell_of_row _ _ 1 _ _ _ g7]; rfl
  have y1 : w7.frozen? ⟨w.heap.size, 1, none⟩ = false := by simp [World.frozen?, g7]
  have x2 : w7.cell? ⟨w.heap.size, 2, none⟩ = some (.slice none 0 0) := by rw [cell_of_row _ _ 2 _ _ _ g7]; rfl
  have y2 : w7.frozen? ⟨w.heap.size, 2, none⟩ = false := by simp [World.frozen?, g7]
  have x3 : w7.cell? ⟨w.heap.size, 3, none⟩ = some (.int .i64 0) := by rw [cell_of_row _ _ 3 _ _ _ g7]; rfl
  have y3 : w7.frozen? ⟨w.heap.size, 3, none⟩ = false := by simp [World.frozen?, g7]
  have x4 : w7.cell? ⟨w.heap.size, 4, none⟩ = some (.slice none 0 0) := by rw [cell_of_row _ _ 4 _ _ _ g7]; rfl
  have y4 : w7.frozen? ⟨w.heap.size, 4, none⟩ = false := by simp [World.frozen?, g7]
  have x5 : w7.cell? ⟨w.heap.size, 5, none⟩ = some (.slice none 0 0) := by rw [cell_of_row _ _ 5 _ _ _ g7]; rfl
  have y5 : w7.frozen? ⟨w.heap.size, 5, none⟩ = false := by simp [World.frozen?, g7]
  have x6 : w7.cell? ⟨w.heap.size, 6, none⟩ = some (.int .i64 0) := by rw [cell_of_row _ _ 6 _ _ _ g7]; rfl
  have y6 : w7.frozen? ⟨w.heap.size, 6, none⟩ = false := by simp [World.frozen?, g7]
  have x7 : w7.cell? ⟨w.heap.size, 7, none⟩ = some (.slice none 0 0) := by rw [cell_of_row _ _ 7 _ _ _ g7]; rfl
  have y7 : w7.frozen? ⟨w.heap.size, 7, none⟩ = false := by simp [World.frozen?, g7]
  have x8 : w7.cell? ⟨w.heap.size, 8, none⟩ = some (.slice none 0 0) := by rw [cell_of_row _ _ 8 _ _ _ g7]; rfl
  have y8 : w7.frozen? ⟨w.heap.size, 8, none⟩ = false := by simp [World.frozen?, g7]
  have r0 : w7.cell? ⟨w4.heap.size, 0, none⟩ = some (.int .i64 r.e) := by rw [cell_of_row _ _ 0 _ _ _ gR7]; rfl
  have r1 : w7.cell? ⟨w4.heap.size, 1, none⟩ = some (.int .i64 r.t) := by rw [cell_of_row _ _ 1 _ _ _ gR7]; rfl
  have r2 : w7.cell? ⟨w4.heap.size, 2, none⟩ = some (.slice pt r.tr.length ct) := by rw [cell_of_row _ _ 2 _ _ _ gR7]; rfl
  have r3 : w7.cell? ⟨w4.heap.size, 3, none⟩ = some (.int .i64 r.c) := by rw [cell_of_row _ _ 3 _ _ _ gR7]; rfl
  have r4 : w7.cell? ⟨w4.heap.size, 4, none⟩ = some (.slice pl r.li.length cl) := by rw [cell_of_row _ _ 4 _ _ _ gR7]; rfl
  have r5 : w7.cell? ⟨w4.heap.size, 5, none⟩ = some (.slice pk r.lk.length ck) := by rw [cell_of_row _ _ 5 _ _ _ gR7]; rfl

  have s0 : w7.cell? ⟨w6.heap.size, 0, none⟩ = some (.int .i64 (un : Int)) := by rw [cell_of_row _ _ 0 _ _ _ gS]; rfl
  have s1 : w7.cell? ⟨w6.heap.size, 1, none⟩ = some (.slice px (4 * N + 5) cx) := by rw [cell_of_row _ _ 1 _ _ _ gS]; rfl
  have s2 : w7.cell? ⟨w6.heap.size, 2, none⟩ = some (.slice py H cy) := by rw [cell_of_row _ _ 2 _ _ _ gS]; rfl
  have hon : Only w.heap.size w7 (((((((((w7.setCell ⟨w.heap.size, 0, none⟩ (.int .i64 r.e)).setCell ⟨w.heap.size, 1, none⟩ (.int .i64 r.t)).setCell ⟨w.heap.size, 2, none⟩ (.slice pt r.tr.length ct)).setCell ⟨w.heap.size, 3, none⟩ (.int .i64 r.c)).setCell ⟨w.heap.size, 4, none⟩ (.slice pl r.li.length cl)).setCell ⟨w.heap.size, 5, none⟩ (.slice pk r.lk.length ck)).setCell ⟨w.heap.size, 6, none⟩ (.int .i64 (un : Int))).setCell ⟨w.heap.size, 7, none⟩ (.slice px (4 * N + 5) cx)).setCell ⟨w.heap.size, 8, none⟩ (.slice py H cy)) := ((((((((((Only.refl (w.heap.size) w7).setCell 0 _).setCell 1 _).setCell 2 _).setCell 3 _).setCell 4 _).setCell 5 _).setCell 6 _).setCell 7 _).setCell 8 _)
  have bF := d7.trans (hon.below (Nat.le_refl _))
  have nb : ∀ x ∈ (#[.int .i64 0, .int .i64 0, .slice none 0 0, .int .i64 0, .slice none 0 0, .slice none 0 0, .int .i64 0, .slice none 0 0, .slice none 0 0] : Array Value).toList, ∀ y : UInt8, x ≠ bc y := by
    intro x hx y
    simp only [List.mem_cons, List.not_mem_nil, or_false] at hx
    rcases hx with rfl | rfl | rfl | rfl | rfl | rfl | rfl | rfl | rfl <;> simp [bc]
  have nz : ∀ x ∈ (#[.int .i64 0, .int .i64 0, .slice none 0 0, .int .i64 0, .slice none 0 0, .slice none 0 0, .int .i64 0, .slice none 0 0, .slice none 0 0] : Array Value).toList, ∀ q n c, x = Value.slice q n c → n = 0 := by
    intro x hx q n c e
    simp only [List.mem_cons, List.not_mem_nil, or_false] at hx
    rcases hx with rfl | rfl | rfl | rfl | rfl | rfl | rfl | rfl | rfl <;> simp at e <;> omega
  have tF := ht7.onlyC g7 nb hon
  have lF := hl7.onlyC g7 nb hon
  have kF := hk7.onlyC hpos g7 nb nz hon
  have hwl : w.heap.size < (w4.alloc (.cells #[.int .i64 r.e, .int .i64 r.t, .slice pt r.tr.length ct, .int .i64 r.c, .slice pl r.li.length cl, .slice pk r.lk.length ck] 25)).heap.size := (Array.getElem?_eq_some_iff.1 g5).1
  have xF := (hX7.box g7 (by decide) hon hwl).pa
  have yF := (hY7.box g7 (by decide) hon hwl).pa
  clear hM5 hA6 c6 g6 b7 g5 d5 hon d6 d7 gR ht5 hl5 hk5 hL5 kc ht6 hl6 hk6 ht7 hl7 hk7 hX hY hX7 hY7 gR6 gR7 gS nb nz hwl
  go_wp2
  refine bodyPost_ret (v := .tuple #[.agg #[.int .i64 r.e, .int .i64 r.t, .slice pt r.tr.length ct, .int .i64 r.c, .slice pl r.li.length cl, .slice pk r.lk.length ck, .int .i64 (un : Int), .slice px (4 * N + 5) cx, .slice py H cy], .int .i64 0]) ?_ rfl ?_
  · simp only [results, Tryd.results7]
    go_simp
  · exact ⟨_, _, _, _, _, rfl, tF, lF, kF, xF, yF, bF⟩

end Go.Proofs.YtkgoiemnhhdlbaaDoor
