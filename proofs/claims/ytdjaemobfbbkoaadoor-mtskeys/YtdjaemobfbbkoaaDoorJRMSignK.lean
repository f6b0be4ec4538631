/- What this text proves: the walk of the document's Sign (annalsref06) over this program: a digest signed by a number. -/
import Derived.Test.YtdjaemobfbbkoaaDoorJRMNewV
import Derived.Test.YtdjaemobfbbkoaaDoorJRSignT
import Derived.Test.YtdjaemobfbbkoaaDoorJMSignW
namespace Go.Proofs.YtdjaemobfbbkoaaDoor
open Go.RowKit

set_option maxRecDepth 100000 in
set_option maxHeartbeats 4000000 in
theorem rmsign_ok (g n h i B : Nat) (p : Option Addr) (c : Nat) (lv dv : Value) (seed D : List UInt8) (w : World) (k : RKO w g n h (.slice p seed.length c) lv) (t : TL w B n h seed lv (h + 1)) (hs : HB w (.slice p seed.length c) seed) (hdv : HB w dv D) (hDl : D.length = n) (hi : i < 2 ^ h) (hsl : seed.length ≤ 64) (hn : 1 ≤ n) (hn2 : n ≤ 32) (hh : h ≤ 8) :
    Calls Tryd.prog 9 #[.pointer (some ⟨g, 0, none⟩), .int .i64 (i : Int), dv] w fun e w' => ∃ x y, e = .returned (.tuple #[.agg #[.int .i64 (i : Int), x, y], .int .i64 0]) ∧ PA w' x (signW n seed (i : Int) D) ∧ RS w' w.heap.size y h (fun k => treeS n seed k (besideP (i / 2 ^ k))) ∧ Below w.heap.size w w' := by
  obtain ⟨q, d, rfl⟩ := hdv.shape
  have h256 : 2 ^ h ≤ 256 := by
    have : 2 ^ h ≤ 2 ^ 8 := Nat.pow_le_pow_right (by decide) hh
    omega
  have hc : rcanB (n : Int) (i : Int) seed.length = true := by
    simp [rcanB, canB]
    omega
  have hS := fun w' h1 h2 => rsign_ok n (i : Int) (.slice p seed.length c) (.slice q D.length d) seed D w' h1 h2 hDl hc
  rw [hDl] at hdv hS ⊢
  have HW : Hid (wrap64 ((2 : Int) ^ h) = ((2 ^ h : Nat) : Int)) := pow_wrap h hh
  obtain ⟨c0, c1, c2, c3⟩ := k.cells
  clear hc
  have bA := (Below.refl _ w).alloc (Nat.le_refl _) (.cells #[.int .i64 0, .slice none 0 0, .slice none 0 0] 30)
  have d0 := cell_later bA c0
  have d1 := cell_later bA c1
  have d2 := cell_later bA c2
  have d3 := cell_later bA c3
  have hi0 : ¬ (i : Int) < 0 := by omega
  have hi1 : (i : Int) < ((2 ^ h : Nat) : Int) := by omega
  obtain ⟨N, hN⟩ : ∃ N, N = 2 ^ h := ⟨_, rfl⟩
  rw [← hN] at HW hi1 h256
  have HN : Hid (N = 2 ^ h) := hN
  clear hN
  have hi2 : ¬ (N : Int) ≤ (i : Int) := by omega
  have hW := HW.out
  go_enter Tryd.func9, Tryd.ntmps9
  go_wp2
  clear hW d0 d1 d2 d3
  have bW := bA.alloc (by simp) (.cells #[.int .i64 (i : Int), .slice none 0 0, .slice none 0 0] 30)
  have g1 : ((w.alloc (.cells #[.int .i64 0, .slice none 0 0, .slice none 0 0] 30)).alloc (.cells #[.int .i64 (i : Int), .slice none 0 0, .slice none 0 0] 30)).heap[w.heap.size]? = some (.cells #[.int .i64 0, .slice none 0 0, .slice none 0 0] 30 (0, 0)) := by
    rw [((Below.refl (w.heap.size + 1) (w.alloc (.cells #[.int .i64 0, .slice none 0 0, .slice none 0 0] 30))).alloc (by simp) (.cells #[.int .i64 (i : Int), .slice none 0 0, .slice none 0 0] 30)).block w.heap.size (by omega)]
    exact heap_alloc_new w _
  have g2 : ((w.alloc (.cells #[.int .i64 0, .slice none 0 0, .slice none 0 0] 30)).alloc (.cells #[.int .i64 (i : Int), .slice none 0 0, .slice none 0 0] 30)).heap[w.heap.size + 1]? = some (.cells #[.int .i64 (i : Int), .slice none 0 0, .slice none 0 0] 30 (0, 0)) := by
    have := heap_alloc_new (w.alloc (.cells #[.int .i64 0, .slice none 0 0, .slice none 0 0] 30)) (.cells #[.int .i64 (i : Int), .slice none 0 0, .slice none 0 0] 30)
    simpa using this
  have HZ : Hid (((w.alloc (.cells #[.int .i64 0, .slice none 0 0, .slice none 0 0] 30)).alloc (.cells #[.int .i64 (i : Int), .slice none 0 0, .slice none 0 0] 30)).heap.size = w.heap.size + 2) := by
    show _ = _
    simp
  generalize (w.alloc (.cells #[.int .i64 0, .slice none 0 0, .slice none 0 0] 30)).alloc (.cells #[.int .i64 (i : Int), .slice none 0 0, .slice none 0 0] 30) = W at *
  have d0 := cell_later bW c0
  have d1 := cell_later bW c1
  have d2 := cell_later bW c2
  have hgl := k.lt
  have hgs : g ≠ w.heap.size + 1 := by omega
  have hbd : Below W.heap.size W W.drew := (Below.refl _ W).drew
  have hsW := hs.later bW
  have hdW := hdv.later bW
  have hSd := hS W.drew (hsW.later hbd) (hdW.later hbd)
  have hpl : (signW n seed (i : Int) D).length = 4 * n + 5 := by
    have := sign_whole n hn2 seed hsl (i : Int) D
    simp [wholeB] at this
    exact this.1
  clear hS hs hdv hdW c0 c1 c2 bA HW
  generalize hCH0 : signW n seed (i : Int) D = CH at hSd hpl
  have HCH : Hid (signW n seed (i : Int) D = CH) := hCH0
  have HPL : Hid (CH.length = 4 * n + 5) := hpl
  clear hCH0 hpl
  have hszW : w.heap.size + 1 < W.heap.size := by rw [HZ.out]; omega
  go_region_held3 (fun w' => w'.cell? ⟨g, 0, none⟩ = some (.int .i64 (n : Int)) ∧ w'.cell? ⟨g, 2, none⟩ = some (.slice p seed.length c)) (first | exact ⟨d0, d2⟩ | exact ⟨by simpa using d0, by simpa using d2⟩ | exact ⟨f0, f2⟩ | exact ⟨h0, h2⟩) (first
    | (go_at_call 26; refine hSd.mono ?_; rintro e w2 ⟨ca, rfl, pa2, hb2⟩; obtain ⟨pc, cc, rfl⟩ := pa2.shape; have hb2' : Below W.heap.size W w2 := hbd.trans hb2; have f0 := cell_later hb2' d0; have f2 := cell_later hb2' d2; have g22 : w2.heap[w.heap.size + 1]? = some (.cells #[.int .i64 (i : Int), .slice none 0 0, .slice none 0 0] 30 (0, 0)) := (hb2'.block _ hszW).trans g2; have x1 : w2.cell? ⟨w.heap.size + 1, 1, none⟩ = some (.slice none 0 0) := (by rw [cell_of_row _ _ 1 _ _ _ g22]; rfl); have y1 : w2.frozen? ⟨w.heap.size + 1, 1, none⟩ = false := (by simp [World.frozen?, g22]); have o23 := (Only.refl (w.heap.size + 1) w2).setCell 1 (.slice pc CH.length cc); have h0 := cell_ony o23 f0 hgs; have h2 := cell_ony o23 f2 hgs))
  have bW2 := bW.trans (hb2'.mono bW.size)
  have s02 := bW2.size
  have bW3 : Below w.heap.size w (w2.setCell ⟨w.heap.size + 1, 1, none⟩ (.slice pc CH.length cc)) := bW2.setCell (p := ⟨w.heap.size + 1, 1, none⟩) (by simp) _
  have g13 : (w2.setCell ⟨w.heap.size + 1, 1, none⟩ (.slice pc CH.length cc)).heap[w.heap.size]? = some (.cells #[.int .i64 0, .slice none 0 0, .slice none 0 0] 30 (0, 0)) := by
    rw [o23.block w.heap.size (by omega) (by have := hb2'.size; omega), hb2'.block w.heap.size (by omega)]
    exact g1
  have g23 : (w2.setCell ⟨w.heap.size + 1, 1, none⟩ (.slice pc CH.length cc)).heap[w.heap.size + 1]? = some (.cells #[.int .i64 (i : Int), .slice pc CH.length cc, .slice none 0 0] 30 (0, 0)) := by
    rw [heap_setCell_same w2 (w.heap.size + 1) 1 _ _ _ g22]; rfl
  have pa3 := sig_pa g22 o23 pa2 (by rw [HPL.out]; omega)
  have sz3 : w.heap.size + 1 < (w2.setCell ⟨w.heap.size + 1, 1, none⟩ (.slice pc CH.length cc)).heap.size := (Array.getElem?_eq_some_iff.1 g23).1
  clear pa2 o23 g22 g1 g2 f0 f2 h0 h2 x1 y1 d0 d1 d2 hSd hb2 hb2' hbd hsW bW2 bW s02
  generalize w2.setCell ⟨w.heap.size + 1, 1, none⟩ (.slice pc CH.length cc) = W3 at *
  have d1 := cell_later bW3 k.cells.2.1
  obtain ⟨sig, hsig⟩ : ∃ sig : Nat → List UInt8, sig = fun k => treeS n seed k (besideP (i / 2 ^ k)) := ⟨_, rfl⟩
  have HSIG : Hid (sig = fun k => treeS n seed k (besideP (i / 2 ^ k))) := hsig
  clear hsig
  obtain ⟨i0, hi9, hz0, hz1, hz2⟩ := info_parts i_bytes
  go_wp2
  go_loopw [52] (fun v wr => ∃ (m : Nat) (y : Value), m ≤ h ∧ v = .int .i64 m ∧ wr.heap[w.heap.size + 1]? = some (.cells #[.int .i64 (i : Int), .slice pc CH.length cc, y] 30 (0, 0)) ∧ RS wr W3.heap.size y m sig ∧ Only (w.heap.size + 1) W3 wr) (fun v _ => h - (intOf v).toNat)
  case atStart => exact ⟨0, _, Nat.zero_le _, rfl, g23, ⟨[], World.ownsRow_nil _ _ _ _, fun j u hu => by simp at hu⟩, Only.refl _ _⟩
  case round =>
    obtain ⟨m, y, hm, rfl, gr9, hrs, orr⟩ := hrel
    have s3r := orr.size
    have b3r : Below w.heap.size W3 wr := orr.below (by omega)
    have bWr := bW3.trans b3r
    by_cases hlt : m < h
    · obtain ⟨gl, cl, hlv, _, hml, hget⟩ := (t.later bWr).get (by omega)
      subst hlv
      obtain ⟨gr, cr, y1, r4⟩ := hget m (by omega)
      have hpow : 0 < 2 ^ (h - m) := Nat.pow_pos (by decide)
      obtain ⟨g9, cap9, heq, _, _, hM9, hcell⟩ := r4.addr hpow
      cases heq
      have hi256 : i < 256 := by omega
      have hxor := xor_calc ⟨i, hi256⟩ ⟨m, by omega⟩
      simp only at hxor
      have hpk : i / 2 ^ m < 2 ^ (h - m) := by
        rw [Nat.div_lt_iff_lt_mul (Nat.pow_pos (by decide)), ← Nat.pow_add, Nat.sub_add_cancel hm]
        exact hi
      have hev : 2 ^ (h - m) = 2 * 2 ^ (h - m - 1) := by rw [show h - m = (h - m - 1) + 1 by omega, Nat.pow_succ]; simp; omega
      have hbl : besideP (i / 2 ^ m) < 2 ^ (h - m) := by rw [hev]; exact beside_lt (by rw [← hev]; exact hpk)
      have hsk : sig m = treeS n seed m (besideP (i / 2 ^ m)) := by rw [HSIG.out]
      have hlen := treeS_length n hn2 seed m (besideP (i / 2 ^ m))
      rw [← hsk] at hlen
      have hl0 : 0 < (sig m).length := by omega
      have hl1 : (sig m).length ≤ 32 := by omega
      clear hlen
      generalize hbp : besideP (i / 2 ^ m) = bp at *
      obtain ⟨pr, cq, y3, h3, _⟩ := hcell bp hbl
      rw [← hsk] at y3 h3
      have HSK : Hid (sig m = treeS n seed m bp) := hsk
      have hk1 : (m : Int) < (h : Int) + 1 := by omega
      have hk0 : (0 : Int) ≤ (m : Int) := by omega
      have hk2 : (m : Int) < (h : Int) := by omega
      have hb0 : (0 : Int) ≤ (bp : Int) := by omega
      clear hev hpk hbp hi256 hsk hget hcell r4
      generalize 2 ^ (h - m) = M at *
      have hbM : (bp : Int) < (M : Int) := by omega
      have hgs9 : w.heap.size + 1 < wr.heap.size := by omega
      have cy : wr.cell? ⟨w.heap.size + 1, 2, none⟩ = some y := by rw [cell_of_row _ _ 2 _ _ _ gr9]; rfl
      have c3r := cell_later bWr k.cells.2.2.2
      have bD : Below wr.heap.size wr wr.drew := (Below.refl _ wr).drew
      have bN : Below wr.heap.size wr (wr.alloc (.cells #[] 5)) := (Below.refl _ wr).alloc (Nat.le_refl _) _
      have bA : Below wr.heap.size wr (wr.alloc (.cells #[] 5)).drew := bN.drew
      have oA : (wr.alloc (.cells #[] 5)).drew.ownsRow wr.heap.size 5 1 (.slice (some ⟨wr.heap.size, 0, none⟩) 0 0) 0 [] := (owns_none wr 5).drew
      have a2 := cell_later bD cy
      have a3 := cell_later bD c3r
      have a4 := cell_later bD y1
      have a5 := cell_later bD y3
      have b2 := cell_later bN cy
      have b3 := cell_later bN c3r
      have b4 := cell_later bN y1
      have b5 := cell_later bN y3
      have hA := h3.later bA
      have sA := bA.size
      obtain ⟨pl, cpl, rfl⟩ := owns_shape hrs.choose_spec.1
      clear d1 t
      have hgsW : w.heap.size + 1 < W3.heap.size := sz3
      go_wp2
      go_region_law (first
        | (refine step_append_hb0 (by rfl) _ _ _ (by rfl) wr.heap.size 5 Tryd.underlying22 i_u8 _ (by rfl) oA _ _ _ (sig m) (by rfl) hA hl0 (by omega) sA ?_; intro gg cap w5 o5 hg5; have hb5 : Below wr.heap.size wr w5 := bA.grown hg5 sA (fun k hk => by cases hk; exact Nat.le_refl _); have e2 := cell_later hb5 cy; have bB := (Below.refl _ w5).alloc (Nat.le_refl _) (.cells #[.slice (some ⟨gg, 0, none⟩) (sig m).length cap] 22); have e3 := cell_later bB e2)
        | (obtain ⟨vs, r1, r2⟩ := (hrs.later hb5).later bB; refine step_append_lies _ (by rfl) _ _ _ (by rfl) W3.heap.size 22 i0 _ 1 24 Tryd.underlying28 hi9 hz0 hz1 hz2 rfl (by omega) _ m vs (by rfl) r1 ⟨w5.heap.size, 0, none⟩ 1 1 [.slice (some ⟨gg, 0, none⟩) (sig m).length cap] (by rfl) (by rfl) (World.news_of_block (cs := #[.slice (some ⟨gg, 0, none⟩) (sig m).length cap]) (t := 22) (fr := (0, 0)) (heap_alloc_new w5 _)) (by simp [Value.oneCell']) (by omega) (by unfold maxLen; omega) (by omega) (by simp; have := hb5.size; omega) (w5.heap.size + 1) (by simp) ?_; intro g6 cap6 w6 hown6 hgrow6 hat hlt6; obtain ⟨gs6, gs7, rs7, o7⟩ := path_put orr (hb5.trans (bB.mono hb5.size)) hgsW gr9 r1 r2 ((HB.of_owns o5).later bB) ((TB.of_owns o5).later bB) hgrow6 hown6; have x6 : w6.cell? ⟨w.heap.size + 1, 2, none⟩ = some (.slice pl m cpl) := (by rw [cell_of_row _ _ 2 _ _ _ gs6]; rfl); have z6 : w6.frozen? ⟨w.heap.size + 1, 2, none⟩ = false := (by simp [World.frozen?, gs6])))
      all_goals
        clear r1 r2 hgrow6 hown6 hat hlt6 gs6 o5 hg5 hb5 e2 bB e3 a2 a3 a4 a5 b2 b3 b4 b5 hA oA bA bN bD cy c3r y1 y3 h3 hrs gr9 orr b3r bWr x6 z6 hxor
        go_wp2
        go_roundw
        case rel => exact ⟨m + 1, _, by omega, by go_num, gs7, rs7, o7⟩
        case measure => simp [intOf]; omega
    · obtain rfl : m = h := by omega
      have gr1 : wr.heap[w.heap.size]? = some (.cells #[.int .i64 0, .slice none 0 0, .slice none 0 0] 30 (0, 0)) := (orr.block _ (by omega) (by omega)).trans g13
      have par := sig_pa g23 orr pa3 (by rw [HPL.out]; omega)
      obtain ⟨pl, cpl, rfl⟩ := owns_shape hrs.choose_spec.1
      obtain ⟨W5, hW5⟩ : ∃ W5, W5 = ((wr.setCell ⟨w.heap.size, 0, none⟩ (.int .i64 (i : Int))).setCell ⟨w.heap.size, 1, none⟩ (.slice pc CH.length cc)).setCell ⟨w.heap.size, 2, none⟩ (.slice pl m cpl) := ⟨_, rfl⟩
      have hon : Only w.heap.size wr W5 := by rw [hW5]; exact (((Only.refl _ wr).setCell 0 _).setCell 1 _).setCell 2 _
      have pf := sig_pa gr1 hon par (by rw [HPL.out]; omega)
      have rf := (hrs.box gr1 (by decide) hon (by omega)).mono (base' := w.heap.size) (by omega)
      rw [HSIG.out] at rf
      have bf : Below w.heap.size w W5 := bWr.trans (hon.below (Nat.le_refl _))
      have s0 : wr.cell? ⟨w.heap.size + 1, 0, none⟩ = some (.int .i64 (i : Int)) := by rw [cell_of_row _ _ 0 _ _ _ gr9]; rfl
      have s1 : wr.cell? ⟨w.heap.size + 1, 1, none⟩ = some (.slice pc CH.length cc) := by rw [cell_of_row _ _ 1 _ _ _ gr9]; rfl
      have s2 : wr.cell? ⟨w.heap.size + 1, 2, none⟩ = some (.slice pl m cpl) := by rw [cell_of_row _ _ 2 _ _ _ gr9]; rfl
      have x0 : wr.cell? ⟨w.heap.size, 0, none⟩ = some (.int .i64 0) := by rw [cell_of_row _ _ 0 _ _ _ gr1]; rfl
      have x1 : wr.cell? ⟨w.heap.size, 1, none⟩ = some (.slice none 0 0) := by rw [cell_of_row _ _ 1 _ _ _ gr1]; rfl
      have x2 : wr.cell? ⟨w.heap.size, 2, none⟩ = some (.slice none 0 0) := by rw [cell_of_row _ _ 2 _ _ _ gr1]; rfl
      have y0 : wr.frozen? ⟨w.heap.size, 0, none⟩ = false := by simp [World.frozen?, gr1]
      have y1 : wr.frozen? ⟨w.heap.size, 1, none⟩ = false := by simp [World.frozen?, gr1]
      have y2 : wr.frozen? ⟨w.heap.size, 2, none⟩ = false := by simp [World.frozen?, gr1]
      clear hrs par hon gr1 gr9 g13 g23 pa3 orr b3r bWr t HPL d1
      go_wp2
      refine bodyPost_ret (v := .tuple #[.agg #[.int .i64 (i : Int), .slice pc CH.length cc, .slice pl m cpl], .int .i64 0]) ?_ rfl ?_
      · simp only [results, Tryd.results9]
        go_simp
      · rw [← hW5, HCH.out]
        exact ⟨_, _, rfl, pf, rf, bf⟩

end Go.Proofs.YtdjaemobfbbkoaaDoor
