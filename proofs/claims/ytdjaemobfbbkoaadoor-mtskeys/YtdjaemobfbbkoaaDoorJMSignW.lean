/- What this text proves: the walk of mts.Sign, that signs, over this program. -/
import Derived.Test.YtdjaemobfbbkoaaDoorJMSign
namespace Go.Proofs.YtdjaemobfbbkoaaDoor
open Go.RowKit

theorem beside_lt {p m : Nat} (h : p < 2 * m) : besideP p < 2 * m := by
  unfold besideP
  split <;> omega

theorem i_bytes24 : (Tryd.prog.info? 22).map (fun i => (i.zero, i.size, i.bytes)) = some (some (.slice none 0 0), 1, 24) := by kernel_rfl

set_option maxRecDepth 100000 in
set_option maxHeartbeats 4000000 in
theorem msign_ok (g n h i : Nat) (seed D : List UInt8) (dv : Value) (w : World) (k : KW w g n h seed 0 (.slice none 0 0)) (hg1 : 1 < g) (hsl : seed.length ≤ 64) (hn : 1 ≤ n) (hn2 : n ≤ 32) (hh : h ≤ 8) (hT : Tabs w) (hdv : HB w dv D) (hD : D.length = n) (hi : i < 2 ^ h) :
    Calls Tryd.prog 8 #[.pointer (some ⟨g, 0, none⟩), .int .i64 (i : Int), dv] w fun e w' => ∃ ca pa, e = .returned (.tuple #[.agg #[.int .i64 (i : Int), ca, pa], .int .i64 0]) ∧ PA w' ca (signW n seed i D) ∧ (∃ base, g < base ∧ RS w' base pa h (fun k => treeS n seed k (besideP (i / 2 ^ k)))) ∧ (∃ B, KS w' g n h seed B ∧ g < B ∧ B ≤ w'.heap.size) ∧ Only g w w' := by
  have kk := k
  obtain ⟨p1, c1, ko, hs, ts⟩ := k
  obtain ⟨q, e, rfl⟩ := hdv.shape
  have k0 := ko.c0
  have k1 := ko.c1
  have k2 := ko.c2
  have hgl := ko.lt
  have h256 : 2 ^ h ≤ 256 := by
    have : 2 ^ h ≤ 2 ^ 8 := Nat.pow_le_pow_right (by decide) hh
    omega
  have hM := fun w' c0' => missing_made g n w' c0' (by omega)
  have hW := fun w' => within_any (i : Int) h w' hh
  have hin : withinB (i : Int) h = true := by
    have : (i : Int) < (2 : Int) ^ h := by exact_mod_cast hi
    simp [withinB]
    exact_mod_cast hi
  rw [hin] at hW
  have hS := fun w' hs' hd' hT' => sign_ok n (i : Int) (.slice p1 seed.length c1) (.slice q D.length e) seed D w' hs' hd' hD hsl hn hn2 (by omega) (by omega) hT'
  clear hin hD
  go_enter Tryd.func8, Tryd.ntmps8
  go_wp2_with fail
  have bA := (Below.refl _ w).alloc (Nat.le_refl _) (.cells #[.int .i64 0, .slice none 0 0, .slice none 0 0] 30)
  have d0 := cell_later bA k0
  have d1 := cell_later bA k1
  have d2 := cell_later bA k2
  have hsA := hs.later bA
  have hdA := hdv.later bA
  have TA := hT.later bA
  have kA := kk.later bA
  have g1 : (w.alloc (.cells #[.int .i64 0, .slice none 0 0, .slice none 0 0] 30)).heap[w.heap.size]? = some (.cells #[.int .i64 0, .slice none 0 0, .slice none 0 0] 30 (0, 0)) := heap_alloc_new w _
  have sA : w.heap.size < (w.alloc (.cells #[.int .i64 0, .slice none 0 0, .slice none 0 0] 30)).heap.size := by simp
  generalize w.alloc (.cells #[.int .i64 0, .slice none 0 0, .slice none 0 0] 30) = W at *
  refine (hM _ d0).mono ?_
  rintro e w1 ⟨rfl, hw1⟩
  have hw2 := hw1.symm
  clear hw1
  subst hw2
  go_wp2_with fail
  refine (hW _).mono ?_
  rintro e w1 ⟨rfl, hw1⟩
  have hw2 := hw1.symm
  clear hw1
  subst hw2
  go_wp2
  have hbd : Below W.heap.size W W.drew := (Below.refl _ W).drew
  have hSd := hS W.drew (hsA.later hbd) (hdA.later hbd) (TA.later hbd)
  have hpl : (signW n seed (i : Int) D).length = 4 * n + 5 := by
    have := sign_whole n hn2 seed hsl (i : Int) D
    simp [wholeB] at this
    exact this.1
  clear hS hM hW hs hdv
  generalize hCH0 : signW n seed (i : Int) D = CH at hSd hpl
  have HCH : Hid (signW n seed (i : Int) D = CH) := hCH0
  clear hCH0
  go_region_held3 (fun w' => w'.cell? ⟨g, 0, none⟩ = some (.int .i64 (n : Int)) ∧ w'.cell? ⟨g, 2, none⟩ = some (.slice p1 seed.length c1)) (first | exact ⟨d0, d2⟩ | exact ⟨by simpa using d0, by simpa using d2⟩ | exact ⟨f0, f2⟩) (first
    | (go_at_call 23; refine hSd.mono ?_; rintro e w2 ⟨ca, rfl, pa2, hb2⟩; have hb2' : Below W.heap.size W w2 := hbd.trans hb2; have f0 := cell_later hb2' d0; have f1 := cell_later hb2' d1; have f2 := cell_later hb2' d2))
  have HPL : Hid (CH.length = 4 * n + 5) := hpl
  have k2' := kA.later hb2'
  have T2 := TA.later hb2'
  have g2 : w2.heap[w.heap.size]? = some (.cells #[.int .i64 0, .slice none 0 0, .slice none 0 0] 30 (0, 0)) := (hb2'.block _ sA).trans g1
  have s2 : W.heap.size ≤ w2.heap.size := hb2'.size
  have hw2 : Only g w w2 := (Only.of_below bA (by omega)).trans (Only.of_below hb2' (by omega))
  clear hpl hSd hb2 d0 d1 d2 hsA hdA TA kA g1 hbd hb2' k0 k1 k2 ko ts kk hT
  obtain ⟨i0, hi0, hz0, hz1, hz2⟩ := info_parts i_bytes24
  obtain ⟨sig, hsig⟩ : ∃ sig : Nat → List UInt8, sig = fun k => treeS n seed k (besideP (i / 2 ^ k)) := ⟨_, rfl⟩
  have HSIG : Hid (sig = fun k => treeS n seed k (besideP (i / 2 ^ k))) := hsig
  clear hsig
  go_wp2_with (at_make; refine wpList_make_full _ rfl _ _ 28 rfl w2.heap.size 22 i0 (.slice none 0 0) 1 Tryd.underlying28 hi0 hz0 hz1 .i64 .i64 _ _ h rfl rfl rfl rfl (by rw [hz2]; omega) (by unfold maxLen; omega) (Nat.le_refl _) ?_)
  intro w3 hown3 hgrow3
  have hb3 : Below w2.heap.size w2 w3 := (Below.refl _ w2).grown hgrow3 (Nat.le_refl _) (by intro k hk; cases hk)
  have hq3 : RQ w3 w2.heap.size w2.heap.size h 0 sig := ⟨_, hown3, fun j u hj => by omega⟩
  have k3 := k2'.later hb3
  have T3 := T2.later hb3
  have pa3 := pa2.later hb3
  have g3 : w3.heap[w.heap.size]? = some (.cells #[.int .i64 0, .slice none 0 0, .slice none 0 0] 30 (0, 0)) := (hb3.block _ (by omega)).trans g2
  have o3 : Only g w2 w3 := Only.of_below hb3 (by omega)
  have l3 : w2.heap.size < w3.heap.size := by
    rcases hown3.2 with ⟨h0, _⟩ | ⟨g', _, _, he, _, hg', _⟩
    · cases h0
    · simp only [Value.slice.injEq, Option.some.injEq, Addr.mk.injEq, and_true, true_and] at he
      rw [he.1]
      exact (Array.getElem?_eq_some_iff.1 hg').1
  have ko2 := k2'
  obtain ⟨p6, c6, ko2, _, _⟩ := ko2
  have ks3 : KS w3 g n h seed (w2.heap.size + 1) := .inl k3
  clear hown3 hgrow3 k2' T2 hb3 f0 f1 f2 k3 pa3 g3
  go_wp2
  go_loopw [48] (fun v wr => ∃ k : Nat, k ≤ h ∧ v = .int .i64 k ∧ KS wr g n h seed (w2.heap.size + 1) ∧ RQ wr w2.heap.size w2.heap.size h k sig ∧ Tabs wr ∧ Only g w2 wr ∧ w2.heap.size < wr.heap.size) (fun v _ => h - (intOf v).toNat)
  case atStart => exact ⟨0, Nat.zero_le _, rfl, ks3, hq3, T3, o3, l3⟩
  case round =>
    obtain ⟨k, hk, rfl, kr, hq, Tr, orr, lr⟩ := hrel
    clear ks3 hq3 T3 o3 l3
    by_cases hlt : k < h
    · obtain ⟨d', q1, m1, e1, q2, m2, e2, ko', _, _, _⟩ := kr.ko
      have hbd : Below wr.heap.size wr wr.drew := (Below.refl _ wr).drew
      have hTr := tree_any g n h (w2.heap.size + 1) seed wr.drew (kr.later hbd) hg1 (by omega) (by simp; omega) hsl hn hn2 hh (Tr.later hbd)
      have hi256 : i < 256 := by omega
      have hxor := xor_calc ⟨i, hi256⟩ ⟨k, by omega⟩
      simp only at hxor
      have hpk : i / 2 ^ k < 2 ^ (h - k) := by
        rw [Nat.div_lt_iff_lt_mul (Nat.pow_pos (by decide)), ← Nat.pow_add, Nat.sub_add_cancel hk]
        exact hi
      have hev : 2 ^ (h - k) = 2 * 2 ^ (h - k - 1) := by rw [show h - k = (h - k - 1) + 1 by omega, Nat.pow_succ]; simp; omega
      have hbl : besideP (i / 2 ^ k) < 2 ^ (h - k) := by rw [hev]; exact beside_lt (by rw [← hev]; exact hpk)
      have hsk : sig k = treeS n seed k (besideP (i / 2 ^ k)) := by rw [HSIG.out]
      have hlen := treeS_len n seed k (besideP (i / 2 ^ k))
      rw [← hsk] at hlen
      have hg2 : g < w2.heap.size := by omega
      generalize hbp : besideP (i / 2 ^ k) = bp at *
      have hk1 : (k : Int) < (h : Int) + 1 := by omega
      have hk0 : (0 : Int) ≤ (k : Int) := by omega
      have hk2 : (k : Int) < (h : Int) := by omega
      have hb0 : (0 : Int) ≤ (bp : Int) := by omega
      have HSK : Hid (sig k = treeS n seed k bp) := hsk
      clear hev hpk hbp hi256 h256 hsk
      have hpow : 0 < 2 ^ (h - k) := Nat.pow_pos (by decide)
      have hwg : w.heap.size ≠ g := by omega
      have hws : w.heap.size < wr.heap.size := by omega
      go_wp2
      go_region_with (first
        | (go_at_call 25; refine hTr.mono ?_; rintro e w4 ⟨lv, rfl, k4, t4, o4'⟩; have o4 : Only g wr w4 := (Only.of_below hbd (by omega)).trans o4'; have hq4 := hq.only ko' o4 hg2; have T4 : Tabs w4 := Tr.only o4 hg1; have l4 := o4.size; have t4' := t4; obtain ⟨gl, cl, hlv, _, hml, hget⟩ := t4'.get (by omega); subst hlv; obtain ⟨gr, cr, y1, r4⟩ := hget k (by omega); obtain ⟨g9, cap9, heq, _, _, hM9, hcell⟩ := r4.addr hpow; (cases heq); obtain ⟨pr, cq, y3, h3, _⟩ := hcell bp hbl; rw [← HSK.out] at y3 h3; clear hget hcell r4 hTr t4'; generalize 2 ^ (h - k) = M at *; have hbM : (bp : Int) < (M : Int) := (by omega))
        | (go_at_call 24; refine (clone_own _ (sig k) _ h3 (by omega)).mono ?_; rintro e w5 ⟨p5, c5, rfl, h5, hb5⟩; have hq5 := hq4.later hb5; have tb5 := TB.of_owns h5; have hh5 := HB.of_owns h5; obtain ⟨y, cy, fy⟩ := hq5.cell k hlt))
      all_goals
        have kw5 : KS w5 g n h seed (w2.heap.size + 1) := KS.later (.inr ⟨_, k4, t4⟩) hb5
        have o5 : Only g w2 w5 := (orr.trans o4).trans (Only.of_below hb5 (by omega))
        have hq6 := hq5.put _ hh5 tb5
        obtain ⟨vsq, hoq, _⟩ := hq5
        have kw6 := kw5.put hoq (by omega) k (.slice p5 (sig k).length c5)
        have o6 := o5.put (gp := w2.heap.size) (by omega) (Nat.le_refl _) k (.slice p5 (sig k).length c5)
        have T6 : Tabs (w5.setCell ⟨w2.heap.size, k, none⟩ (.slice p5 (sig k).length c5)) := (T4.later hb5).only ((Only.refl w2.heap.size w5).setCell k _) (by omega)
        have l6 : w2.heap.size < (w5.setCell ⟨w2.heap.size, k, none⟩ (.slice p5 (sig k).length c5)).heap.size := by
          have := hb5.size
          simp
          omega
        clear hoq kw5 o5 T4 k4 t4 o4 o4' hb5 hq4 cy fy y1 y3 h3
        go_wp2
        go_roundw
        case rel => first | exact ⟨k + 1, by omega, by go_num, kw6, hq6, T6, o6, l6⟩ | ((repeat apply Exists.intro); exact ⟨⟨k + 1, by omega, by go_num, kw6, hq6, T6, o6, l6⟩, rfl⟩)
        case measure => simp [intOf]; omega
    · obtain rfl : k = h := by omega
      have hgs : w.heap.size ≠ g := by omega
      have gr0 : wr.heap[w.heap.size]? = some (.cells #[.int .i64 0, .slice none 0 0, .slice none 0 0] 30 (0, 0)) := (orr.block _ hgs (by omega)).trans g2
      have par := ko2.pa orr pa2 (by rw [HPL.out]; omega)
      have hrs := hq.rs
      obtain ⟨W5, hW5⟩ : ∃ W5, W5 = ((wr.setCell ⟨w.heap.size, 0, none⟩ (.int .i64 (i : Int))).setCell ⟨w.heap.size, 1, none⟩ ca).setCell ⟨w.heap.size, 2, none⟩ (.slice (some ⟨w2.heap.size, 0, none⟩) k k) := ⟨_, rfl⟩
      have hon : Only w.heap.size wr W5 := by rw [hW5]; exact (((Only.refl _ wr).setCell 0 _).setCell 1 _).setCell 2 _
      have kf : KS W5 g n k seed (w2.heap.size + 1) := kr.box gr0 (by decide) hon (Ne.symm hgs) (by omega)
      have pf := sig_pa gr0 hon par (by rw [HPL.out]; omega)
      have rf := hrs.box gr0 (by decide) hon (by omega)
      rw [HSIG.out] at rf
      have of : Only g w W5 := by
        rw [hW5]
        exact (((hw2.trans orr).put (gp := w.heap.size) (by omega) (Nat.le_refl _) 0 _).put (by omega) (Nat.le_refl _) 1 _).put (by omega) (Nat.le_refl _) 2 _
      have lf : w2.heap.size + 1 ≤ W5.heap.size := Nat.le_trans lr hon.size
      obtain ⟨pc, cc, rfl⟩ := par.shape
      have x0 := cell_of_row _ w.heap.size 0 _ _ _ gr0
      have x1 := cell_of_row _ w.heap.size 1 _ _ _ gr0
      have x2 := cell_of_row _ w.heap.size 2 _ _ _ gr0
      have y0 : wr.frozen? ⟨w.heap.size, 0, none⟩ = false := by simp [World.frozen?, gr0]
      have y1 : wr.frozen? ⟨w.heap.size, 1, none⟩ = false := by simp [World.frozen?, gr0]
      have y2 : wr.frozen? ⟨w.heap.size, 2, none⟩ = false := by simp [World.frozen?, gr0]
      simp at x0 x1 x2
      clear kr hq hrs par pa2 hon gr0 g2 HPL
      go_wp2
      refine bodyPost_ret (v := .tuple #[.agg #[.int .i64 (i : Int), .slice pc CH.length cc, .slice (some ⟨w2.heap.size, 0, none⟩) k k], .int .i64 0]) ?_ rfl ?_
      · simp only [results, Tryd.results8]
        go_simp
      · rw [← hW5, HCH.out]
        exact ⟨_, _, rfl, pf, ⟨_, by omega, rf⟩, ⟨_, kf, by omega, lf⟩, of⟩

end Go.Proofs.YtdjaemobfbbkoaaDoor
