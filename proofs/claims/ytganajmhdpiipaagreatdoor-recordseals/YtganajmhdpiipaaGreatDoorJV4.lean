/- What this text proves: the walk of mts.Verify over this program: whether any signature is one. What this text proves: the program's Verify and the document's answer alike, over this program. What this text proves: the program's Verify and the document's answer alike over this program, wherever their arguments lie. -/
import Derived.Test.YtganajmhdpiipaaGreatDoorJV1
import Derived.Test.YtganajmhdpiipaaGreatDoorJV2
namespace Go.Proofs.YtganajmhdpiipaaGreatDoor.Vf
open Go.RowKit

/-- Whether a signature is one. -/
def verB (size height idx : Int) (ls ps : List (List UInt8)) (D pub : List UInt8) : Bool :=
  mcanB size height && withinB idx height.toNat && (shpB size.toNat (4 * size.toNat + 5) ls && shpB size.toNat height.toNat ps) && decide (D.length = size.toNat) && (upN size.toNat idx.toNat ps (recW size.toNat ls idx D) height.toNat == pub)

theorem par_calc : ∀ n : Fin 256, ∀ k : Fin 8, bits BinOp.and IntKind.i64 ((n.val : Int) / 2 ^ k.val) 1 = ((n.val / 2 ^ k.val % 2 : Nat) : Int) := by decide +kernel

theorem shp_whole {n : Nat} {ls : List (List UInt8)} (h : shpB n (4 * n + 5) ls = true) : wholeB n ls = true := h

set_option maxRecDepth 100000 in
set_option maxHeartbeats 4000000 in
theorem ver_false (size height idx : Int) (pv dv ca pa : Value) (ls ps : List (List UInt8)) (D pub : List UInt8) (w : World) (hpv : HB w pv pub) (hdv : HB w dv D) (hc : PA w ca ls) (hp : PA w pa ps)
    (hbad : (mcanB size height && withinB idx height.toNat && (shpB size.toNat (4 * size.toNat + 5) ls && shpB size.toNat height.toNat ps) && decide (D.length = size.toNat)) = false) :
    Calls Tryz.prog 31 #[.int .i64 size, pv, .int .i64 height, dv, .agg #[.int .i64 idx, ca, pa]] w fun e w' => e = .returned (.bool false) ∧ Below w.heap.size w w' := by
  obtain ⟨p, c, rfl⟩ := hc.shape
  obtain ⟨q, d, rfl⟩ := hp.shape
  obtain ⟨p1, c1, rfl⟩ := hpv.shape
  obtain ⟨p2, c2, rfl⟩ := hdv.shape
  have b1 := (Below.refl _ w).alloc (Nat.le_refl _) (.cells #[.int .i64 idx, .slice p ls.length c, .slice q ps.length d] 27)
  have g1 : (w.alloc (.cells #[.int .i64 idx, .slice p ls.length c, .slice q ps.length d] 27)).heap[w.heap.size]? = some (.cells #[.int .i64 idx, .slice p ls.length c, .slice q ps.length d] 27 (0, 0)) := heap_alloc_new w _
  have hC := fun w' => mcan_any size height w'
  cases hb : mcanB size height with
  | false =>
    rw [hb] at hC
    clear hbad
    go_enter Tryz.func31, Tryz.ntmps31
    go_wp2_with fail
    refine (hC _).mono ?_
    rintro e w1 ⟨rfl, hw1⟩
    subst hw1
    go_wp2
    go_ret
    exact ⟨rfl, b1⟩
  | true =>
    rw [hb] at hC
    have hcan : 1 ≤ size ∧ size ≤ 32 ∧ 0 ≤ height ∧ height ≤ 8 := by simpa [mcanB] using hb
    obtain ⟨n, rfl⟩ : ∃ n : Nat, size = (n : Int) := ⟨size.toNat, by omega⟩
    obtain ⟨h, rfl⟩ : ∃ h : Nat, height = (h : Int) := ⟨height.toNat, by omega⟩
    rw [hb] at hbad
    simp only [Int.toNat_natCast, Bool.true_and] at hbad
    have hWi := fun w' => within_any idx h w' (by omega)
    cases hwb : withinB idx h with
    | false =>
      rw [hwb] at hWi
      clear hbad hb
      go_enter Tryz.func31, Tryz.ntmps31
      go_wp2_with fail
      refine (hC _).mono ?_
      rintro e w1 ⟨rfl, hw1⟩
      subst hw1
      go_wp2_with fail
      refine (hWi _).mono ?_
      rintro e w1 ⟨rfl, hw1⟩
      subst hw1
      go_wp2
      go_ret
      exact ⟨rfl, b1⟩
    | true =>
      rw [hwb] at hWi hbad
      have hSh := fun w' hc' hp' => shaped_any n h idx (.slice p ls.length c) (.slice q ps.length d) ls ps w' hc' hp' (by omega) (by omega)
      cases hsb : (shpB n (4 * n + 5) ls && shpB n h ps) with
      | false =>
        rw [hsb] at hSh
        clear hbad hb hwb hsb
        go_enter Tryz.func31, Tryz.ntmps31
        go_wp2_with fail
        refine (hC _).mono ?_
        rintro e w1 ⟨rfl, hw1⟩
        subst hw1
        go_wp2_with fail
        refine (hWi _).mono ?_
        rintro e w1 ⟨rfl, hw1⟩
        subst hw1
        go_wp2_with fail
        refine (hSh _ (hc.later b1) (hp.later b1)).mono ?_
        rintro e w2 ⟨rfl, hb2⟩
        go_wp2
        go_ret
        exact ⟨rfl, b1.trans (hb2.mono b1.size)⟩
      | true =>
        rw [hsb] at hSh hbad
        have hdl : D.length ≠ n := by simpa using hbad
        have hR := fun w' hc' hd' => rec_err n idx (.slice p ls.length c) (.slice p2 D.length c2) ls D w' hc' hd' (.inr (.inl (by omega)))
        clear hbad hb hwb hsb
        go_enter Tryz.func31, Tryz.ntmps31
        go_wp2_with fail
        refine (hC _).mono ?_
        rintro e w1 ⟨rfl, hw1⟩
        subst hw1
        go_wp2_with fail
        refine (hWi _).mono ?_
        rintro e w1 ⟨rfl, hw1⟩
        subst hw1
        go_wp2_with fail
        refine (hSh _ (hc.later b1) (hp.later b1)).mono ?_
        rintro e w2 ⟨rfl, hb2⟩
        have hb02 := b1.trans (hb2.mono b1.size)
        have g2 : w2.heap[w.heap.size]? = some (.cells #[.int .i64 idx, .slice p ls.length c, .slice q ps.length d] 27 (0, 0)) := by
          rw [hb2.block w.heap.size (by simp)]
          exact g1
        have s0 := cell_of_row _ w.heap.size 0 _ _ _ g2
        have s1 := cell_of_row _ w.heap.size 1 _ _ _ g2
        simp at s0 s1
        go_wp2_with fail
        refine (hR _ (hc.later hb02) (hdv.later hb02)).mono ?_
        rintro e w3 ⟨rfl, hb3⟩
        go_wp2
        go_ret
        exact ⟨rfl, hb02.trans (hb3.mono hb02.size)⟩

set_option maxRecDepth 100000 in
set_option maxHeartbeats 8000000 in
theorem ver_in (n h i : Nat) (pv dv ca pa : Value) (ls ps : List (List UInt8)) (D pub : List UInt8) (w : World) (hpv : HB w pv pub) (hdv : HB w dv D) (hc : PA w ca ls) (hp : PA w pa ps) (hT : Tabs w)
    (hn : 1 ≤ n) (hn2 : n ≤ 32) (hh : h ≤ 8) (hi : i < 2 ^ h) (hs1 : shpB n (4 * n + 5) ls = true) (hs2 : shpB n h ps = true) (hD : D.length = n) :
    Calls Tryz.prog 31 #[.int .i64 (n : Int), pv, .int .i64 (h : Int), dv, .agg #[.int .i64 (i : Int), ca, pa]] w fun e w' => e = .returned (.bool (upN n i ps (recW n ls i D) h == pub)) ∧ Below w.heap.size w w' := by
  obtain ⟨p, c, rfl⟩ := hc.shape
  obtain ⟨q, d, rfl⟩ := hp.shape
  obtain ⟨p1, c1, rfl⟩ := hpv.shape
  obtain ⟨p2, c2, rfl⟩ := hdv.shape
  have hN : 2 ^ h ≤ 256 := Nat.pow_le_pow_right (by decide) hh (n := 2)
  have hi2 : i < 256 := by omega
  have hpl : ps.length = h := by
    simp only [shpB, Bool.and_eq_true, decide_eq_true_eq] at hs2
    exact hs2.1
  have hHL : Hid (ps.length = h) := hpl
  rw [hpl] at hp ⊢
  clear hpl
  have b1 := (Below.refl _ w).alloc (Nat.le_refl _) (.cells #[.int .i64 (i : Int), .slice p ls.length c, .slice q h d] 27)
  have g1 : (w.alloc (.cells #[.int .i64 (i : Int), .slice p ls.length c, .slice q h d] 27)).heap[w.heap.size]? = some (.cells #[.int .i64 (i : Int), .slice p ls.length c, .slice q h d] 27 (0, 0)) := heap_alloc_new w _
  have hC := fun w' => mcan_any n h w'
  rw [show mcanB n h = true by simp [mcanB]; omega] at hC
  have hWi := fun w' => within_any i h w' hh
  rw [show withinB i h = true from decide_eq_true ⟨by omega, Int.ofNat_lt.2 hi⟩] at hWi
  have hSh := fun w' hc' hp' => shaped_any n h i (.slice p ls.length c) (.slice q h d) ls ps w' hc' hp' hn2 hh
  rw [hs1, hs2] at hSh
  have hR := fun w' hc' hd' hT' => rec_ok n i (.slice p ls.length c) (.slice p2 D.length c2) ls D w' hc' hd' hD (shp_whole hs1) hn hn2 (by omega) (by omega) hT'
  have hU0 : Hid (upN n i ps (recW n ls i D) 0 = recW n ls i D) := rfl
  have hU1 : Hid (∀ k, upN n i ps (recW n ls i D) (k + 1) = upS n i k (upN n i ps (recW n ls i D) k) (ps.getD k [])) := fun _ => rfl
  generalize recW n ls i D = K at *
  generalize upN n i ps K = U at *
  clear hs1 hs2 hD hN hi
  go_enter Tryz.func31, Tryz.ntmps31
  go_wp2_with fail
  refine (hC _).mono ?_
  rintro e w1 ⟨rfl, hw1⟩
  subst hw1
  go_wp2_with fail
  refine (hWi _).mono ?_
  rintro e w1 ⟨rfl, hw1⟩
  subst hw1
  go_wp2_with fail
  refine (hSh _ (hc.later b1) (hp.later b1)).mono ?_
  rintro e w2 ⟨rfl, hb2⟩
  have hb02 := b1.trans (hb2.mono b1.size)
  have g2 : w2.heap[w.heap.size]? = some (.cells #[.int .i64 (i : Int), .slice p ls.length c, .slice q h d] 27 (0, 0)) := by
    rw [hb2.block w.heap.size (by simp)]
    exact g1
  have s0 := cell_of_row _ w.heap.size 0 _ _ _ g2
  have s1 := cell_of_row _ w.heap.size 1 _ _ _ g2
  simp at s0 s1
  go_wp2_with fail
  refine (hR _ (hc.later hb02) (hdv.later hb02) (hT.later hb02)).mono ?_
  rintro e w3 ⟨p3, c3, rfl, h3, hb3⟩
  have hb03 := hb02.trans (hb3.mono hb02.size)
  have g3 : w3.heap[w.heap.size]? = some (.cells #[.int .i64 (i : Int), .slice p ls.length c, .slice q h d] 27 (0, 0)) := by
    rw [hb3.block w.heap.size (Array.getElem?_eq_some_iff.1 g2).1]
    exact g2
  have r2 := cell_of_row _ w.heap.size 2 _ _ _ g3
  have r0 := cell_of_row _ w.heap.size 0 _ _ _ g3
  simp at r2 r0
  have hlt3 : w.heap.size < w3.heap.size := (Array.getElem?_eq_some_iff.1 g3).1
  clear g1 g2 s0 s1 hC hWi hSh hR hb2 hb02 b1 hb3 hc hdv
  go_wp2
  go_loopw [11, 50] (fun x j wr => ∃ (k : Nat) (px : Option Addr) (cx : Nat), k ≤ h ∧ j = .int .i64 k ∧ x = .slice px (U k).length cx ∧ HB wr (.slice px (U k).length cx) (U k) ∧ Below w3.heap.size w3 wr) (fun _ j _ => h - (intOf j).toNat)
  case atStart => exact ⟨0, p3, c3, Nat.zero_le _, rfl, by rw [hU0.out], by rw [hU0.out]; exact h3, Below.refl _ _⟩
  case round =>
    obtain ⟨k, px, cx, hk, rfl, rfl, hx, hbe⟩ := hrel
    clear h3
    have hb0r := hb03.trans (hbe.mono hb03.size)
    by_cases hlt : k < h
    · obtain ⟨bq, oq, rfl⟩ := hp.addr (by omega)
      obtain ⟨q6, k6, l, gl, ec, hl⟩ := (hp.later hb0r).get k hlt
      have rI := cell_later hbe r0
      have hlt2 : (k : Int) < (h : Int) := by omega
      have hpar := par_calc ⟨i, hi2⟩ ⟨k, by omega⟩
      simp only at hpar
      have hUk : Hid (U (k + 1) = upS n i k (U k) l) := by
        show U (k + 1) = upS n i k (U k) l
        rw [hU1.out k, show ps.getD k [] = l by rw [List.getD_eq_getElem?_getD, gl.out]; rfl]
      have hk8 : (k : Int) ≤ 8 := by omega
      have hir : (i : Int) < 256 := by omega
      have hTr := hT.later hb0r
      have eq1 : ((k + 1 : Nat) : Int) = (k : Int) + 1 := by omega
      have eq2 : ((i / 2 ^ (k + 1) : Nat) : Int) = (i : Int) / 2 ^ k / 2 := by
        rw [Nat.pow_succ, ← Nat.div_div_eq_div_mul]
        push_cast
        rfl
      have hx01 : bits BinOp.xor IntKind.i64 0 1 = 1 := by decide
      have hx11 : bits BinOp.xor IntKind.i64 1 1 = 0 := by decide
      rcases (show i / 2 ^ k % 2 = 0 ∨ i / 2 ^ k % 2 = 1 by omega) with hev | hev
      · rw [hev] at hpar
        have hJ := fun w' hx' hl' hT' => join_any n ((k + 1 : Nat) : Int) ((i / 2 ^ (k + 1) : Nat) : Int) (.slice px (U k).length cx) (.slice q6 l.length k6) (U k) l w' hx' hl' hT'
        have hF : hashF n 9 [numB ((k + 1 : Nat) : Int), numB ((i / 2 ^ (k + 1) : Nat) : Int), U k, l] = U (k + 1) := by
          rw [hUk.out]
          unfold upS
          rw [if_pos hev]
        rw [hF, eq1, eq2] at hJ
        clear hF hev
        generalize hV : U (k + 1) = V at *
        generalize hX : U k = X at *
        have HV : Hid (U (k + 1) = V) := hV
        clear hX hV eq1 eq2
        have bB := (Below.refl _ wr).alloc (Nat.le_refl _) (.cells #[.slice px X.length cx, .slice q6 l.length k6] 76)
        go_wp2_with fail
        refine (hJ _ (hx.later bB) (hl.later bB) (hTr.later bB)).mono ?_
        rintro e w5 ⟨p5, c5, rfl, h5, hb5, _⟩
        have hb05 := hbe.trans ((bB.trans (hb5.mono bB.size)).mono hbe.size)
        clear hJ hx hl hpar
        go_wp2
        go_roundw
        case rel => first | exact ⟨k + 1, p5, c5, by omega, by go_num, by rw [HV.out], by rw [HV.out]; exact h5, hb05⟩ | ((repeat apply Exists.intro); exact ⟨⟨k + 1, p5, c5, by omega, by go_num, by rw [HV.out], by rw [HV.out]; exact h5, hb05⟩, rfl⟩)
        case measure => simp [intOf]; omega
      · rw [hev] at hpar
        have hJ := fun w' hx' hl' hT' => join_any n ((k + 1 : Nat) : Int) ((i / 2 ^ (k + 1) : Nat) : Int) (.slice q6 l.length k6) (.slice px (U k).length cx) l (U k) w' hl' hx' hT'
        have hF : hashF n 9 [numB ((k + 1 : Nat) : Int), numB ((i / 2 ^ (k + 1) : Nat) : Int), l, U k] = U (k + 1) := by
          rw [hUk.out]
          unfold upS
          rw [if_neg (by omega)]
        rw [hF, eq1, eq2] at hJ
        clear hF hev
        generalize hV : U (k + 1) = V at *
        generalize hX : U k = X at *
        have HV : Hid (U (k + 1) = V) := hV
        clear hX hV eq1 eq2
        have bB := (Below.refl _ wr).alloc (Nat.le_refl _) (.cells #[.slice q6 l.length k6, .slice px X.length cx] 76)
        go_wp2_with fail
        refine (hJ _ (hx.later bB) (hl.later bB) (hTr.later bB)).mono ?_
        rintro e w5 ⟨p5, c5, rfl, h5, hb5, _⟩
        have hb05 := hbe.trans ((bB.trans (hb5.mono bB.size)).mono hbe.size)
        clear hJ hx hl hpar
        go_wp2
        go_roundw
        case rel => first | exact ⟨k + 1, p5, c5, by omega, by go_num, by rw [HV.out], by rw [HV.out]; exact h5, hb05⟩ | ((repeat apply Exists.intro); exact ⟨⟨k + 1, p5, c5, by omega, by go_num, by rw [HV.out], by rw [HV.out]; exact h5, hb05⟩, rfl⟩)
        case measure => simp [intOf]; omega
    · obtain rfl : h = k := by omega
      have hE := equal_any _ _ (U h) pub wr hx (hpv.later hb0r)
      go_wp2_with fail
      refine hE.mono ?_
      rintro e w5 ⟨rfl, hw5⟩
      subst hw5
      go_wp2
      go_ret
      exact ⟨rfl, hb0r⟩

end Go.Proofs.YtganajmhdpiipaaGreatDoor.Vf

namespace Go.Proofs.YtganajmhdpiipaaGreatDoor.Vf
open Go.RowKit

theorem rver_false (size height idx : Int) (pv dv ca pa : Value) (ls ps : List (List UInt8)) (D pub : List UInt8) (w : World) (hpv : HB w pv pub) (hdv : HB w dv D) (hc : PA w ca ls) (hp : PA w pa ps)
    (hbad : (mcanB size height && withinB idx height.toNat && (shpB size.toNat (4 * size.toNat + 5) ls && shpB size.toNat height.toNat ps) && decide (D.length = size.toNat)) = false) :
    Calls Tryz.prog 34 #[.int .i64 size, pv, .int .i64 height, dv, .agg #[.int .i64 idx, ca, pa]] w fun e w' => e = .returned (.bool false) ∧ Below w.heap.size w w' := by
  by_cases h1 : 0 ≤ height ∧ height ≤ 8 ∧ withinB idx height.toNat = true ∧ ps.length = height.toNat
  · obtain ⟨h0, h8, hwi, hL⟩ := h1
    obtain ⟨h, rfl⟩ : ∃ h : Nat, height = (h : Int) := ⟨height.toNat, by omega⟩
    rw [Int.toNat_natCast] at hwi hL hbad
    have hw2 := hwi
    simp only [withinB, decide_eq_true_eq] at hw2
    obtain ⟨i, rfl⟩ : ∃ i : Nat, idx = (i : Int) := ⟨idx.toNat, by omega⟩
    have hh : h ≤ 8 := by omega
    have hi : i < 2 ^ h := Int.ofNat_lt.1 hw2.2
    have hN : 2 ^ h ≤ 256 := Nat.pow_le_pow_right (by decide) hh (n := 2)
    by_cases hbd : canB size i = false ∨ (D.length : Int) ≠ size ∨ (ls.length : Int) ≠ 4 * size + 5
    · refine rver_rec size h i pv dv ca pa ls ps D pub w hpv hdv hc hp hh hi hL ?_
      intro w' hc' hd'
      exact (rrec_err size i ca dv ls D w' hc' hd' hbd).mono fun e w'' ⟨he, hw⟩ => ⟨he, by subst hw; exact Below.refl _ _⟩
    · have hcan : canB size i = true := by
        cases hb : canB size i with
        | true => rfl
        | false => exact absurd (.inl hb) hbd
      have hDl : (D.length : Int) = size := Classical.byContradiction fun h => hbd (.inr (.inl h))
      have hll : (ls.length : Int) = 4 * size + 5 := Classical.byContradiction fun h => hbd (.inr (.inr h))
      obtain ⟨n, rfl⟩ : ∃ n : Nat, size = (n : Int) := ⟨size.toNat, by omega⟩
      have hD : D.length = n := by omega
      have hl2 : ls.length = 4 * n + 5 := by omega
      have hR := fun w' hc' hd' => rrec_in n i ca dv ls D w' hc' hd' hD hcan hl2
      cases hwb : wholeB n ls with
      | false =>
        refine rver_rec n h i pv dv ca pa ls ps D pub w hpv hdv hc hp hh hi hL ?_
        intro w' hc' hd'
        exact (hR w' hc' hd').mono fun e w'' ⟨⟨_, he⟩, hb⟩ => ⟨he hwb, hb⟩
      | true =>
        have hI := rver_in n h i pv dv ca pa ls ps D pub (recW n ls i D) w hpv hdv hc hp hh hi hL fun w' hc' hd' => (hR w' hc' hd').mono fun e w'' ⟨⟨he, _⟩, hb⟩ => ⟨he hwb, hb⟩
        have hs : shpB n h ps = false := by
          have hm : mcanB n h = true := by
            simp only [canB, decide_eq_true_eq] at hcan
            simp only [mcanB, decide_eq_true_eq]
            omega
          have hw3 : shpB n (4 * n + 5) ls = true := hwb
          rw [hm, hwi, Int.toNat_natCast, hw3] at hbad
          simpa [hD] using hbad
        rw [hs, Bool.false_and] at hI
        exact hI
  · exact rver_err1 size height idx pv dv ca pa ls ps D pub w hpv hdv hc hp h1

/-- Both Verify's answer the same. -/
theorem ver_two (size height idx : Int) (pv dv ca pa : Value) (ls ps : List (List UInt8)) (D pub : List UInt8) :
    ∃ b : Bool, (∀ w, HB w pv pub → HB w dv D → PA w ca ls → PA w pa ps → Tabs w → Calls Tryz.prog 31 #[.int .i64 size, pv, .int .i64 height, dv, .agg #[.int .i64 idx, ca, pa]] w fun e w' => e = .returned (.bool b) ∧ Below w.heap.size w w') ∧
      (∀ w, HB w pv pub → HB w dv D → PA w ca ls → PA w pa ps → Calls Tryz.prog 34 #[.int .i64 size, pv, .int .i64 height, dv, .agg #[.int .i64 idx, ca, pa]] w fun e w' => e = .returned (.bool b) ∧ Below w.heap.size w w') := by
  cases hb : (mcanB size height && withinB idx height.toNat && (shpB size.toNat (4 * size.toNat + 5) ls && shpB size.toNat height.toNat ps) && decide (D.length = size.toNat)) with
  | false => exact ⟨false, fun w a b c d _ => ver_false size height idx pv dv ca pa ls ps D pub w a b c d hb, fun w a b c d => rver_false size height idx pv dv ca pa ls ps D pub w a b c d hb⟩
  | true =>
    simp only [Bool.and_eq_true, decide_eq_true_eq] at hb
    obtain ⟨⟨⟨hm, hwi⟩, hs1, hs2⟩, hD⟩ := hb
    have hcan : 1 ≤ size ∧ size ≤ 32 ∧ 0 ≤ height ∧ height ≤ 8 := by simpa [mcanB] using hm
    obtain ⟨n, rfl⟩ : ∃ n : Nat, size = (n : Int) := ⟨size.toNat, by omega⟩
    obtain ⟨h, rfl⟩ : ∃ h : Nat, height = (h : Int) := ⟨height.toNat, by omega⟩
    simp only [Int.toNat_natCast] at hwi hs1 hs2 hD
    simp only [withinB, decide_eq_true_eq] at hwi
    obtain ⟨i, rfl⟩ : ∃ i : Nat, idx = (i : Int) := ⟨idx.toNat, by omega⟩
    have hh : h ≤ 8 := by omega
    have hi : i < 2 ^ h := Int.ofNat_lt.1 hwi.2
    have hN : 2 ^ h ≤ 256 := Nat.pow_le_pow_right (by decide) hh (n := 2)
    have hL : ps.length = h := by
      simp only [shpB, Bool.and_eq_true, decide_eq_true_eq] at hs2
      exact hs2.1
    have hl2 : ls.length = 4 * n + 5 := by
      have := hs1
      simp only [shpB, Bool.and_eq_true, decide_eq_true_eq] at this
      exact this.1
    have hcb : canB n i = true := by
      simp only [canB, decide_eq_true_eq]
      omega
    refine ⟨upN n i ps (recW n ls i D) h == pub, fun w a b c d t => ver_in n h i pv dv ca pa ls ps D pub w a b c d t (by omega) (by omega) hh hi hs1 hs2 hD, ?_⟩
    intro w a b c d
    have hI := rver_in n h i pv dv ca pa ls ps D pub (recW n ls i D) w a b c d hh hi hL fun w' hc' hd' => (rrec_in n i ca dv ls D w' hc' hd' hD hcb hl2).mono fun e w'' ⟨⟨he, _⟩, hb⟩ => ⟨he (shp_whole hs1), hb⟩
    rw [hs2, Bool.true_and] at hI
    exact hI

end Go.Proofs.YtganajmhdpiipaaGreatDoor.Vf

namespace Go.Proofs.YtganajmhdpiipaaGreatDoor.Vf
open Go.RowKit

/-- Both Verify's answer the same. -/
theorem ver_all (size height idx : Int) (ls ps : List (List UInt8)) (D pub : List UInt8) :
    ∃ b : Bool, (∀ pv dv ca pa w, HB w pv pub → HB w dv D → PA w ca ls → PA w pa ps → Tabs w → Calls Tryz.prog 31 #[.int .i64 size, pv, .int .i64 height, dv, .agg #[.int .i64 idx, ca, pa]] w fun e w' => e = .returned (.bool b) ∧ Below w.heap.size w w') ∧
      (∀ pv dv ca pa w, HB w pv pub → HB w dv D → PA w ca ls → PA w pa ps → Calls Tryz.prog 34 #[.int .i64 size, pv, .int .i64 height, dv, .agg #[.int .i64 idx, ca, pa]] w fun e w' => e = .returned (.bool b) ∧ Below w.heap.size w w') := by
  cases hb : (mcanB size height && withinB idx height.toNat && (shpB size.toNat (4 * size.toNat + 5) ls && shpB size.toNat height.toNat ps) && decide (D.length = size.toNat)) with
  | false => exact ⟨false, fun pv dv ca pa w a b c d _ => ver_false size height idx pv dv ca pa ls ps D pub w a b c d hb, fun pv dv ca pa w a b c d => rver_false size height idx pv dv ca pa ls ps D pub w a b c d hb⟩
  | true =>
    simp only [Bool.and_eq_true, decide_eq_true_eq] at hb
    obtain ⟨⟨⟨hm, hwi⟩, hs1, hs2⟩, hD⟩ := hb
    have hcan : 1 ≤ size ∧ size ≤ 32 ∧ 0 ≤ height ∧ height ≤ 8 := by simpa [mcanB] using hm
    obtain ⟨n, rfl⟩ : ∃ n : Nat, size = (n : Int) := ⟨size.toNat, by omega⟩
    obtain ⟨h, rfl⟩ : ∃ h : Nat, height = (h : Int) := ⟨height.toNat, by omega⟩
    simp only [Int.toNat_natCast] at hwi hs1 hs2 hD
    simp only [withinB, decide_eq_true_eq] at hwi
    obtain ⟨i, rfl⟩ : ∃ i : Nat, idx = (i : Int) := ⟨idx.toNat, by omega⟩
    have hh : h ≤ 8 := by omega
    have hi : i < 2 ^ h := Int.ofNat_lt.1 hwi.2
    have hN : 2 ^ h ≤ 256 := Nat.pow_le_pow_right (by decide) hh (n := 2)
    have hL : ps.length = h := by
      simp only [shpB, Bool.and_eq_true, decide_eq_true_eq] at hs2
      exact hs2.1
    have hl2 : ls.length = 4 * n + 5 := by
      have := hs1
      simp only [shpB, Bool.and_eq_true, decide_eq_true_eq] at this
      exact this.1
    have hcb : canB n i = true := by
      simp only [canB, decide_eq_true_eq]
      omega
    refine ⟨upN n i ps (recW n ls i D) h == pub, fun pv dv ca pa w a b c d t => ver_in n h i pv dv ca pa ls ps D pub w a b c d t (by omega) (by omega) hh hi hs1 hs2 hD, ?_⟩
    intro pv dv ca pa w a b c d
    have hI := rver_in n h i pv dv ca pa ls ps D pub (recW n ls i D) w a b c d hh hi hL fun w' hc' hd' => (rrec_in n i ca dv ls D w' hc' hd' hD hcb hl2).mono fun e w'' ⟨⟨he, _⟩, hb⟩ => ⟨he (shp_whole hs1), hb⟩
    rw [hs2, Bool.true_and] at hI
    exact hI

end Go.Proofs.YtganajmhdpiipaaGreatDoor.Vf
