/- What this text proves: the walk of the document's Verify (annalsref06) over this program, where the signature's number and its path's length are right. What this text proves: the walk of the document's Verify (annalsref06) over this program, where Recover answers. -/
import Derived.Test.YtganajmhdpiipaaGreatDoorJV1
namespace Go.Proofs.YtganajmhdpiipaaGreatDoor.Vf
open Go.RowKit

set_option maxRecDepth 100000 in
set_option maxHeartbeats 4000000 in
theorem rver_rec (size : Int) (h i : Nat) (pv dv ca pa : Value) (ls ps : List (List UInt8)) (D pub : List UInt8) (w : World) (hpv : HB w pv pub) (hdv : HB w dv D) (hc : PA w ca ls) (hp : PA w pa ps) (hh : h ≤ 8) (hi : i < 2 ^ h) (hL : ps.length = h)
    (hR : ∀ w', PA w' ca ls → HB w' dv D → Calls Tryz.prog 62 #[.int .i64 size, ca, .int .i64 (i : Int), dv] w' fun e w'' => e = .returned (.tuple #[.slice none 0 0, .int .i64 1]) ∧ Below w'.heap.size w' w'') :
    Calls Tryz.prog 34 #[.int .i64 size, pv, .int .i64 (h : Int), dv, .agg #[.int .i64 (i : Int), ca, pa]] w fun e w' => e = .returned (.bool false) ∧ Below w.heap.size w w' := by
  obtain ⟨p, c, rfl⟩ := hc.shape
  obtain ⟨q, d, rfl⟩ := hp.shape
  obtain ⟨p1, c1, rfl⟩ := hpv.shape
  obtain ⟨p2, c2, rfl⟩ := hdv.shape
  rw [hL] at hp ⊢
  clear hL
  have hPW := pow_wrap h hh
  have hh8 : (h : Int) ≤ 8 := by omega
  have hd1 : decide ((h : Int) < 0) = false := by simp
  have hd2 : decide (8 < (h : Int)) = false := by simpa using hh8
  have hd3 : decide ((i : Int) < 0) = false := by simp
  have hd4 : decide (((2 ^ h : Nat) : Int) ≤ (i : Int)) = false := by
    rw [decide_eq_false_iff_not]
    omega
  generalize 2 ^ h = N at *
  have hd4c : decide (IntKind.i64.wrap ((2 : Int) ^ h) ≤ (i : Int)) = false := by
    rw [IntKind.wrap_i64]
    unfold wrap64 at hPW
    first | (rw [hPW]; exact hd4) | (rw [decide_eq_false_iff_not] at hd4 ⊢; omega)
  have hd4b : decide (wrap64 ((2 : Int) ^ h) ≤ (i : Int)) = false := by rw [hPW]; exact hd4
  have b1 := (Below.refl _ w).alloc (Nat.le_refl _) (.cells #[.int .i64 (i : Int), .slice p ls.length c, .slice q h d] 27)
  have g1 : (w.alloc (.cells #[.int .i64 (i : Int), .slice p ls.length c, .slice q h d] 27)).heap[w.heap.size]? = some (.cells #[.int .i64 (i : Int), .slice p ls.length c, .slice q h d] 27 (0, 0)) := heap_alloc_new w _
  go_enter Tryz.func34, Tryz.ntmps34
  go_wp2
  go_region
  have hb1 := b1.drew
  go_wp2_with fail
  refine (hR _ (hc.later hb1) (hdv.later hb1)).mono ?_
  rintro e w2 ⟨rfl, hb2⟩
  go_wp2
  go_ret
  exact ⟨rfl, hb1.trans (hb2.mono hb1.size)⟩

end Go.Proofs.YtganajmhdpiipaaGreatDoor.Vf

namespace Go.Proofs.YtganajmhdpiipaaGreatDoor.Vf
open Go.RowKit

theorem par_tmod : ∀ n : Fin 256, ∀ k : Fin 8, ((n.val : Int) / 2 ^ k.val).tmod 2 = ((n.val / 2 ^ k.val % 2 : Nat) : Int) := by decide +kernel

set_option maxRecDepth 100000 in
set_option maxHeartbeats 8000000 in
theorem rver_in (n h i : Nat) (pv dv ca pa : Value) (ls ps : List (List UInt8)) (D pub K : List UInt8) (w : World) (hpv : HB w pv pub) (hdv : HB w dv D) (hc : PA w ca ls) (hp : PA w pa ps) (hh : h ≤ 8) (hi : i < 2 ^ h) (hL : ps.length = h)
    (hR : ∀ w', PA w' ca ls → HB w' dv D → Calls Tryz.prog 62 #[.int .i64 (n : Int), ca, .int .i64 (i : Int), dv] w' fun e w'' => (∃ p c, e = .returned (.tuple #[.slice p K.length c, .int .i64 0]) ∧ HB w'' (.slice p K.length c) K) ∧ Below w'.heap.size w' w'') :
    Calls Tryz.prog 34 #[.int .i64 (n : Int), pv, .int .i64 (h : Int), dv, .agg #[.int .i64 (i : Int), ca, pa]] w fun e w' => e = .returned (.bool (shpB n h ps && (upN n i ps K h == pub))) ∧ Below w.heap.size w w' := by
  obtain ⟨p, c, rfl⟩ := hc.shape
  obtain ⟨q, d, rfl⟩ := hp.shape
  obtain ⟨p1, c1, rfl⟩ := hpv.shape
  obtain ⟨p2, c2, rfl⟩ := hdv.shape
  have HL : Hid (ps.length = h) := hL
  rw [hL] at hp ⊢
  clear hL
  have hPW := pow_wrap h hh
  have hN : 2 ^ h ≤ 256 := Nat.pow_le_pow_right (by decide) hh (n := 2)
  have hi2 : i < 256 := by omega
  have hh8 : (h : Int) ≤ 8 := by omega
  have hd1 : decide ((h : Int) < 0) = false := by simp
  have hd2 : decide (8 < (h : Int)) = false := by simpa using hh8
  have hd3 : decide ((i : Int) < 0) = false := by simp
  have hd4 : decide (((2 ^ h : Nat) : Int) ≤ (i : Int)) = false := by
    rw [decide_eq_false_iff_not]
    omega
  generalize 2 ^ h = N at *
  have hd4c : decide (IntKind.i64.wrap ((2 : Int) ^ h) ≤ (i : Int)) = false := by
    rw [IntKind.wrap_i64]
    unfold wrap64 at hPW
    first | (rw [hPW]; exact hd4) | (rw [decide_eq_false_iff_not] at hd4 ⊢; omega)
  have hd4b : decide (wrap64 ((2 : Int) ^ h) ≤ (i : Int)) = false := by rw [hPW]; exact hd4
  have hU0 : Hid (upN n i ps K 0 = K) := rfl
  have hU1 : Hid (∀ k, upN n i ps K (k + 1) = upS n i k (upN n i ps K k) (ps.getD k [])) := fun _ => rfl
  generalize upN n i ps K = U at *
  have HB0 : Hid (shpB n h ps = shpB n h ps) := rfl
  have HB1 : Hid (∀ l ∈ ps, l.length = n) → shpB n h ps = true := fun a => shpB_all HL.out a.out
  have HB2 : Hid (∀ k (l : List UInt8), ps[k]? = some l → l.length ≠ n → shpB n h ps = false) := fun _ _ a b => shpB_bad a b
  generalize shpB n h ps = B at *
  clear HB0
  have b1 := (Below.refl _ w).alloc (Nat.le_refl _) (.cells #[.int .i64 (i : Int), .slice p ls.length c, .slice q h d] 27)
  have g1 : (w.alloc (.cells #[.int .i64 (i : Int), .slice p ls.length c, .slice q h d] 27)).heap[w.heap.size]? = some (.cells #[.int .i64 (i : Int), .slice p ls.length c, .slice q h d] 27 (0, 0)) := heap_alloc_new w _
  go_enter Tryz.func34, Tryz.ntmps34
  go_wp2
  go_region
  have hb1 := b1.drew
  go_wp2_with fail
  refine (hR _ (hc.later hb1) (hdv.later hb1)).mono ?_
  rintro e w3 ⟨⟨p3, c3, rfl, h3⟩, hb3⟩
  have hb03 := hb1.trans (hb3.mono hb1.size)
  have g3 : w3.heap[w.heap.size]? = some (.cells #[.int .i64 (i : Int), .slice p ls.length c, .slice q h d] 27 (0, 0)) := by
    rw [hb3.block w.heap.size (by simp)]
    exact g1
  have r2 := cell_of_row _ w.heap.size 2 _ _ _ g3
  have r0 := cell_of_row _ w.heap.size 0 _ _ _ g3
  simp at r2 r0
  have hlt3 : w.heap.size < w3.heap.size := (Array.getElem?_eq_some_iff.1 g3).1
  clear g1 hR hb1 b1 hb3 hc hdv hPW hd1 hd2 hd3 hd4 hd4b hd4c
  go_wp2
  go_loopw [11, 55] (fun x j wr => ∃ (k : Nat) (px : Option Addr) (cx : Nat), k ≤ h ∧ j = .int .i64 k ∧ x = .slice px (U k).length cx ∧ HB wr (.slice px (U k).length cx) (U k) ∧ Below w3.heap.size w3 wr ∧ Hid (∀ m, m < k → ∀ l, ps[m]? = some l → l.length = n)) (fun _ j _ => h - (intOf j).toNat)
  case atStart => exact ⟨0, p3, c3, Nat.zero_le _, rfl, by rw [hU0.out], by rw [hU0.out]; exact h3, Below.refl _ _, fun _ hm => absurd hm (Nat.not_lt_zero _)⟩
  case round =>
    obtain ⟨k, px, cx, hk, rfl, rfl, hx, hbe, hall⟩ := hrel
    clear h3
    have hb0r := hb03.trans (hbe.mono hb03.size)
    by_cases hlt : k < h
    · obtain ⟨bq, oq, rfl⟩ := hp.addr (by omega)
      obtain ⟨q6, k6, l, gl, ec, hl⟩ := (hp.later hb0r).get k hlt
      have rI := cell_later hbe r0
      have hlt2 : (k : Int) < (h : Int) := by omega
      by_cases hll : l.length = n
      · have hUk : Hid (U (k + 1) = upS n i k (U k) l) := by
          show U (k + 1) = upS n i k (U k) l
          rw [hU1.out k, show ps.getD k [] = l by rw [List.getD_eq_getElem?_getD, gl.out]; rfl]
        have hall2 : Hid (∀ m, m < k + 1 → ∀ l, ps[m]? = some l → l.length = n) := by
          intro m hm l' hg
          by_cases e : m = k
          · subst e
            rw [gl.out] at hg
            rw [← Option.some.inj hg]
            exact hll
          · exact hall.out m (by omega) l' hg
        have HLL : Hid (l.length = n) := hll
        rw [hll] at hl ec
        clear hll hall
        have hpar := par_tmod ⟨i, hi2⟩ ⟨k, by omega⟩
        simp only at hpar
        have hk8 : (k : Int) ≤ 8 := by omega
        have hir : (i : Int) < 256 := by omega
        have eq1 : ((k + 1 : Nat) : Int) = (k : Int) + 1 := by omega
        have eq2 : ((i / 2 ^ (k + 1) : Nat) : Int) = (i : Int) / 2 ^ (k + 1) := by
          push_cast
          rfl
        rcases (show i / 2 ^ k % 2 = 0 ∨ i / 2 ^ k % 2 = 1 by omega) with hev | hev
        · rw [hev] at hpar
          have hJ := fun w' hx' hl' => rpair_any n ((k + 1 : Nat) : Int) ((i / 2 ^ (k + 1) : Nat) : Int) (.slice px (U k).length cx) (.slice q6 n k6) (U k) l w' hx' hl'
          have hF : hashF n 9 [numB ((k + 1 : Nat) : Int), numB ((i / 2 ^ (k + 1) : Nat) : Int), U k, l] = U (k + 1) := by
            rw [hUk.out]
            unfold upS
            rw [if_pos hev]
          rw [hF, eq1, eq2] at hJ
          clear hF hev
          generalize hV : U (k + 1) = V at *
          generalize hX : U k = X at *
          have HV : Hid (U (k + 1) = V) := hV
          clear hX hV eq1 eq2
          go_wp2_with fail
          refine (hJ _ hx hl).mono ?_
          rintro e w5 ⟨p5, c5, rfl, h5, hb5⟩
          have hb05 := hbe.trans (hb5.mono hbe.size)
          clear hJ hx hl hpar
          go_wp2
          go_roundw
          case rel => first | exact ⟨k + 1, p5, c5, by omega, by go_num, by rw [HV.out], by rw [HV.out]; exact h5, hb05, hall2⟩ | ((repeat apply Exists.intro); exact ⟨⟨k + 1, p5, c5, by omega, by go_num, by rw [HV.out], by rw [HV.out]; exact h5, hb05, hall2⟩, rfl⟩)
          case measure => simp [intOf]; omega
        · rw [hev] at hpar
          have hJ := fun w' hx' hl' => rpair_any n ((k + 1 : Nat) : Int) ((i / 2 ^ (k + 1) : Nat) : Int) (.slice q6 n k6) (.slice px (U k).length cx) l (U k) w' hl' hx'
          have hF : hashF n 9 [numB ((k + 1 : Nat) : Int), numB ((i / 2 ^ (k + 1) : Nat) : Int), l, U k] = U (k + 1) := by
            rw [hUk.out]
            unfold upS
            rw [if_neg (by omega)]
          rw [hF, eq1, eq2] at hJ
          clear hF hev
          generalize hV : U (k + 1) = V at *
          generalize hX : U k = X at *
          have HV : Hid (U (k + 1) = V) := hV
          clear hX hV eq1 eq2
          go_wp2_with fail
          refine (hJ _ hx hl).mono ?_
          rintro e w5 ⟨p5, c5, rfl, h5, hb5⟩
          have hb05 := hbe.trans (hb5.mono hbe.size)
          clear hJ hx hl hpar
          go_wp2
          go_roundw
          case rel => first | exact ⟨k + 1, p5, c5, by omega, by go_num, by rw [HV.out], by rw [HV.out]; exact h5, hb05, hall2⟩ | ((repeat apply Exists.intro); exact ⟨⟨k + 1, p5, c5, by omega, by go_num, by rw [HV.out], by rw [HV.out]; exact h5, hb05, hall2⟩, rfl⟩)
          case measure => simp [intOf]; omega
      · have hne : decide ((l.length : Int) = (n : Int)) = false := by
          rw [decide_eq_false_iff_not]
          omega
        have hne2 : ((l.length : Int) != (n : Int)) = true := by
          rw [bne_iff_ne]
          omega
        have e : B = false := HB2.out k l gl.out hll
        subst e
        clear HB1 HB2 hll
        go_wp2
        go_ret
        exact ⟨by simp, hb0r⟩
    · obtain rfl : h = k := by omega
      have e : B = true := by
        refine HB1 ?_
        intro l hm
        obtain ⟨m, hm1, hm2⟩ := List.getElem_of_mem hm
        exact hall.out m (by rw [← HL.out]; exact hm1) l (by rw [List.getElem?_eq_getElem hm1, hm2])
      subst e
      clear HB1 HB2 hall
      have k1 := hx.str (P := Tryz.prog) 22 5 9 Tryz.underlying22 Tryz.underlying5 Tryz.underlying9
      have k2 := (hpv.later hb0r).str (P := Tryz.prog) 22 5 9 Tryz.underlying22 Tryz.underlying5 Tryz.underlying9
      generalize hX : U h = X at *
      have HX : Hid (U h = X) := hX
      clear hX
      go_wp2
      go_ret
      exact ⟨by rw [HX.out]; simp, hb0r⟩

end Go.Proofs.YtganajmhdpiipaaGreatDoor.Vf
