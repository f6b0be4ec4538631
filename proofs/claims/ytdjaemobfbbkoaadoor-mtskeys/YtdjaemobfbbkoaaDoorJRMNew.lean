/- What this text proves: the walk of the document's New (annalsref06) over this program: its tree. -/
import Derived.Test.YtdjaemobfbbkoaaDoorJRMNewV
namespace Go.Proofs.YtdjaemobfbbkoaaDoor
open Go.RowKit

set_option maxRecDepth 100000 in
set_option maxHeartbeats 4000000 in
theorem rmnew_ok (n h : Nat) (v : Value) (seed : List UInt8) (w : World) (hv : HB w v seed) (hsl : seed.length ≤ 64) (hn : 1 ≤ n) (hn2 : n ≤ 32) (hh : h ≤ 8) :
    Calls Tryd.prog 20 #[.int .i64 (n : Int), v, .int .i64 (h : Int)] w fun e w' => ∃ g B p c lv, e = .returned (.tuple #[.pointer (some ⟨g, 0, none⟩), .int .i64 0]) ∧ w.heap.size ≤ g ∧ g < B ∧ B ≤ w'.heap.size ∧ RKO w' g n h (.slice p seed.length c) lv ∧ HB w' (.slice p seed.length c) seed ∧ TB w' (.slice p seed.length c) ∧ TL w' B n h seed lv (h + 1) ∧ Below w.heap.size w w' := by
  obtain ⟨p, c, rfl⟩ := hv.shape
  have hcan : ∀ i : Nat, i < 256 → rcanB (n : Int) (i : Int) seed.length = true := by
    intro i hi
    simp [rcanB, canB]
    omega
  have hC := fun w' => rcan_any n 0 p seed.length c w' (by omega)
  rw [show rcanB (n : Int) 0 seed.length = true from hcan 0 (by omega)] at hC
  have hK := fun (i : Nat) (hi : i < 256) w' h' => rkey_ty n (i : Int) (.slice p seed.length c) seed w' h' (hcan i hi)
  have h256 : 2 ^ h ≤ 256 := by
    have : 2 ^ h ≤ 2 ^ 8 := Nat.pow_le_pow_right (by decide) hh
    omega
  have HW : Hid (wrap64 ((2 : Int) ^ h) = ((2 ^ h : Nat) : Int)) := pow_wrap h hh
  have hh0 : ¬ (h : Int) < 0 := by omega
  have hh8 : ¬ (8 : Int) < (h : Int) := by omega
  clear hcan
  go_enter Tryd.func20, Tryd.ntmps20
  go_wp2_with fail
  refine (hC _).mono ?_
  rintro e w1 ⟨rfl, hw1⟩
  have hw2 := hw1.symm
  clear hw1
  subst hw2
  clear hC
  have bA := (Below.refl _ w).alloc (Nat.le_refl _) (.cells #[] 5)
  have hvA := hv.later bA
  have oA := owns_none w 5
  have sA : w.heap.size ≤ (w.alloc (.cells #[] 5)).heap.size := by simp
  go_wp2_with (at_builtin; refine wpList_append_hb rfl (.tmp 30) (.tmp 31) 22 rfl w.heap.size 5 Tryd.underlying22 i_u8 _ _ _ rfl oA _ _ _ seed rfl hvA (by omega) sA ?_)
  intro v2 w2 o2 hg2
  have hb2 : Below w.heap.size w w2 := bA.grown hg2 sA (fun k hk => by cases hk; exact Nat.le_refl _)
  have hs2 := HB.of_owns o2
  have ts2 := TB.of_owns o2
  obtain ⟨p2, c2, rfl⟩ := owns_shape o2
  have sz2 := hb2.size
  have hpos : 1 ≤ 2 ^ h := Nat.pow_pos (by decide)
  clear oA hvA bA sA o2 hg2
  obtain ⟨W3, hW3⟩ : ∃ W3, W3 = w2.alloc (.cells #[.int .i64 (n : Int), .int .i64 (h : Int), .slice p2 seed.length c2, .slice none 0 0] 70) := ⟨_, rfl⟩
  have bW : Below w2.heap.size w2 W3 := by rw [hW3]; exact (Below.refl _ w2).alloc (Nat.le_refl _) _
  have k3 : RKO W3 w2.heap.size n h (.slice p2 seed.length c2) (.slice none 0 0) := by rw [hW3]; exact heap_alloc_new w2 _
  have hs3 := hs2.later bW
  have ts3 := ts2.later bW
  have HSZ : Hid (W3.heap.size = w2.heap.size + 1) := by
    show W3.heap.size = w2.heap.size + 1
    rw [hW3]; simp
  have hb3 := hb2.trans (bW.mono sz2)
  clear hs2 ts2 bW
  obtain ⟨i0, hi0, hz0, hz1, hz2⟩ := info_parts i_bytes
  obtain ⟨i1, hi1, hy0, hy1, hy2⟩ := info_parts i_rows
  obtain ⟨N, hN0⟩ : ∃ N, N = 2 ^ h := ⟨_, rfl⟩
  rw [← hN0] at HW h256 hpos
  have HN : Hid (N = 2 ^ h) := hN0
  clear hN0
  go_wp2
  rw [← hW3, HW.out]
  clear hW3 HW
  go_loopw [9, 37] (fun v i wr => ∃ k : Nat, k ≤ N ∧ i = .int .i64 k ∧ RS wr W3.heap.size v k (treeS n seed 0) ∧ Below W3.heap.size W3 wr) (fun _ i _ => N - (intOf i).toNat)
  case atStart => exact ⟨0, Nat.zero_le _, rfl, ⟨[], World.ownsRow_nil _ _ _ _, fun j u hu => by simp at hu⟩, Below.refl _ _⟩
  case round =>
    obtain ⟨k, hk, rfl, hrs, hbe⟩ := hrel
    have hsz := hbe.size
    by_cases hlt : k < N
    · have hlt2 : (k : Int) < (N : Int) := by omega
      have hKk := hK k (by omega) wr (hv.later (hb3.trans (hbe.mono hb3.size)))
      have e0 : keyW n seed (k : Int) = treeS n seed 0 k := rfl
      rw [e0] at hKk
      clear e0
      generalize hsig : treeS n seed 0 = sig at *
      clear hK
      go_wp2_with fail
      refine hKk.mono ?_
      rintro e w4 ⟨p4, c4, rfl, h4, hb4, t4⟩
      have hb04 := hbe.trans (hb4.mono hsz)
      have hrs4 := hrs.later hb4
      have hsz4 := hb04.size
      clear hKk hrs hbe hb4
      have bA := (Below.refl _ w4).alloc (Nat.le_refl _) (.cells #[.slice p4 (sig k).length c4] 22)
      obtain ⟨vs, r1, r2⟩ := hrs4.later bA
      have h5 := h4.later bA
      have t5 := t4.later bA
      have hb05 := hb04.alloc hb04.size (.cells #[.slice p4 (sig k).length c4] 22)
      have hsz5 := hb05.size
      clear hrs4 h4 t4
      go_wp2_with (first | (at_builtin; refine wpList_append_own _ rfl (.tmp 47) (.tmp 49) 28 rfl W3.heap.size 22 i0 (.slice none 0 0) 1 24 Tryd.underlying28 hi0 hz0 hz1 hz2 rfl (by decide) _ _ _ rfl r1 ⟨w4.heap.size, 0, none⟩ 1 1 [.slice p4 (sig k).length c4] rfl rfl ?ra ?rb ?rc ?rd ?re ?_))
      case ra => exact cell_one_new _ _ _
      case rb => intro u hu; simp at hu; subst hu; rfl
      case rc => unfold maxLen; omega
      case rd => omega
      case re => omega
      intro v6 w6 r6 hgrow6 _
      have hb06 : Below W3.heap.size W3 w6 := hb05.grown hgrow6 hsz5 (fun k hk => (r1.lt k hk).1)
      have hrs6 := RS.snoc r1 r2 h5 t5 hgrow6 r6
      clear r1 r2 h5 t5 hgrow6 r6 hb05 hb04
      go_wp2
      go_roundw
      case rel => first | exact ⟨k + 1, by omega, by go_num, hrs6, hb06⟩ | ((repeat apply Exists.intro); exact ⟨⟨k + 1, by omega, by go_num, hrs6, hb06⟩, rfl⟩)
      case measure => simp [intOf]; omega
    · obtain rfl : k = N := by omega
      clear hK
      have hbe' := hbe
      have kr := k3.later hbe
      have hsr := hs3.later hbe
      have tsr := ts3.later hbe
      have hgB : w2.heap.size < W3.heap.size := by rw [HSZ.out]; omega
      have Or : Only w2.heap.size W3 wr := Only.of_below hbe (by omega)
      obtain ⟨pl, cl, rfl⟩ := owns_shape hrs.choose_spec.1
      have bA := (Below.refl _ wr).alloc (Nat.le_refl _) (.cells #[.slice pl k cl] 28)
      have kA := kr.later bA
      have rA := hrs.later bA
      have hsA := hsr.later bA
      have tsA := tsr.later bA
      have OA := Or.trans (Only.of_below bA (Nat.le_of_lt kr.lt))
      have c3 := kr.cells.2.2.2
      have hszA : W3.heap.size ≤ (wr.alloc (.cells #[.slice pl k cl] 28)).heap.size := Nat.le_trans hsz bA.size
      have oN : (wr.alloc (.cells #[.slice pl k cl] 28)).ownsRow W3.heap.size 28 1 (.slice none 0 0) 0 [] := World.ownsRow_nil _ _ _ _
      have rx : RS (wr.alloc (.cells #[.slice pl k cl] 28)) W3.heap.size (.slice pl k cl) (2 ^ (h - 0)) (treeS n seed 0) := by rw [Nat.sub_zero, ← HN.out]; exact rA
      clear hrs rA hbe
      go_wp2_with (first | (at_builtin; refine wpList_append_own _ rfl (.tmp 56) (.tmp 58) 62 rfl W3.heap.size 28 i1 (.slice none 0 0) 1 24 Tryd.underlying62 hi1 hy0 hy1 hy2 rfl (by decide) _ _ _ rfl oN ⟨wr.heap.size, 0, none⟩ 1 1 [.slice pl k cl] rfl rfl ?sa ?sb ?sc ?sd ?se ?_))
      case sa => exact cell_one_new _ _ _
      case sb => intro u hu; simp at hu; subst hu; rfl
      case sc => unfold maxLen; omega
      case sd => omega
      case se => exact hszA
      intro v6 w6 o6 hg6 _
      obtain ⟨k6, k7, t7, r7, hs7, ts7, O7⟩ := lev_put kA hgB OA (Nat.le_refl _) oN (fun j u hu => by simp at hu) rx hsA tsA hg6 o6
      obtain ⟨p6, c6, rfl⟩ := owns_shape o6
      have d3 := k6.cells.2.2.2
      have e3 := k6.free 3
      have l7 : W3.heap.size ≤ (w6.setCell ⟨w2.heap.size, 3, none⟩ (.slice p6 (0 + 1) c6)).heap.size := O7.size
      clear kA rx hsA tsA hg6 o6 oN OA bA hszA
      go_wp2
      clear d3 e3 k6 hbe' kr hsr tsr Or c3
      generalize hW7 : w6.setCell ⟨w2.heap.size, 3, none⟩ (.slice p6 (0 + 1) c6) = W7 at *
      clear hW7
      go_loopw [9, 63] (fun v i wr => ∃ (m : Nat) (lv : Value), m ≤ h ∧ i = .int .i64 m ∧ RS wr W3.heap.size v (2 ^ (h - m)) (treeS n seed m) ∧ RKO wr w2.heap.size n h (.slice p2 seed.length c2) lv ∧ TL wr W3.heap.size n h seed lv (m + 1) ∧ HB wr (.slice p2 seed.length c2) seed ∧ TB wr (.slice p2 seed.length c2) ∧ Only w2.heap.size W3 wr) (fun _ i _ => h - (intOf i).toNat)
      case atStart => exact ⟨0, _, Nat.zero_le _, rfl, r7, k7, t7, hs7, ts7, O7⟩
      case round =>
        obtain ⟨m, lv, hm, rfl, rr, kr, tr, hsr, tsr, Or⟩ := hrel
        obtain ⟨wo, hwo⟩ : ∃ wo, wo = wr := ⟨_, rfl⟩
        subst hwo
        clear r7 k7 t7 hs7 ts7 O7 l7
        have hszr := Or.size
        by_cases hlt : m < h
        · have hlt2 : (m : Int) < (h : Int) := by omega
          have e2 : 2 ^ (h - m) = 2 * 2 ^ (h - (m + 1)) := by
            rw [show h - m = (h - (m + 1)) + 1 by omega, Nat.pow_succ, Nat.mul_comm]
          have hM2 : 2 ^ (h - (m + 1)) ≤ 256 := Nat.pow_le_pow_right (by decide) (show h - (m + 1) ≤ 8 by omega) (n := 2)
          have hM1 : 1 ≤ 2 ^ (h - (m + 1)) := Nat.pow_pos (by decide)
          rw [e2] at rr
          obtain ⟨M, hM0⟩ : ∃ M, M = 2 ^ (h - (m + 1)) := ⟨_, rfl⟩
          rw [← hM0] at rr hM2 hM1
          have HM : Hid (M = 2 ^ (h - (m + 1))) := hM0
          clear hM0 e2
          obtain ⟨gl, cl', hlev, hbgl, hgll, _, hcell⟩ := rr.addr (by omega)
          subst hlev
          go_wp2
          go_loopw [14, 15] (fun v i wi => ∃ q : Nat, q ≤ M ∧ i = .int .i64 (2 * (q : Int)) ∧ RS wi wo.heap.size v q (treeS n seed (m + 1)) ∧ Below wo.heap.size wo wi) (fun _ i _ => 2 * M - (intOf i).toNat)
          case atStart => exact ⟨0, Nat.zero_le _, rfl, ⟨[], World.ownsRow_nil _ _ _ _, fun j u hu => by simp at hu⟩, Below.refl _ _⟩
          case round =>
            obtain ⟨q, hq, rfl, hrs, hbe⟩ := hrel
            have hsz8 := hbe.size
            by_cases hqlt : q < M
            · obtain ⟨pa, ca, y1, h1, _⟩ := hcell (2 * q) (by omega)
              obtain ⟨pb, cb, y2, h2, _⟩ := hcell (2 * q + 1) (by omega)
              have z1 := cell_later hbe y1
              have z2 := cell_later hbe y2
              have hbd : Below wr.heap.size wr wr.drew := (Below.refl _ wr).drew
              have hP := rpair_ty n ((m + 1 : Nat) : Int) (q : Int) _ _ _ _ wr.drew ((h1.later hbe).later hbd) ((h2.later hbe).later hbd)
              have e9 : hashF (n : Int) 9 [numB ((m + 1 : Nat) : Int), numB (q : Int), treeS n seed m (2 * q), treeS n seed m (2 * q + 1)] = treeS n seed (m + 1) q := rfl
              rw [e9] at hP
              clear e9
              generalize hsg0 : treeS n seed (m + 1) = sig at hP hrs
              have HSG : Hid (treeS n seed (m + 1) = sig) := hsg0
              clear hsg0
              generalize (treeS n seed m (2 * q)).length = la at *
              generalize (treeS n seed m (2 * q + 1)).length = lb at *
              have hq2 : 2 * (q : Int) < 2 * (M : Int) := by omega
              have hq0 : (0 : Int) ≤ 2 * (q : Int) := by omega
              have hq3 : (0 : Int) ≤ 2 * (q : Int) + 1 := by omega
              have hq4 : 2 * (q : Int) + 1 < 2 * (M : Int) := by omega
              have hw1 : IntKind.i64.wrap (2 * (q : Int) + 1) = 2 * (q : Int) + 1 := by rw [IntKind.wrap_i64]; omega
              have hw3 : IntKind.i64.wrap ((m : Int) + 1) = (m : Int) + 1 := by rw [IntKind.wrap_i64]; omega
              have hcast : ((m + 1 : Nat) : Int) = (m : Int) + 1 := by omega
              rw [hcast] at hP
              have t1 : (2 * (q : Int)).toNat = 2 * q := by omega
              have t2 : (2 * (q : Int) + 1).toNat = 2 * q + 1 := by omega
              clear hcast hcell h1 h2
              go_wp2
              have hq5 : (2 * (q : Int)).tdiv 2 = (q : Int) := by
                rw [Int.tdiv_eq_ediv_of_nonneg (by omega)]; omega
              have hw5 : IntKind.i64.wrap (q : Int) = (q : Int) := by rw [IntKind.wrap_i64]; omega
              go_region_held3 (fun w' => w'.cell? ⟨gl, 2 * q, none⟩ = some (.slice pa la ca) ∧ w'.cell? ⟨gl, 2 * q + 1, none⟩ = some (.slice pb lb cb)) (first | exact ⟨z1, z2⟩ | exact ⟨f1, f2⟩ | exact ⟨g1, g2⟩ | exact ⟨j1, j2⟩) (first
                | (go_at_call 43; refine hP.mono ?_; rintro e w4 ⟨p4, c4, rfl, h4, hb4', t4⟩; have hb4 : Below wr.heap.size wr w4 := hbd.trans hb4'; have f1 := cell_later hb4 z1; have f2 := cell_later hb4 z2; have bA := (Below.refl _ w4).alloc (Nat.le_refl _) (.cells #[.slice p4 (sig q).length c4] 22); have g1 := cell_later bA f1; have g2 := cell_later bA f2)
                | (obtain ⟨vs, r1, r2⟩ := (hrs.later hb4).later bA; refine step_append_lies _ (by rfl) _ _ _ (by rfl) wo.heap.size 22 i0 _ 1 24 Tryd.underlying28 hi0 hz0 hz1 hz2 rfl (by omega) _ q vs (by rfl) r1 ⟨w4.heap.size, 0, none⟩ 1 1 [.slice p4 (sig q).length c4] (by rfl) (by rfl) (World.news_of_block (cs := #[.slice p4 (sig q).length c4]) (t := 22) (fr := (0, 0)) (heap_alloc_new w4 _)) (by simp [Value.oneCell']) (by omega) (by unfold maxLen; omega) (by omega) (by simp; have := hb4.size; omega) (w4.heap.size + 1) (by simp) ?_; intro gg cap w5 hown5 hgrow5 hat hlt5; have hgq : u14.ownBlock ≠ some gl := (fun e => by have := (r1.lt gl e).1; omega); have j1 := hgrow5.cell g1 (Ne.symm hgq); have j2 := hgrow5.cell g2 (Ne.symm hgq)))
              all_goals
                have h5 := h4.later bA
                have t5 := t4.later bA
                have hrs5 := RS.snoc r1 r2 h5 t5 hgrow5 hown5
                have hb04 := hbe.trans (hb4.mono hsz8)
                have hb05 := hb04.alloc hb04.size (.cells #[.slice p4 (sig q).length c4] 22)
                have hb06 : Below wo.heap.size wo w5 := hb05.grown hgrow5 hb05.size (fun k hk => (r1.lt k hk).1)
                clear h5 t5 r1 r2 hgrow5 hown5 hb05 hb04 h4 t4 g1 g2 f1 f2 bA hb4 hb4' hP hrs hat hlt5 hgq j1 j2 z1 z2
                go_wp2
                go_roundw
                case rel => exact ⟨q + 1, by omega, by (first | go_num | (congr 1; unfold wrap64; omega) | (congr 1; omega)), hrs5, hb06⟩
                case measure => simp [intOf]; omega
            · obtain rfl : q = M := by omega
              clear hcell
              have k8 := kr.later hbe
              have hs8 := hsr.later hbe
              have ts8 := tsr.later hbe
              have t8 := tr.later hbe
              have c8 := k8.cells.2.2.2
              have O8 : Only w2.heap.size W3 wr := Or.trans (Only.of_below hbe (by omega))
              have r8 := hrs.mono (base' := W3.heap.size) (by omega)
              obtain ⟨pn, cn, rfl⟩ := owns_shape hrs.choose_spec.1
              have bA := (Below.refl _ wr).alloc (Nat.le_refl _) (.cells #[.slice pn q cn] 28)
              have kA := k8.later bA
              have hsA := hs8.later bA
              have tsA := ts8.later bA
              have OA := O8.trans (Only.of_below bA (Nat.le_of_lt k8.lt))
              have rA := r8.later bA
              have hszA : W3.heap.size ≤ (wr.alloc (.cells #[.slice pn q cn] 28)).heap.size := Nat.le_trans O8.size bA.size
              obtain ⟨vs, oA, qA⟩ := t8.later bA
              have rx : RS (wr.alloc (.cells #[.slice pn q cn] 28)) W3.heap.size (.slice pn q cn) (2 ^ (h - (m + 1))) (treeS n seed (m + 1)) := by rw [← HM.out]; exact rA
              clear hbe hrs r8 rA t8 hs8 ts8 kr tr hsr tsr Or
              go_wp2_with (first | (at_builtin; refine wpList_append_own _ rfl (.tmp 95) (.tmp 97) 62 rfl W3.heap.size 28 i1 (.slice none 0 0) 1 24 Tryd.underlying62 hi1 hy0 hy1 hy2 rfl (by decide) _ _ _ rfl oA ⟨wr.heap.size, 0, none⟩ 1 1 [.slice pn q cn] rfl rfl ?va ?vb ?vc ?vd ?ve ?_))
              case va => exact cell_one_new _ _ _
              case vb => intro u hu; simp at hu; subst hu; rfl
              case vc => unfold maxLen; omega
              case vd => omega
              case ve => exact hszA
              intro v9 w9 o9 hg9 _
              obtain ⟨k9, k10, t10, r10, hs10, ts10, O10⟩ := lev_put kA hgB OA (Nat.le_refl _) oA qA rx hsA tsA hg9 o9
              obtain ⟨p9, c9, rfl⟩ := owns_shape o9
              have d9 := k9.cells.2.2.2
              have f9 := k9.free 3
              clear kA rx hsA tsA hg9 o9 oA qA OA bA hszA
              go_wp2
              go_roundw
              case rel => first | exact ⟨m + 1, _, by omega, by go_num, r10, k10, t10, hs10, ts10, O10⟩ | ((repeat apply Exists.intro); exact ⟨⟨m + 1, _, by omega, by go_num, r10, k10, t10, hs10, ts10, O10⟩, rfl⟩)
              case measure => simp [intOf]; omega
        · obtain rfl : m = h := by omega
          have hBO := Or.size
          have hbO : Below w.heap.size w wo := hb3.trans (Or.1.mono (by omega))
          clear hgB
          go_wp2
          go_ret2
          exact ⟨w2.heap.size, W3.heap.size, p2, c2, lv, rfl, sz2, by rw [HSZ.out]; omega, hBO, kr, hsr, tsr, tr, hbO⟩

end Go.Proofs.YtdjaemobfbbkoaaDoor
