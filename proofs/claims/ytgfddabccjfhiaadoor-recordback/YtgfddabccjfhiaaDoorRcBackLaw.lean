/- What this text proves: the walk of the statement RecordBack over this program: it answers true for any arguments, and writes nothing that was there. -/
import Derived.Test.YtgfddabccjfhiaaDoorRcBackPlain
import Derived.Test.YtgfddabccjfhiaaDoorRcAwake
import Derived.Test.YtgfddabccjfhiaaDoorRcSame
namespace Go.Proofs.YtgfddabccjfhiaaDoor
open Go.RowKit

theorem encL_len (size : Int) (r : Rc) (h : canB size r = true) : (encL r).length ≤ 1048576 := by
  obtain ⟨q1, q2, q3, q4, q5, q6, q7, q8, q9, q10, q11, q12⟩ := (canB_iff size r).1 h
  have n1 := numL_le r.e
  have n2 := numL_le r.t
  have n3 := numL_le r.c
  have b1 := bytesL_len r.tr (by omega)
  have b2 := bytesL_len r.li (by omega)
  have b3 := putL_len r.lk (sized_le q12 q2)
  have b4 := linksL_len r.e.toNat (by omega)
  unfold encL
  simp only [List.length_append]
  omega

set_option maxRecDepth 100000 in
set_option maxHeartbeats 8000000 in
theorem recBackWalk (size e t c : Int) (tv lv kv v : Value) (tr li : List UInt8) (lk : List (List UInt8)) (b : List UInt8) (w : World) (h1 : HB w tv tr) (h2 : HB w lv li) (h3 : PA w kv lk) (hv : HB w v b) (hsz : b.length ≤ 140737488351232) (hTD : TD w) :
    Calls Tryd.prog 4 #[.int .i64 size, .agg #[.int .i64 e, .int .i64 t, tv, .int .i64 c, lv, kv], v] w fun x w' => x = .returned (.bool true) ∧ Below w.heap.size w w' := by
  have bA := (Below.refl w.heap.size w).alloc (Nat.le_refl _) (.cells #[.int .i64 e, .int .i64 t, tv, .int .i64 c, lv, kv] 25)
  have gA := heap_alloc_new w (.cells #[.int .i64 e, .int .i64 t, tv, .int .i64 c, lv, kv] 25)
  obtain ⟨tp, tc, rfl⟩ := h1.shape
  obtain ⟨lp, lc, rfl⟩ := h2.shape
  obtain ⟨kp, kc, rfl⟩ := h3.shape
  obtain ⟨vp, vc, rfl⟩ := hv.shape
  obtain ⟨V, hV⟩ : ∃ V, V = w.alloc (.cells #[.int .i64 e, .int .i64 t, .slice tp tr.length tc, .int .i64 c, .slice lp li.length lc, .slice kp lk.length kc] 25) := ⟨_, rfl⟩
  rw [← hV] at bA gA
  have hg : w.heap.size < V.heap.size := (Array.getElem?_eq_some_iff.1 gA).1
  have hcells : ∀ W, Below V.heap.size V W → W.cell? ⟨w.heap.size, 0, none⟩ = some (.int .i64 e) ∧ W.cell? ⟨w.heap.size, 1, none⟩ = some (.int .i64 t) ∧ W.cell? ⟨w.heap.size, 2, none⟩ = some (.slice tp tr.length tc) ∧ W.cell? ⟨w.heap.size, 3, none⟩ = some (.int .i64 c) ∧ W.cell? ⟨w.heap.size, 4, none⟩ = some (.slice lp li.length lc) ∧ W.cell? ⟨w.heap.size, 5, none⟩ = some (.slice kp lk.length kc) := by
    intro W hB
    have g1 := (hB.block _ hg).trans gA
    refine ⟨?_, ?_, ?_, ?_, ?_, ?_⟩ <;> (rw [cell_of_row _ _ _ _ _ _ g1]; rfl)
  have k1 := h1.later bA
  have k2 := h2.later bA
  have k3 := h3.later bA
  have kv := hv.later bA
  have tV := hTD.later bA
  clear h1 h2 h3 hv hTD gA
  have hD2 := fun W (hB : Below V.heap.size V W) => decode_any size _ b W (kv.later hB) (by omega) (tV.later hB)
  have HED : Hid (dcOk size b = true → canB size (dcR size b) = true ∧ encL (dcR size b) = b) := enc_dec size b
  generalize dcOk size b = OK at *
  generalize dcR size b = RR' at *
  go_enter Tryd.func4, Tryd.ntmps4
  by_cases hcan : canB size ⟨e, t, c, tr, li, lk⟩ = true
  · have hE := encode_yes size e t c _ _ _ tr li lk V k1 k2 k3 tV hcan
    have hl := encL_len size _ hcan
    obtain ⟨dok, dr⟩ := dec_enc size _ hcan
    have hDx := fun W v' (h : HB W v' (encL ⟨e, t, c, tr, li, lk⟩)) (hT : TD W) => decode_any size v' _ W h (by omega) hT
    rw [dok, dr] at hDx
    generalize encL ⟨e, t, c, tr, li, lk⟩ = EN at *
    clear dok dr hcan
    go_wp2_with fail
    rw [← hV]
    refine hE.mono ?_
    rintro x w1 ⟨v1, rfl, hh1, hb1⟩
    have hD := hDx w1 v1 hh1 (tV.later hb1)
    clear hE hDx hV hh1
    go_wp2_with fail
    refine hD.mono ?_
    rintro x w2 ⟨_, hok, hb2'⟩
    obtain ⟨tv2, lv2, kv2, rfl, g1, g2, g3⟩ := hok rfl
    have hb2 := hb1.trans (hb2'.mono hb1.size)
    obtain ⟨tp2, tc2, rfl⟩ := g1.shape
    obtain ⟨lp2, lc2, rfl⟩ := g2.shape
    obtain ⟨kp2, kc2, rfl⟩ := g3.shape
    clear hD hok hb2' hb1
    dsimp only at g1 g2 g3
    dsimp only
    have bE := hb2.alloc hb2.size (.cells #[.int .i64 e, .int .i64 t, .slice tp2 tr.length tc2, .int .i64 c, .slice lp2 li.length lc2, .slice kp2 lk.length kc2] 25)
    have bE' := (Below.refl w2.heap.size w2).alloc (Nat.le_refl _) (.cells #[.int .i64 e, .int .i64 t, .slice tp2 tr.length tc2, .int .i64 c, .slice lp2 li.length lc2, .slice kp2 lk.length kc2] 25)
    obtain ⟨c0, c1, c2, c3, c4, c5⟩ := hcells _ bE
    have hS := same13_true e t c _ _ _ _ _ _ tr li lk _ (g1.later bE') (k1.later bE) (g2.later bE') (k2.later bE) (g3.later bE') (k3.later bE)
    clear g1 g2 g3 bE'
    go_wp2_with fail
    refine hS.mono ?_
    rintro x w5 ⟨rfl, hb5'⟩
    have hb5 := bE.trans (hb5'.mono bE.size)
    clear hS bE hb5' c0 c1 c2 c3 c4 c5 k1 k2 k3
    have hD := hD2 w5 hb5
    have tW := tV.later hb5
    have kW := kv.later hb5
    have bW := bA.trans ((hb5).mono bA.size)
    clear hD2 tV kv
    go_wp2_with fail
    refine hD.mono ?_
    rintro x w6 ⟨hno, hok, hb6⟩
    have bX := bW.trans (hb6.mono bW.size)
    have tX := tW.later hb6
    have kX := kW.later hb6
    clear hD hcells
    cases OK with
    | false =>
      have hx := hno rfl
      subst hx
      have hA := rcAwake_any (w6.alloc (.cells #[.int .i64 0, .int .i64 0, .slice none 0 0, .int .i64 0, .slice none 0 0, .slice none 0 0] 25)) (tX.later ((Below.refl w6.heap.size w6).alloc (Nat.le_refl _) _))
      have bY := bX.alloc bX.size (.cells #[.int .i64 0, .int .i64 0, .slice none 0 0, .int .i64 0, .slice none 0 0, .slice none 0 0] 25)
      clear hno hok HED hb6 bX
      go_wp2_with fail
      refine hA.mono ?_
      rintro x w7 ⟨rfl, hb7⟩
      have bZ := bY.trans (hb7.mono bY.size)
      go_wp2
      go_ret
      exact ⟨rfl, bZ⟩
    | true =>
      obtain ⟨tv3, lv3, kv3, rfl, f1, f2, f3⟩ := hok rfl
      obtain ⟨hc3, he3⟩ := HED.out rfl
      obtain ⟨e3, t3, c3, tr3, li3, lk3⟩ := RR'
      dsimp only at f1 f2 f3
      dsimp only
      obtain ⟨tp3, tc3, rfl⟩ := f1.shape
      obtain ⟨lp3, lc3, rfl⟩ := f2.shape
      obtain ⟨kp3, kc3, rfl⟩ := f3.shape
      have b8 := (Below.refl w6.heap.size w6).alloc (Nat.le_refl _) (.cells #[.int .i64 e3, .int .i64 t3, .slice tp3 tr3.length tc3, .int .i64 c3, .slice lp3 li3.length lc3, .slice kp3 lk3.length kc3] 25)
      have hE3 := encode_yes size e3 t3 c3 _ _ _ tr3 li3 lk3 _ (f1.later b8) (f2.later b8) (f3.later b8) (tX.later b8) hc3
      rw [he3] at hE3
      have bY := bX.trans (b8.mono bX.size)
      have tY := tX.later b8
      have kY := kX.later b8
      clear hno hok HED hb6 bX hc3 he3 f1 f2 f3 b8 tX kX
      go_wp2_with fail
      refine hE3.mono ?_
      rintro x w7 ⟨v7, rfl, h7, hb7⟩
      obtain ⟨p7, q7, rfl⟩ := h7.shape
      have hQ := equal_t _ _ b b w7 h7 (kY.later hb7) rfl
      have bZ := bY.trans (hb7.mono bY.size)
      have tZ := tY.later hb7
      clear hE3 hb7 h7 bY tY kY
      go_wp2_with fail
      refine hQ.mono ?_
      rintro x w8 ⟨rfl, hw⟩
      subst hw
      clear hQ
      go_wp2_with fail
      refine (rcAwake_any _ tZ).mono ?_
      rintro x w9 ⟨rfl, hb9⟩
      have bF := bZ.trans (hb9.mono bZ.size)
      go_wp2
      go_ret
      exact ⟨rfl, bF⟩
  · have hcan' : canB size ⟨e, t, c, tr, li, lk⟩ = false := by simpa using hcan
    have hE := encode_no size e t c _ _ _ tr li lk V k1 k2 k3 tV hcan'
    clear hcan hcan'
    go_wp2_with fail
    rw [← hV]
    refine hE.mono ?_
    rintro x w5 ⟨rfl, hb5⟩
    clear hE hV k1 k2 k3
    have hD := hD2 w5 hb5
    have tW := tV.later hb5
    have kW := kv.later hb5
    have bW := bA.trans ((hb5).mono bA.size)
    clear hD2 tV kv
    go_wp2_with fail
    refine hD.mono ?_
    rintro x w6 ⟨hno, hok, hb6⟩
    have bX := bW.trans (hb6.mono bW.size)
    have tX := tW.later hb6
    have kX := kW.later hb6
    clear hD hcells
    cases OK with
    | false =>
      have hx := hno rfl
      subst hx
      have hA := rcAwake_any (w6.alloc (.cells #[.int .i64 0, .int .i64 0, .slice none 0 0, .int .i64 0, .slice none 0 0, .slice none 0 0] 25)) (tX.later ((Below.refl w6.heap.size w6).alloc (Nat.le_refl _) _))
      have bY := bX.alloc bX.size (.cells #[.int .i64 0, .int .i64 0, .slice none 0 0, .int .i64 0, .slice none 0 0, .slice none 0 0] 25)
      clear hno hok HED hb6 bX
      go_wp2_with fail
      refine hA.mono ?_
      rintro x w7 ⟨rfl, hb7⟩
      have bZ := bY.trans (hb7.mono bY.size)
      go_wp2
      go_ret
      exact ⟨rfl, bZ⟩
    | true =>
      obtain ⟨tv3, lv3, kv3, rfl, f1, f2, f3⟩ := hok rfl
      obtain ⟨hc3, he3⟩ := HED.out rfl
      obtain ⟨e3, t3, c3, tr3, li3, lk3⟩ := RR'
      dsimp only at f1 f2 f3
      dsimp only
      obtain ⟨tp3, tc3, rfl⟩ := f1.shape
      obtain ⟨lp3, lc3, rfl⟩ := f2.shape
      obtain ⟨kp3, kc3, rfl⟩ := f3.shape
      have b8 := (Below.refl w6.heap.size w6).alloc (Nat.le_refl _) (.cells #[.int .i64 e3, .int .i64 t3, .slice tp3 tr3.length tc3, .int .i64 c3, .slice lp3 li3.length lc3, .slice kp3 lk3.length kc3] 25)
      have hE3 := encode_yes size e3 t3 c3 _ _ _ tr3 li3 lk3 _ (f1.later b8) (f2.later b8) (f3.later b8) (tX.later b8) hc3
      rw [he3] at hE3
      have bY := bX.trans (b8.mono bX.size)
      have tY := tX.later b8
      have kY := kX.later b8
      clear hno hok HED hb6 bX hc3 he3 f1 f2 f3 b8 tX kX
      go_wp2_with fail
      refine hE3.mono ?_
      rintro x w7 ⟨v7, rfl, h7, hb7⟩
      obtain ⟨p7, q7, rfl⟩ := h7.shape
      have hQ := equal_t _ _ b b w7 h7 (kY.later hb7) rfl
      have bZ := bY.trans (hb7.mono bY.size)
      have tZ := tY.later hb7
      clear hE3 hb7 h7 bY tY kY
      go_wp2_with fail
      refine hQ.mono ?_
      rintro x w8 ⟨rfl, hw⟩
      subst hw
      clear hQ
      go_wp2_with fail
      refine (rcAwake_any _ tZ).mono ?_
      rintro x w9 ⟨rfl, hb9⟩
      have bF := bZ.trans (hb9.mono bZ.size)
      go_wp2
      go_ret
      exact ⟨rfl, bF⟩

end Go.Proofs.YtgfddabccjfhiaaDoor
