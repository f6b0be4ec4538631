/- What this text proves: the walk of annalslaw13.awake over this program: it answers true. What this text proves: the walk of the document's Same (annalsref13) over this program, at two records that hold the same: true. What this text proves: the walk of the statement RecordBack over this program: it answers true for any arguments, and writes nothing that was there. What this text proves: the walks of record.Hash and of the document's Hash (annalsref13) over this program. -/
import Derived.Test.YtgfddabccjfhiaaDoorJEn
import Derived.Test.YtgfddabccjfhiaaDoorEqual
import Derived.Test.YtgfddabccjfhiaaDoorJKp
import Derived.Test.YtgfddabccjfhiaaDoorJBk
import Derived.Test.YtgfddabccjfhiaaDoorJREn
import Derived.Test.YtgfddabccjfhiaaDoorJHa
namespace Go.Proofs.YtgfddabccjfhiaaDoor
open Go.RowKit

theorem awakeCan : canB 1 ⟨0, 0, 0, [1], [2], []⟩ = true := by decide +kernel
theorem awakeEnc : encL ⟨0, 0, 0, [1], [2], []⟩ = [0, 0, 1, 1, 1, 0, 1, 1, 2] := by decide +kernel

set_option maxRecDepth 100000 in
set_option maxHeartbeats 2000000 in
theorem rcAwake_any (w : World) (hTD : TD w) :
    Calls Tryd.prog 19 #[] w fun x w' => x = .returned (.bool true) ∧ Below w.heap.size w w' := by
  have b1 := (Below.refl w.heap.size w).alloc (Nat.le_refl _) (.cells #[.int .u8 1] 5)
  have l1 : HB (w.alloc (.cells #[.int .u8 1] 5)) (.slice (some ⟨w.heap.size, 0, none⟩) 1 1) [1] := HB.lit w 5 [1] _ 1 rfl rfl (by decide)
  have s1 : (w.alloc (.cells #[.int .u8 1] 5)).heap.size = w.heap.size + 1 := by simp
  have b2 := (Below.refl (w.heap.size + 1) (w.alloc (.cells #[.int .u8 1] 5))).alloc (by simp) (.cells #[.int .u8 2] 5)
  have l2 : HB ((w.alloc (.cells #[.int .u8 1] 5)).alloc (.cells #[.int .u8 2] 5)) (.slice (some ⟨w.heap.size + 1, 0, none⟩) 1 1) [2] := by
    have := HB.lit (w.alloc (.cells #[.int .u8 1] 5)) 5 [2] _ 1 rfl rfl (by decide)
    rw [s1] at this
    exact this
  have k1 := l1.later (by rw [s1]; exact b2)
  have bA := b1.trans (b2.mono (by omega))
  have hE := encode_yes 1 0 0 0 _ _ (.slice none 0 0) [1] [2] [] _ k1 l2 (PA.nil _) (hTD.later bA) awakeCan
  rw [awakeEnc] at hE
  have lit9 : ∀ u : World, HB (u.alloc (.cells #[.int .u8 0, .int .u8 0, .int .u8 1, .int .u8 1, .int .u8 1, .int .u8 0, .int .u8 1, .int .u8 1, .int .u8 2] 5)) (.slice (some ⟨u.heap.size, 0, none⟩) 9 9) [0, 0, 1, 1, 1, 0, 1, 1, 2] := fun u => HB.lit u 5 [0, 0, 1, 1, 1, 0, 1, 1, 2] _ 9 rfl rfl (by decide)
  obtain ⟨L, hL⟩ : ∃ L : List UInt8, L = [0, 0, 1, 1, 1, 0, 1, 1, 2] := ⟨_, rfl⟩
  rw [← hL] at hE
  simp only [← hL] at lit9
  clear l1 l2 s1 b1 b2 k1 hL hTD
  go_enter Tryd.func19, Tryd.ntmps19
  go_wp2_with fail
  refine hE.mono ?_
  rintro x w1 ⟨v1, rfl, h1, hb1⟩
  have bB := bA.trans (hb1.mono bA.size)
  clear hE bA hb1
  have bC := (Below.refl w1.heap.size w1).alloc (Nat.le_refl _) (.cells #[.int .u8 0, .int .u8 0, .int .u8 1, .int .u8 1, .int .u8 1, .int .u8 0, .int .u8 1, .int .u8 1, .int .u8 2] 5)
  have hQ := equal_t _ _ L L _ (h1.later bC) (lit9 w1) rfl
  have bD := bB.trans (bC.mono bB.size)
  obtain ⟨p1, c1, rfl⟩ := h1.shape
  clear h1 lit9 bB bC
  go_wp2_with fail
  refine hQ.mono ?_
  rintro x w2 ⟨rfl, hw⟩
  subst hw
  clear hQ
  go_wp2
  go_ret
  exact ⟨rfl, bD⟩

end Go.Proofs.YtgfddabccjfhiaaDoor

namespace Go.Proofs.YtgfddabccjfhiaaDoor
open Go.RowKit

set_option maxRecDepth 100000 in
set_option maxHeartbeats 4000000 in
theorem same13_true (e t c : Int) (ta tb la lb ka kb : Value) (tr li : List UInt8) (lk : List (List UInt8)) (w : World) (h1 : HB w ta tr) (h2 : HB w tb tr) (h3 : HB w la li) (h4 : HB w lb li) (h5 : PA w ka lk) (h6 : PA w kb lk) :
    Calls Tryd.prog 14 #[.agg #[.int .i64 e, .int .i64 t, ta, .int .i64 c, la, ka], .agg #[.int .i64 e, .int .i64 t, tb, .int .i64 c, lb, kb]] w fun x w' => x = .returned (.bool true) ∧ Below w.heap.size w w' := by
  obtain ⟨p1, c1, rfl⟩ := h1.shape
  obtain ⟨p2, c2, rfl⟩ := h2.shape
  obtain ⟨p3, c3, rfl⟩ := h3.shape
  obtain ⟨p4, c4, rfl⟩ := h4.shape
  obtain ⟨p5, c5, rfl⟩ := h5.shape
  obtain ⟨p6, c6, rfl⟩ := h6.shape
  have m1 := h5.len.2
  unfold maxLen at m1
  have bA := (Below.refl w.heap.size w).alloc (Nat.le_refl _) (.cells #[.int .i64 e, .int .i64 t, .slice p1 tr.length c1, .int .i64 c, .slice p3 li.length c3, .slice p5 lk.length c5] 25)
  have gA := heap_alloc_new w (.cells #[.int .i64 e, .int .i64 t, .slice p1 tr.length c1, .int .i64 c, .slice p3 li.length c3, .slice p5 lk.length c5] 25)
  have sA : (w.alloc (.cells #[.int .i64 e, .int .i64 t, .slice p1 tr.length c1, .int .i64 c, .slice p3 li.length c3, .slice p5 lk.length c5] 25)).heap.size = w.heap.size + 1 := by simp
  obtain ⟨V, hV⟩ : ∃ V, V = w.alloc (.cells #[.int .i64 e, .int .i64 t, .slice p1 tr.length c1, .int .i64 c, .slice p3 li.length c3, .slice p5 lk.length c5] 25) := ⟨_, rfl⟩
  rw [← hV] at bA gA sA
  have bB := (Below.refl V.heap.size V).alloc (Nat.le_refl _) (.cells #[.int .i64 e, .int .i64 t, .slice p2 tr.length c2, .int .i64 c, .slice p4 li.length c4, .slice p6 lk.length c6] 25)
  have gB := heap_alloc_new V (.cells #[.int .i64 e, .int .i64 t, .slice p2 tr.length c2, .int .i64 c, .slice p4 li.length c4, .slice p6 lk.length c6] 25)
  have gC := (bB.block _ (by omega)).trans gA
  rw [sA] at gB
  obtain ⟨X, hX⟩ : ∃ X, X = V.alloc (.cells #[.int .i64 e, .int .i64 t, .slice p2 tr.length c2, .int .i64 c, .slice p4 li.length c4, .slice p6 lk.length c6] 25) := ⟨_, rfl⟩
  rw [← hX] at bB gB gC
  have bX := bA.trans (bB.mono bA.size)
  have hX2 := hX
  rw [hV] at hX2
  have q1 := (h1.later bX).str (P := Tryd.prog) 22 5 9 Tryd.underlying22 Tryd.underlying5 Tryd.underlying9
  have q2 := (h2.later bX).str (P := Tryd.prog) 22 5 9 Tryd.underlying22 Tryd.underlying5 Tryd.underlying9
  have q3 := (h3.later bX).str (P := Tryd.prog) 22 5 9 Tryd.underlying22 Tryd.underlying5 Tryd.underlying9
  have q4 := (h4.later bX).str (P := Tryd.prog) 22 5 9 Tryd.underlying22 Tryd.underlying5 Tryd.underlying9
  have k5 := h5.later bX
  have k6 := h6.later bX
  have x0 : X.cell? ⟨w.heap.size, 0, none⟩ = some (.int .i64 e) := by rw [cell_of_row _ _ _ _ _ _ gC]; rfl
  have x1 : X.cell? ⟨w.heap.size, 1, none⟩ = some (.int .i64 t) := by rw [cell_of_row _ _ _ _ _ _ gC]; rfl
  have x2 : X.cell? ⟨w.heap.size, 2, none⟩ = some (.slice p1 tr.length c1) := by rw [cell_of_row _ _ _ _ _ _ gC]; rfl
  have x3 : X.cell? ⟨w.heap.size, 3, none⟩ = some (.int .i64 c) := by rw [cell_of_row _ _ _ _ _ _ gC]; rfl
  have x4 : X.cell? ⟨w.heap.size, 4, none⟩ = some (.slice p3 li.length c3) := by rw [cell_of_row _ _ _ _ _ _ gC]; rfl
  have x5 : X.cell? ⟨w.heap.size, 5, none⟩ = some (.slice p5 lk.length c5) := by rw [cell_of_row _ _ _ _ _ _ gC]; rfl
  have y0 : X.cell? ⟨w.heap.size + 1, 0, none⟩ = some (.int .i64 e) := by rw [cell_of_row _ _ _ _ _ _ gB]; rfl
  have y1 : X.cell? ⟨w.heap.size + 1, 1, none⟩ = some (.int .i64 t) := by rw [cell_of_row _ _ _ _ _ _ gB]; rfl
  have y2 : X.cell? ⟨w.heap.size + 1, 2, none⟩ = some (.slice p2 tr.length c2) := by rw [cell_of_row _ _ _ _ _ _ gB]; rfl
  have y3 : X.cell? ⟨w.heap.size + 1, 3, none⟩ = some (.int .i64 c) := by rw [cell_of_row _ _ _ _ _ _ gB]; rfl
  have y4 : X.cell? ⟨w.heap.size + 1, 4, none⟩ = some (.slice p4 li.length c4) := by rw [cell_of_row _ _ _ _ _ _ gB]; rfl
  have y5 : X.cell? ⟨w.heap.size + 1, 5, none⟩ = some (.slice p6 lk.length c6) := by rw [cell_of_row _ _ _ _ _ _ gB]; rfl
  rw [hX2] at q1 q2 q3 q4
  clear h1 h2 h3 h4 h5 h6 bA gA sA bB gB gC hX
  go_enter Tryd.func14, Tryd.ntmps14
  go_wp2
  rw [← hX2]
  clear q1 q2 q3 q4 hX2 hV x0 x1 x2 x3 x4 y0 y1 y2 y3 y4
  go_loopw [55] (fun j wr => ∃ k : Nat, k ≤ lk.length ∧ j = .int .i64 k ∧ Below X.heap.size X wr) (fun j _ => lk.length - (intOf j).toNat)
  case atStart => exact ⟨0, Nat.zero_le _, rfl, Below.refl _ _⟩
  case round =>
    obtain ⟨k, hk, rfl, hbe⟩ := hrel
    by_cases hlt : k < lk.length
    · obtain ⟨b1, o1, rfl⟩ := k5.addr (by omega)
      obtain ⟨b2, o2, rfl⟩ := k6.addr (by omega)
      obtain ⟨q6, d6, l, gl, ec, hl⟩ := (k5.later hbe).get k hlt
      obtain ⟨q7, d7, l2, gl2, ec2, hl2⟩ := (k6.later hbe).get k hlt
      have e12 : l2 = l := by
        have := gl2.out
        rw [gl.out] at this
        exact (Option.some.inj this).symm
      subst e12
      have a1 := cell_later hbe x5
      have a2 := cell_later hbe y5
      have hlt2 : (k : Int) < (lk.length : Int) := by omega
      have z3 := hl.str (P := Tryd.prog) 22 5 9 Tryd.underlying22 Tryd.underlying5 Tryd.underlying9
      have z4 := hl2.str (P := Tryd.prog) 22 5 9 Tryd.underlying22 Tryd.underlying5 Tryd.underlying9
      have z1 := (hl.later ((Below.refl _ wr).drew)).str (P := Tryd.prog) 22 5 9 Tryd.underlying22 Tryd.underlying5 Tryd.underlying9
      have z2 := (hl2.later ((Below.refl _ wr).drew)).str (P := Tryd.prog) 22 5 9 Tryd.underlying22 Tryd.underlying5 Tryd.underlying9
      clear gl gl2
      go_wp2
      go_region
      all_goals
        go_wp2
        go_roundw
      all_goals first | exact ⟨k + 1, by omega, by go_num, hbe.drew⟩ | ((repeat apply Exists.intro); exact ⟨⟨k + 1, by omega, by go_num, hbe.drew⟩, rfl⟩) | (simp [intOf]; omega)
    · have hb := bX.trans (hbe.mono bX.size)
      go_wp2
      go_ret
      exact ⟨rfl, hb⟩

end Go.Proofs.YtgfddabccjfhiaaDoor

namespace Go.Proofs.YtgfddabccjfhiaaDoor
open Go.RowKit

theorem encL_len (size : Int) (r : Rc) (h : canB size r = true) : (encL r).length ≤ 1048576 := by
  obtain ⟨q1, q2, q3, q4, q5, q6, q7, q8, q9, q10, q11, q12⟩ := (canB_iff size r).1 h
  have n1 := numL_le r.e
  have n2 := numL_le r.t
  have n3 := numL_le r.c
  have b1 := bytesL_len r.tr (by omega)
  have b2 := bytesL_len r.li (by omega)
  have b3 := putL_len r.lk (sized_le q12 q2)
  have b4 := linksL_len r.e.toNat (by omega)
  unfold encL
  simp only [List.length_append]
  omega

set_option maxRecDepth 100000 in
set_option maxHeartbeats 8000000 in
theorem recBackWalk (size e t c : Int) (tv lv kv v : Value) (tr li : List UInt8) (lk : List (List UInt8)) (b : List UInt8) (w : World) (h1 : HB w tv tr) (h2 : HB w lv li) (h3 : PA w kv lk) (hv : HB w v b) (hsz : b.length ≤ 140737488351232) (hTD : TD w) :
    Calls Tryd.prog 4 #[.int .i64 size, .agg #[.int .i64 e, .int .i64 t, tv, .int .i64 c, lv, kv], v] w fun x w' => x = .returned (.bool true) ∧ Below w.heap.size w w' := by
  have bA := (Below.refl w.heap.size w).alloc (Nat.le_refl _) (.cells #[.int .i64 e, .int .i64 t, tv, .int .i64 c, lv, kv] 25)
  have gA := heap_alloc_new w (.cells #[.int .i64 e, .int .i64 t, tv, .int .i64 c, lv, kv] 25)
  obtain ⟨tp, tc, rfl⟩ := h1.shape
  obtain ⟨lp, lc, rfl⟩ := h2.shape
  obtain ⟨kp, kc, rfl⟩ := h3.shape
  obtain ⟨vp, vc, rfl⟩ := hv.shape
  obtain ⟨V, hV⟩ : ∃ V, V = w.alloc (.cells #[.int .i64 e, .int .i64 t, .slice tp tr.length tc, .int .i64 c, .slice lp li.length lc, .slice kp lk.length kc] 25) := ⟨_, rfl⟩
  rw [← hV] at bA gA
  have hg : w.heap.size < V.heap.size := (Array.getElem?_eq_some_iff.1 gA).1
  have hcells : ∀ W, Below V.heap.size V W → W.cell? ⟨w.heap.size, 0, none⟩ = some (.int .i64 e) ∧ W.cell? ⟨w.heap.size, 1, none⟩ = some (.int .i64 t) ∧ W.cell? ⟨w.heap.size, 2, none⟩ = some (.slice tp tr.length tc) ∧ W.cell? ⟨w.heap.size, 3, none⟩ = some (.int .i64 c) ∧ W.cell? ⟨w.heap.size, 4, none⟩ = some (.slice lp li.length lc) ∧ W.cell? ⟨w.heap.size, 5, none⟩ = some (.slice kp lk.length kc) := by
    intro W hB
    have g1 := (hB.block _ hg).trans gA
    refine ⟨?_, ?_, ?_, ?_, ?_, ?_⟩ <;> (rw [cell_of_row _ _ _ _ _ _ g1]; rfl)
  have k1 := h1.later bA
  have k2 := h2.later bA
  have k3 := h3.later bA
  have kv := hv.later bA
  have tV := hTD.later bA
  clear h1 h2 h3 hv hTD gA
  have hD2 := fun W (hB : Below V.heap.size V W) => decode_any size _ b W (kv.later hB) (by omega) (tV.later hB)
  have HED : Hid (dcOk size b = true → canB size (dcR size b) = true ∧ encL (dcR size b) = b) := enc_dec size b
  generalize dcOk size b = OK at *
  generalize dcR size b = RR' at *
  go_enter Tryd.func4, Tryd.ntmps4
  by_cases hcan : canB size ⟨e, t, c, tr, li, lk⟩ = true
  · have hE := encode_yes size e t c _ _ _ tr li lk V k1 k2 k3 tV hcan
    have hl := encL_len size _ hcan
    obtain ⟨dok, dr⟩ := dec_enc size _ hcan
    have hDx := fun W v' (h : HB W v' (encL ⟨e, t, c, tr, li, lk⟩)) (hT : TD W) => decode_any size v' _ W h (by omega) hT
    rw [dok, dr] at hDx
    generalize encL ⟨e, t, c, tr, li, lk⟩ = EN at *
    clear dok dr hcan
    go_wp2_with fail
    rw [← hV]
    refine hE.mono ?_
    rintro x w1 ⟨v1, rfl, hh1, hb1⟩
    have hD := hDx w1 v1 hh1 (tV.later hb1)
    clear hE hDx hV hh1
    go_wp2_with fail
    refine hD.mono ?_
    rintro x w2 ⟨_, hok, hb2'⟩
    obtain ⟨tv2, lv2, kv2, rfl, g1, g2, g3⟩ := hok rfl
    have hb2 := hb1.trans (hb2'.mono hb1.size)
    obtain ⟨tp2, tc2, rfl⟩ := g1.shape
    obtain ⟨lp2, lc2, rfl⟩ := g2.shape
    obtain ⟨kp2, kc2, rfl⟩ := g3.shape
    clear hD hok hb2' hb1
    dsimp only at g1 g2 g3
    dsimp only
    have bE := hb2.alloc hb2.size (.cells #[.int .i64 e, .int .i64 t, .slice tp2 tr.length tc2, .int .i64 c, .slice lp2 li.length lc2, .slice kp2 lk.length kc2] 25)
    have bE' := (Below.refl w2.heap.size w2).alloc (Nat.le_refl _) (.cells #[.int .i64 e, .int .i64 t, .slice tp2 tr.length tc2, .int .i64 c, .slice lp2 li.length lc2, .slice kp2 lk.length kc2] 25)
    obtain ⟨c0, c1, c2, c3, c4, c5⟩ := hcells _ bE
    have hS := same13_true e t c _ _ _ _ _ _ tr li lk _ (g1.later bE') (k1.later bE) (g2.later bE') (k2.later bE) (g3.later bE') (k3.later bE)
    clear g1 g2 g3 bE'
    go_wp2_with fail
    refine hS.mono ?_
    rintro x w5 ⟨rfl, hb5'⟩
    have hb5 := bE.trans (hb5'.mono bE.size)
    clear hS bE hb5' c0 c1 c2 c3 c4 c5 k1 k2 k3
    have hD := hD2 w5 hb5
    have tW := tV.later hb5
    have kW := kv.later hb5
    have bW := bA.trans ((hb5).mono bA.size)
    clear hD2 tV kv
    go_wp2_with fail
    refine hD.mono ?_
    rintro x w6 ⟨hno, hok, hb6⟩
    have bX := bW.trans (hb6.mono bW.size)
    have tX := tW.later hb6
    have kX := kW.later hb6
    clear hD hcells
    cases OK with
    | false =>
      have hx := hno rfl
      subst hx
      have hA := rcAwake_any (w6.alloc (.cells #[.int .i64 0, .int .i64 0, .slice none 0 0, .int .i64 0, .slice none 0 0, .slice none 0 0] 25)) (tX.later ((Below.refl w6.heap.size w6).alloc (Nat.le_refl _) _))
      have bY := bX.alloc bX.size (.cells #[.int .i64 0, .int .i64 0, .slice none 0 0, .int .i64 0, .slice none 0 0, .slice none 0 0] 25)
      clear hno hok HED hb6 bX
      go_wp2_with fail
      refine hA.mono ?_
      rintro x w7 ⟨rfl, hb7⟩
      have bZ := bY.trans (hb7.mono bY.size)
      go_wp2
      go_ret
      exact ⟨rfl, bZ⟩
    | true =>
      obtain ⟨tv3, lv3, kv3, rfl, f1, f2, f3⟩ := hok rfl
      obtain ⟨hc3, he3⟩ := HED.out rfl
      obtain ⟨e3, t3, c3, tr3, li3, lk3⟩ := RR'
      dsimp only at f1 f2 f3
      dsimp only
      obtain ⟨tp3, tc3, rfl⟩ := f1.shape
      obtain ⟨lp3, lc3, rfl⟩ := f2.shape
      obtain ⟨kp3, kc3, rfl⟩ := f3.shape
      have b8 := (Below.refl w6.heap.size w6).alloc (Nat.le_refl _) (.cells #[.int .i64 e3, .int .i64 t3, .slice tp3 tr3.length tc3, .int .i64 c3, .slice lp3 li3.length lc3, .slice kp3 lk3.length kc3] 25)
      have hE3 := encode_yes size e3 t3 c3 _ _ _ tr3 li3 lk3 _ (f1.later b8) (f2.later b8) (f3.later b8) (tX.later b8) hc3
      rw [he3] at hE3
      have bY := bX.trans (b8.mono bX.size)
      have tY := tX.later b8
      have kY := kX.later b8
      clear hno hok HED hb6 bX hc3 he3 f1 f2 f3 b8 tX kX
      go_wp2_with fail
      refine hE3.mono ?_
      rintro x w7 ⟨v7, rfl, h7, hb7⟩
      obtain ⟨p7, q7, rfl⟩ := h7.shape
      have hQ := equal_t _ _ b b w7 h7 (kY.later hb7) rfl
      have bZ := bY.trans (hb7.mono bY.size)
      have tZ := tY.later hb7
      clear hE3 hb7 h7 bY tY kY
      go_wp2_with fail
      refine hQ.mono ?_
      rintro x w8 ⟨rfl, hw⟩
      subst hw
      clear hQ
      go_wp2_with fail
      refine (rcAwake_any _ tZ).mono ?_
      rintro x w9 ⟨rfl, hb9⟩
      have bF := bZ.trans (hb9.mono bZ.size)
      go_wp2
      go_ret
      exact ⟨rfl, bF⟩
  · have hcan' : canB size ⟨e, t, c, tr, li, lk⟩ = false := by simpa using hcan
    have hE := encode_no size e t c _ _ _ tr li lk V k1 k2 k3 tV hcan'
    clear hcan hcan'
    go_wp2_with fail
    rw [← hV]
    refine hE.mono ?_
    rintro x w5 ⟨rfl, hb5⟩
    clear hE hV k1 k2 k3
    have hD := hD2 w5 hb5
    have tW := tV.later hb5
    have kW := kv.later hb5
    have bW := bA.trans ((hb5).mono bA.size)
    clear hD2 tV kv
    go_wp2_with fail
    refine hD.mono ?_
    rintro x w6 ⟨hno, hok, hb6⟩
    have bX := bW.trans (hb6.mono bW.size)
    have tX := tW.later hb6
    have kX := kW.later hb6
    clear hD hcells
    cases OK with
    | false =>
      have hx := hno rfl
      subst hx
      have hA := rcAwake_any (w6.alloc (.cells #[.int .i64 0, .int .i64 0, .slice none 0 0, .int .i64 0, .slice none 0 0, .slice none 0 0] 25)) (tX.later ((Below.refl w6.heap.size w6).alloc (Nat.le_refl _) _))
      have bY := bX.alloc bX.size (.cells #[.int .i64 0, .int .i64 0, .slice none 0 0, .int .i64 0, .slice none 0 0, .slice none 0 0] 25)
      clear hno hok HED hb6 bX
      go_wp2_with fail
      refine hA.mono ?_
      rintro x w7 ⟨rfl, hb7⟩
      have bZ := bY.trans (hb7.mono bY.size)
      go_wp2
      go_ret
      exact ⟨rfl, bZ⟩
    | true =>
      obtain ⟨tv3, lv3, kv3, rfl, f1, f2, f3⟩ := hok rfl
      obtain ⟨hc3, he3⟩ := HED.out rfl
      obtain ⟨e3, t3, c3, tr3, li3, lk3⟩ := RR'
      dsimp only at f1 f2 f3
      dsimp only
      obtain ⟨tp3, tc3, rfl⟩ := f1.shape
      obtain ⟨lp3, lc3, rfl⟩ := f2.shape
      obtain ⟨kp3, kc3, rfl⟩ := f3.shape
      have b8 := (Below.refl w6.heap.size w6).alloc (Nat.le_refl _) (.cells #[.int .i64 e3, .int .i64 t3, .slice tp3 tr3.length tc3, .int .i64 c3, .slice lp3 li3.length lc3, .slice kp3 lk3.length kc3] 25)
      have hE3 := encode_yes size e3 t3 c3 _ _ _ tr3 li3 lk3 _ (f1.later b8) (f2.later b8) (f3.later b8) (tX.later b8) hc3
      rw [he3] at hE3
      have bY := bX.trans (b8.mono bX.size)
      have tY := tX.later b8
      have kY := kX.later b8
      clear hno hok HED hb6 bX hc3 he3 f1 f2 f3 b8 tX kX
      go_wp2_with fail
      refine hE3.mono ?_
      rintro x w7 ⟨v7, rfl, h7, hb7⟩
      obtain ⟨p7, q7, rfl⟩ := h7.shape
      have hQ := equal_t _ _ b b w7 h7 (kY.later hb7) rfl
      have bZ := bY.trans (hb7.mono bY.size)
      have tZ := tY.later hb7
      clear hE3 hb7 h7 bY tY kY
      go_wp2_with fail
      refine hQ.mono ?_
      rintro x w8 ⟨rfl, hw⟩
      subst hw
      clear hQ
      go_wp2_with fail
      refine (rcAwake_any _ tZ).mono ?_
      rintro x w9 ⟨rfl, hb9⟩
      have bF := bZ.trans (hb9.mono bZ.size)
      go_wp2
      go_ret
      exact ⟨rfl, bF⟩

end Go.Proofs.YtgfddabccjfhiaaDoor

namespace Go.Proofs.YtgfddabccjfhiaaDoor
open Go.RowKit

/-- A record's hash. -/
def hshF (size : Int) (r : Rc) : List UInt8 := if canB size r = true then hashF size 5 [encL r] else []

set_option maxRecDepth 100000 in
set_option maxHeartbeats 4000000 in
theorem hash13_any (size e t c : Int) (tv lv kv : Value) (tr li : List UInt8) (lk : List (List UInt8)) (w : World) (h1 : HB w tv tr) (h2 : HB w lv li) (h3 : PA w kv lk) (hTD : TD w) (hT : Tabs w) :
    Calls Tryd.prog 15 #[.int .i64 size, .agg #[.int .i64 e, .int .i64 t, tv, .int .i64 c, lv, kv]] w fun x w' => ∃ v, x = .returned v ∧ HB w' v (hshF size ⟨e, t, c, tr, li, lk⟩) ∧ Below w.heap.size w w' := by
  have bA := (Below.refl w.heap.size w).alloc (Nat.le_refl _) (.cells #[.int .i64 e, .int .i64 t, tv, .int .i64 c, lv, kv] 25)
  have k1 := h1.later bA
  have k2 := h2.later bA
  have k3 := h3.later bA
  have tA := hTD.later bA
  have sA := hT.later bA
  unfold hshF
  by_cases hcan : canB size ⟨e, t, c, tr, li, lk⟩ = true
  · rw [if_pos hcan]
    have hE := encode_yes size e t c _ _ _ tr li lk _ k1 k2 k3 tA hcan
    obtain ⟨tp, tc, rfl⟩ := h1.shape
    obtain ⟨lp, lc, rfl⟩ := h2.shape
    obtain ⟨kp, kc, rfl⟩ := h3.shape
    have HH : Hid (∀ v w, PA w v [encL ⟨e, t, c, tr, li, lk⟩] → Tabs w → Calls Tryd.prog 49 #[.int .i64 size, .int .i64 5, v] w fun x w' => ∃ v', x = .returned v' ∧ HB w' v' (hashF size 5 [encL ⟨e, t, c, tr, li, lk⟩]) ∧ Below w.heap.size w w') := fun v w h ht => (hash_to size 5 v _ w (by simp) (by omega) h ht).mono fun x w' ⟨p, c, h1, h2, h3⟩ => ⟨_, h1, h2, h3⟩
    generalize hashF size 5 [encL ⟨e, t, c, tr, li, lk⟩] = D at *
    generalize encL ⟨e, t, c, tr, li, lk⟩ = EN at *
    clear k1 k2 k3 tA hcan h1 h2 h3 hTD hT
    go_enter Tryd.func15, Tryd.ntmps15
    go_wp2_with fail
    refine hE.mono ?_
    rintro x w1 ⟨v1, rfl, hh1, hb1⟩
    obtain ⟨p1, c1, rfl⟩ := hh1.shape
    have bB := bA.trans (hb1.mono bA.size)
    have sB := sA.later hb1
    have bC := (Below.refl w1.heap.size w1).alloc (Nat.le_refl _) (.cells #[.slice p1 EN.length c1] 22)
    have hH := HH.out _ _ (PA.one' w1 _ EN hh1) (sB.later bC)
    have bD := bB.trans (bC.mono bB.size)
    clear hE hb1 bA sA hh1 HH bC bB sB
    go_wp2_with fail
    refine hH.mono ?_
    rintro x w2 ⟨v2, rfl, hh2, hb2⟩
    have bE := bD.trans (hb2.mono bD.size)
    clear hH
    go_wp2
    go_ret
    exact ⟨_, rfl, hh2, bE⟩
  · rw [if_neg hcan]
    have hcan' : canB size ⟨e, t, c, tr, li, lk⟩ = false := by simpa using hcan
    have hE := encode_no size e t c _ _ _ tr li lk _ k1 k2 k3 tA hcan'
    obtain ⟨tp, tc, rfl⟩ := h1.shape
    obtain ⟨lp, lc, rfl⟩ := h2.shape
    obtain ⟨kp, kc, rfl⟩ := h3.shape
    clear k1 k2 k3 tA hcan h1 h2 h3 hTD hT sA hcan'
    go_enter Tryd.func15, Tryd.ntmps15
    go_wp2_with fail
    refine hE.mono ?_
    rintro x w1 ⟨rfl, hb1⟩
    have bB := bA.trans (hb1.mono bA.size)
    clear hE
    go_wp2
    go_ret
    exact ⟨_, rfl, HB.nil _, bB⟩

set_option maxRecDepth 100000 in
set_option maxHeartbeats 4000000 in
theorem rhash13_any (size e t c : Int) (tv lv kv : Value) (tr li : List UInt8) (lk : List (List UInt8)) (w : World) (h1 : HB w tv tr) (h2 : HB w lv li) (h3 : PA w kv lk) :
    Calls Tryd.prog 16 #[.int .i64 size, .agg #[.int .i64 e, .int .i64 t, tv, .int .i64 c, lv, kv]] w fun x w' => ∃ v, x = .returned v ∧ HB w' v (hshF size ⟨e, t, c, tr, li, lk⟩) ∧ Below w.heap.size w w' := by
  have bA := (Below.refl w.heap.size w).alloc (Nat.le_refl _) (.cells #[.int .i64 e, .int .i64 t, tv, .int .i64 c, lv, kv] 25)
  have k1 := h1.later bA
  have k2 := h2.later bA
  have k3 := h3.later bA
  unfold hshF
  by_cases hcan : canB size ⟨e, t, c, tr, li, lk⟩ = true
  · rw [if_pos hcan]
    have hE := rencode_yes size e t c _ _ _ tr li lk _ k1 k2 k3 hcan
    obtain ⟨tp, tc, rfl⟩ := h1.shape
    obtain ⟨lp, lc, rfl⟩ := h2.shape
    obtain ⟨kp, kc, rfl⟩ := h3.shape
    have HH : Hid (∀ v w, PA w v [encL ⟨e, t, c, tr, li, lk⟩] → Calls Tryd.prog 50 #[.int .i64 size, .int .i64 5, v] w fun x w' => ∃ v', x = .returned v' ∧ HB w' v' (hashF size 5 [encL ⟨e, t, c, tr, li, lk⟩]) ∧ Below w.heap.size w w') := fun v w h => (rhash_to size 5 v _ w (by simp) (by omega) h).mono fun x w' ⟨p, c, h1, h2, h3⟩ => ⟨_, h1, h2, h3⟩
    generalize hashF size 5 [encL ⟨e, t, c, tr, li, lk⟩] = D at *
    generalize encL ⟨e, t, c, tr, li, lk⟩ = EN at *
    clear k1 k2 k3 hcan h1 h2 h3
    go_enter Tryd.func16, Tryd.ntmps16
    go_wp2_with fail
    refine hE.mono ?_
    rintro x w1 ⟨v1, rfl, hh1, hb1⟩
    obtain ⟨p1, c1, rfl⟩ := hh1.shape
    have bB := bA.trans (hb1.mono bA.size)
    have bC := (Below.refl w1.heap.size w1).alloc (Nat.le_refl _) (.cells #[.slice p1 EN.length c1] 22)
    have hH := HH.out _ _ (PA.one' w1 _ EN hh1)
    have bD := bB.trans (bC.mono bB.size)
    clear hE hb1 bA hh1 HH bC bB
    go_wp2_with fail
    refine hH.mono ?_
    rintro x w2 ⟨v2, rfl, hh2, hb2⟩
    have bE := bD.trans (hb2.mono bD.size)
    clear hH
    go_wp2
    go_ret
    exact ⟨_, rfl, hh2, bE⟩
  · rw [if_neg hcan]
    have hcan' : canB size ⟨e, t, c, tr, li, lk⟩ = false := by simpa using hcan
    have hE := rencode_no size e t c _ _ _ tr li lk _ k1 k2 k3 hcan'
    obtain ⟨tp, tc, rfl⟩ := h1.shape
    obtain ⟨lp, lc, rfl⟩ := h2.shape
    obtain ⟨kp, kc, rfl⟩ := h3.shape
    clear k1 k2 k3 hcan h1 h2 h3 hcan'
    go_enter Tryd.func16, Tryd.ntmps16
    go_wp2_with fail
    refine hE.mono ?_
    rintro x w1 ⟨rfl, hb1⟩
    have bB := bA.trans (hb1.mono bA.size)
    clear hE
    go_wp2
    go_ret
    exact ⟨_, rfl, HB.nil _, bB⟩

end Go.Proofs.YtgfddabccjfhiaaDoor
