/- What this text proves: the walks of annalslaw12's few and awake over this program. What this text proves: the walk of the statement LedgerBytes over this program: it answers true for any arguments whose bytes are few enough, and writes nothing that was there. (By program: mklblaw.py.) -/
import Derived.Test.YtcdikkgkjjopmaaGreatDoorJB1
import Derived.Lib.SlBytesConst
import Derived.Test.YtcdikkgkjjopmaaGreatDoorJQ1
import Derived.Test.YtcdikkgkjjopmaaGreatDoorJY1
import Derived.Test.YtcdikkgkjjopmaaGreatDoorJZ2
namespace Go.Proofs.YtcdikkgkjjopmaaGreatDoor
open Go.RowKit

theorem run_bfew {P : Program} {t e : TypeId} (ht : P.underlying t = some (.slice e)) (hsz : (P.info? e).map (·.size) = some 2) (p : Option Addr) (n c h : Nat) (y : Int) (hy : y = (h : Int)) (hh : h ≤ c) (w : World) :
    (Instr.slice t (.slice p n c) none (some (.int .i64 y)) none).run P w = .ok (.slice p h c) w := by
  subst hy
  obtain ⟨i, hi, hs⟩ := Option.map_eq_some_iff.1 hsz
  have he : P.elem t = e := by simp [Program.elem, ht]
  rw [run_slice_h w t p n c (by rw [he]; exact ht) .i64 (h : Int) (by omega) (by omega), he]
  cases p <;> simp [Go.sizeOf, typeInfo, hi, hs, sliced, Result.andThen, Addr.add]

theorem BA.nil (w : World) : BA w (.slice none 0 0) [] := ⟨none, 0, rfl, Nat.le_refl _, Nat.zero_le _, fun h => absurd rfl h⟩

theorem BA.lit2 (w : World) (u1 t1 u2 t2 : Value) (a b a' b' : List UInt8) (h1 : HB w u1 a) (h2 : HB w t1 b) (h3 : HB w u2 a') (h4 : HB w t2 b') : BA (w.alloc (.cells #[u1, t1, u2, t2] 62)) (.slice (some ⟨w.heap.size, 0, none⟩) 2 2) [(a, b), (a', b')] := by
  have bA := (Below.refl w.heap.size w).alloc (Nat.le_refl _) (.cells #[u1, t1, u2, t2] 62)
  obtain ⟨p1, c1, rfl⟩ := h1.shape
  obtain ⟨p2, c2, rfl⟩ := h2.shape
  obtain ⟨p3, c3, rfl⟩ := h3.shape
  obtain ⟨p4, c4, rfl⟩ := h4.shape
  have g := heap_alloc_new w (.cells #[.slice p1 a.length c1, .slice p2 b.length c2, .slice p3 a'.length c3, .slice p4 b'.length c4] 62)
  refine ⟨_, 2, rfl, Nat.le_refl _, by decide, fun _ => ⟨_, 0, rfl, fun k x hx => ?_⟩⟩
  match k with
  | 0 =>
    simp at hx
    subst hx
    exact ⟨p1, c1, p2, c2, by rw [cell_of_row _ _ _ _ _ _ g]; rfl, by rw [cell_of_row _ _ _ _ _ _ g]; rfl, h1.later bA, h2.later bA⟩
  | 1 =>
    simp at hx
    subst hx
    exact ⟨p3, c3, p4, c4, by rw [cell_of_row _ _ _ _ _ _ g]; rfl, by rw [cell_of_row _ _ _ _ _ _ g]; rfl, h3.later bA, h4.later bA⟩
  | n + 2 => simp at hx

theorem HB.litB (w : World) (e : TypeId) (l : List UInt8) (cs : Array Value) (n : Nat) (fr : Nat × Nat) (hc : cs = (bcs l).toArray) (hn : n = l.length) (hm : n ≤ maxLen) : HB (w.alloc (.cells cs e fr)) (.slice (some ⟨w.heap.size, 0, none⟩) n n) l := by
  subst hc; subst hn
  refine ⟨_, l.length, rfl, Nat.le_refl _, hm, (fun h => by cases h), fun _ => ⟨_, 0, rfl, fun i x hx => ?_⟩⟩
  rw [Nat.zero_add, cell_of_row _ _ i _ _ _ (heap_alloc_new w _)]
  simp [bcs, hx]

theorem chk_nil (mi mk : Int) : ChkIs mi mk [] 82 := .inl ⟨rfl, rfl⟩
theorem chk_aa : ChkIs 2 2 [([97], []), ([97], [])] 80 := by
  refine .inr (.inr (.inr (.inl ⟨by simp, by simp, ?_, ⟨0, 1, _, _, by omega, by simp, rfl, rfl, rfl⟩, rfl⟩)))
  rintro ⟨x, hx, h⟩
  simp at hx
  subst hx
  simp at h

end Go.Proofs.YtcdikkgkjjopmaaGreatDoor

namespace Go.Proofs.YtcdikkgkjjopmaaGreatDoor
open Go.RowKit

set_option maxRecDepth 100000 in
set_option maxHeartbeats 16000000 in
theorem lbWalk (s h mi mk ch ar ca pg t : Int) (u vb : Value) (bs0 : List (List UInt8 × List UInt8)) (b : List UInt8) (w : World) (hu : BA w u bs0) (hb : HB w vb b) (hbk0 : bulkB bs0 ≤ 1048576) (hbl : b.length ≤ 1048576) (hT : Tabs w) :
    Calls Tryz.prog 3 #[.agg #[.int .i64 s, .int .i64 h, .int .i64 mi, .int .i64 mk, .int .i64 ch, .int .i64 ar, .int .i64 ca, .int .i64 pg], .agg #[.int .i64 t, u], vb] w fun x w' => x = .returned (.bool true) ∧ Below w.heap.size w w' := by
  have hs2 : 2 ≤ w.heap.size := cell_in (hT.2 0 _ rfl)
  obtain ⟨pu, cu, rfl⟩ := hu.shape
  obtain ⟨pb, cb, rfl⟩ := hb.shape
  have hul := hu.len.2
  unfold maxLen at hul
  have b0 := (Below.refl w.heap.size w).alloc (Nat.le_refl _) (.cells #[.int .i64 s, .int .i64 h, .int .i64 mi, .int .i64 mk, .int .i64 ch, .int .i64 ar, .int .i64 ca, .int .i64 pg] 23)
  have g0 := heap_alloc_new w (.cells #[.int .i64 s, .int .i64 h, .int .i64 mi, .int .i64 mk, .int .i64 ch, .int .i64 ar, .int .i64 ca, .int .i64 pg] 23)
  obtain ⟨V, hV⟩ : ∃ V, w.alloc (.cells #[.int .i64 s, .int .i64 h, .int .i64 mi, .int .i64 mk, .int .i64 ch, .int .i64 ar, .int .i64 ca, .int .i64 pg] 23) = V := ⟨_, rfl⟩
  rw [hV] at b0 g0
  have sV : V.heap.size = w.heap.size + 1 := by rw [← hV]; simp
  have b1 := (Below.refl V.heap.size V).alloc (Nat.le_refl _) (.cells #[.int .i64 t, .slice pu bs0.length cu] 26)
  have g1 := heap_alloc_new V (.cells #[.int .i64 t, .slice pu bs0.length cu] 26)
  obtain ⟨U, hU⟩ : ∃ U, V.alloc (.cells #[.int .i64 t, .slice pu bs0.length cu] 26) = U := ⟨_, rfl⟩
  rw [hU] at b1 g1
  rw [sV] at g1
  have bU := b0.trans (b1.mono b0.size)
  have gP := (b1.block _ (by omega)).trans g0
  obtain ⟨m, hm⟩ : ∃ m, m = min bs0.length 40 := ⟨_, rfl⟩
  have hm1 : m ≤ bs0.length := by omega
  have hm2 : m ≤ 40 := by omega
  have km := fun w => run_bfew (P := Tryz.prog) Tryz.underlying24 s_bind pu bs0.length cu m (m : Int) rfl (by omega) w
  have em1 : min (bs0.length : Int) 40 = (m : Int) := by omega
  have em2 : (if (40 : Int) < (bs0.length : Int) then (40 : Int) else (bs0.length : Int)) = (m : Int) := by split <;> omega
  have hBA := (hu.later bU).take m hm1
  obtain ⟨bs, hbs⟩ : ∃ bs, bs = bs0.take m := ⟨_, rfl⟩
  have hbl2 : bs.length = m := by rw [hbs, List.length_take]; omega
  have hbk : bulkB bs ≤ 1048576 := by rw [hbs]; exact Nat.le_trans (bulkB_take bs0 m) hbk0
  rw [← hbs] at hBA
  obtain ⟨z0, z1, y0, y1⟩ := ent_cells g1
  have oX : Only (w.heap.size + 1) U (U.setCell ⟨w.heap.size + 1, 1, none⟩ (.slice pu m cu)) := (Only.refl _ U).setCell 1 _
  have gX : (U.setCell ⟨w.heap.size + 1, 1, none⟩ (.slice pu m cu)).heap[w.heap.size + 1]? = some (.cells #[.int .i64 t, .slice pu m cu] 26 (0, 0)) := by rw [heap_setCell_same U _ 1 _ _ _ g1]; rfl
  have gPX := (oX.block w.heap.size (by omega) (Array.getElem?_eq_some_iff.1 gP).1).trans gP
  have hBX := hBA.onlyE g1 oX
  have hbX := (hb.later bU).onlyE g1 oX
  have bwX := bU.trans (oX.below (B := w.heap.size) (by omega))
  obtain ⟨X, hX⟩ : ∃ X, U.setCell ⟨w.heap.size + 1, 1, none⟩ (.slice pu m cu) = X := ⟨_, rfl⟩
  rw [hX] at gX gPX hBX hbX bwX
  have HC : Hid (∀ W, Below X.heap.size X W → (W.cell? ⟨w.heap.size, 0, none⟩ = some (.int .i64 s) ∧ W.cell? ⟨w.heap.size, 1, none⟩ = some (.int .i64 h) ∧ W.cell? ⟨w.heap.size, 2, none⟩ = some (.int .i64 mi) ∧ W.cell? ⟨w.heap.size, 3, none⟩ = some (.int .i64 mk) ∧ W.cell? ⟨w.heap.size, 4, none⟩ = some (.int .i64 ch) ∧ W.cell? ⟨w.heap.size, 5, none⟩ = some (.int .i64 ar) ∧ W.cell? ⟨w.heap.size, 6, none⟩ = some (.int .i64 ca) ∧ W.cell? ⟨w.heap.size, 7, none⟩ = some (.int .i64 pg)) ∧ W.cell? ⟨w.heap.size + 1, 0, none⟩ = some (.int .i64 t) ∧ W.cell? ⟨w.heap.size + 1, 1, none⟩ = some (.slice pu m cu)) := by
    intro W hW
    have e1 := (hW.block _ (Array.getElem?_eq_some_iff.1 gPX).1).trans gPX
    have e2 := (hW.block _ (Array.getElem?_eq_some_iff.1 gX).1).trans gX
    exact ⟨par_cells e1, (ent_cells e2).1, (ent_cells e2).2.1⟩
  obtain ⟨T1, c1, E1, hP1, hD1, hk1⟩ := lreads_two s h mi mk ch ar ca pg b (by omega)
  have hn9 : (numL (clampN t)).length ≤ 9 := numL_short t
  have hwl : (wrL bs).length ≤ 2000000 := by
    have e1 := binL_len bs hbk
    have e2 := numL_short (bs.length : Int)
    rw [show clampN (bs.length : Int) = bs.length by unfold clampN; omega] at e2
    unfold wrL
    rw [List.length_append]
    omega
  have hLl : (entL t bs).length ≤ 3000000 := by
    unfold entL
    simp only [List.length_append, List.length_cons, List.length_nil]
    omega
  obtain ⟨T2, c2, E2, hP2, hD2, _⟩ := lreads_two s h mi mk ch ar ca pg (entL t bs) (by omega)
  have hW1 := fun W (hB : BA W (.slice pu m cu) bs) => lwrite_any t (.slice pu m cu) bs W hB hbk (by omega) (by simp only [List.length_append, List.length_cons, List.length_nil]; omega)
  have hW2 := fun W (hB : BA W (.slice pu m cu) bs) => rlwrite_any t (.slice pu m cu) bs W hB hbk (by omega) (by simp only [List.length_append, List.length_cons, List.length_nil]; omega)
  have hWx : Hid (E1 = 0 → ∀ v W, BA W v c1 → Calls Tryz.prog 6 #[.agg #[.int .i64 T1, v]] W fun x w' => ∃ v', x = .returned v' ∧ HB w' v' b ∧ Below W.heap.size W w') := by
    intro e v W hB
    obtain ⟨k1, k2, k3, k4⟩ := hk1 e
    refine (lwrite_any T1 v c1 W hB (by omega) (by omega) (by omega)).mono ?_
    rintro x w' ⟨v', e1, o, bb⟩
    rw [k1] at o
    exact ⟨v', e1, HB.of_owns o, bb⟩
  obtain ⟨L, hL⟩ : ∃ L, L = entL t bs := ⟨_, rfl⟩
  rw [← hL] at hP2 hD2
  simp only [← hL] at hW1 hW2
  have HP1 : Hid _ := hP1
  have HD1 : Hid _ := hD1
  have HP2 : Hid _ := hP2
  have HD2 : Hid _ := hD2
  have HW1 : Hid _ := hW1
  have HW2 : Hid _ := hW2
  have HBX : Hid (BA X (.slice pu m cu) bs) := hBX
  have hs3 : 3 ≤ X.heap.size := by have := (Array.getElem?_eq_some_iff.1 gX).1; omega
  have wX := bwX.size
  have H0 := HC.out X (Below.refl _ _)
  obtain ⟨⟨q0, q1, q2, q3, q4, q5, q6, q7⟩, x0, x1⟩ := H0
  clear hP1 hD1 hP2 hD2 hW1 hW2 hk1 hL hLl hwl hn9 hbs hbl2 hbk hBA hBX gX gPX gP g1 g0 b0 b1 bU hu hb hm oX hbk0
  go_enter Tryz.func3, Tryz.ntmps3
  go_wp2_with fail
  refine (HP1.out _ X hbX).mono ?_
  clear q0 q1 q2 q3 q4 q5 q6 q7 x0 x1
  have bXX := Below.refl X.heap.size X
  rintro e w3 ⟨p3, d3, rfl, B3, b3⟩
  have bX3' : Below X.heap.size X w3 := bXX.trans (b3.mono bXX.size)
  have a3 := (Below.refl w3.heap.size w3).alloc (Nat.le_refl _) (.cells #[.int .i64 T1, .slice p3 c1.length d3] 26)
  have gg3 := heap_alloc_new w3 (.cells #[.int .i64 T1, .slice p3 c1.length d3] 26)
  obtain ⟨X3, hX3⟩ : ∃ X3, w3.alloc (.cells #[.int .i64 T1, .slice p3 c1.length d3] 26) = X3 := ⟨_, rfl⟩
  rw [hX3] at a3 gg3
  have bX3 : Below X.heap.size X X3 := bX3'.trans (a3.mono bX3'.size)
  have B3' := B3.later a3
  obtain ⟨⟨q0, q1, q2, q3, q4, q5, q6, q7⟩, x0, x1⟩ := HC.out _ bX3
  clear B3
  go_wp2_with fail
  refine (HD1.out _ X3 (hbX.later bX3)).mono ?_
  clear q0 q1 q2 q3 q4 q5 q6 q7 x0 x1
  rintro e w4 ⟨p4, d4, rfl, B4, b4⟩
  have bX4' : Below X.heap.size X w4 := bX3.trans (b4.mono bX3.size)
  have a4 := (Below.refl w4.heap.size w4).alloc (Nat.le_refl _) (.cells #[.int .i64 T1, .slice p4 c1.length d4] 26)
  have gg4 := heap_alloc_new w4 (.cells #[.int .i64 T1, .slice p4 c1.length d4] 26)
  obtain ⟨X4, hX4⟩ : ∃ X4, w4.alloc (.cells #[.int .i64 T1, .slice p4 c1.length d4] 26) = X4 := ⟨_, rfl⟩
  rw [hX4] at a4 gg4
  have bX4 : Below X.heap.size X X4 := bX4'.trans (a4.mono bX4'.size)
  have B4' := B4.later a4
  obtain ⟨⟨q0, q1, q2, q3, q4, q5, q6, q7⟩, x0, x1⟩ := HC.out _ bX4
  clear B4
  have hWc := HW1.out X4 (HBX.out.later bX4)
  go_wp2_with fail
  refine hWc.mono ?_
  rintro e w5 ⟨v5, rfl, o5, b5⟩
  have bX5 : Below X.heap.size X w5 := bX4.trans (b5.mono bX4.size)
  have h5 := HB.of_owns o5
  obtain ⟨p5, d5, rfl⟩ := owns_shape o5
  clear hWc o5
  clear q0 q1 q2 q3 q4 q5 q6 q7 x0 x1
  obtain ⟨⟨q0, q1, q2, q3, q4, q5, q6, q7⟩, x0, x1⟩ := HC.out _ bX5
  go_wp2_with fail
  refine (HP2.out _ w5 h5).mono ?_
  clear q0 q1 q2 q3 q4 q5 q6 q7 x0 x1
  rintro e w6 ⟨p6, d6, rfl, B6, b6⟩
  have bX6' : Below X.heap.size X w6 := bX5.trans (b6.mono bX5.size)
  have a6 := (Below.refl w6.heap.size w6).alloc (Nat.le_refl _) (.cells #[.int .i64 T2, .slice p6 c2.length d6] 26)
  have gg6 := heap_alloc_new w6 (.cells #[.int .i64 T2, .slice p6 c2.length d6] 26)
  obtain ⟨X6, hX6⟩ : ∃ X6, w6.alloc (.cells #[.int .i64 T2, .slice p6 c2.length d6] 26) = X6 := ⟨_, rfl⟩
  rw [hX6] at a6 gg6
  have bX6 : Below X.heap.size X X6 := bX6'.trans (a6.mono bX6'.size)
  have B6' := B6.later a6
  obtain ⟨⟨q0, q1, q2, q3, q4, q5, q6, q7⟩, x0, x1⟩ := HC.out _ bX6
  clear B6
  have h6 := (h5.later b6).later a6
  go_wp2_with fail
  refine (HD2.out _ X6 h6).mono ?_
  clear q0 q1 q2 q3 q4 q5 q6 q7 x0 x1
  rintro e w7 ⟨p7, d7, rfl, B7, b7⟩
  have bX7' : Below X.heap.size X w7 := bX6.trans (b7.mono bX6.size)
  have a7 := (Below.refl w7.heap.size w7).alloc (Nat.le_refl _) (.cells #[.int .i64 T2, .slice p7 c2.length d7] 26)
  have gg7 := heap_alloc_new w7 (.cells #[.int .i64 T2, .slice p7 c2.length d7] 26)
  obtain ⟨X7, hX7⟩ : ∃ X7, w7.alloc (.cells #[.int .i64 T2, .slice p7 c2.length d7] 26) = X7 := ⟨_, rfl⟩
  rw [hX7] at a7 gg7
  have bX7 : Below X.heap.size X X7 := bX7'.trans (a7.mono bX7'.size)
  have B7' := B7.later a7
  obtain ⟨⟨q0, q1, q2, q3, q4, q5, q6, q7⟩, x0, x1⟩ := HC.out _ bX7
  clear B7
  have b67 : Below X6.heap.size X6 X7 := b7.trans (a7.mono b7.size)
  have b57 : Below w5.heap.size w5 X7 := (b6.trans (a6.mono b6.size)).trans (b67.mono (b6.trans (a6.mono b6.size)).size)
  have b47 : Below X4.heap.size X4 X7 := b5.trans (b57.mono b5.size)
  have b37 : Below X3.heap.size X3 X7 := (b4.trans (a4.mono b4.size)).trans (b47.mono (b4.trans (a4.mono b4.size)).size)
  have g37 := (b37.block _ (Array.getElem?_eq_some_iff.1 gg3).1).trans gg3
  have g47 := (b47.block _ (Array.getElem?_eq_some_iff.1 gg4).1).trans gg4
  have g67 := (b67.block _ (Array.getElem?_eq_some_iff.1 gg6).1).trans gg6
  obtain ⟨i30, i31, _, _⟩ := ent_cells g37
  obtain ⟨i40, i41, _, _⟩ := ent_cells g47
  obtain ⟨i60, i61, _, _⟩ := ent_cells g67
  obtain ⟨i70, i71, _, _⟩ := ent_cells gg7
  have aA := (Below.refl X7.heap.size X7).alloc (Nat.le_refl _) (.cells #[.int .i64 T1, .slice p3 c1.length d3, .int .i64 T2, .slice p6 c2.length d6] 26)
  have gA := heap_alloc_new X7 (.cells #[.int .i64 T1, .slice p3 c1.length d3, .int .i64 T2, .slice p6 c2.length d6] 26)
  obtain ⟨XA, hXA⟩ : ∃ XA, X7.alloc (.cells #[.int .i64 T1, .slice p3 c1.length d3, .int .i64 T2, .slice p6 c2.length d6] 26) = XA := ⟨_, rfl⟩
  rw [hXA] at aA gA
  have g4A := (aA.block _ (Array.getElem?_eq_some_iff.1 g47).1).trans g47
  have g7A := (aA.block _ (Array.getElem?_eq_some_iff.1 gg7).1).trans gg7
  obtain ⟨j40, j41, _, _⟩ := ent_cells g4A
  obtain ⟨j70, j71, _, _⟩ := ent_cells g7A
  have aB := (Below.refl XA.heap.size XA).alloc (Nat.le_refl _) (.cells #[.int .i64 T1, .slice p4 c1.length d4, .int .i64 T2, .slice p7 c2.length d7] 26)
  have gB := heap_alloc_new XA (.cells #[.int .i64 T1, .slice p4 c1.length d4, .int .i64 T2, .slice p7 c2.length d7] 26)
  obtain ⟨XB, hXB⟩ : ∃ XB, XA.alloc (.cells #[.int .i64 T1, .slice p4 c1.length d4, .int .i64 T2, .slice p7 c2.length d7] 26) = XB := ⟨_, rfl⟩
  rw [hXB] at aB gB
  have sA : XA.heap.size = X7.heap.size + 1 := by rw [← hXA]; simp
  have gAB := (aB.block _ (Array.getElem?_eq_some_iff.1 gA).1).trans gA
  have b7B := aA.trans (aB.mono aA.size)
  have bX7B := bX7.trans (b7B.mono bX7.size)
  have hSm := lsame_two gAB gB ((B3'.later b37).later b7B) ((B4'.later b47).later b7B) ((B6'.later b67).later b7B) (B7'.later b7B)
  rw [sA] at hSm
  clear q0 q1 q2 q3 q4 q5 q6 q7 x0 x1
  go_wp2_with fail
  refine hSm.mono ?_
  rintro e w8 ⟨rfl, b8⟩
  have bX8 : Below X.heap.size X w8 := bX7B.trans (b8.mono bX7B.size)
  obtain ⟨_, x0, x1⟩ := HC.out _ bX8
  have hWd := HW2.out w8 (HBX.out.later bX8)
  have h58 := ((h5.later b57).later b7B).later b8
  have g38 := (b8.block _ (by have := (Array.getElem?_eq_some_iff.1 ((b7B.block _ (Array.getElem?_eq_some_iff.1 g37).1).trans g37)).1; exact this)).trans ((b7B.block _ (Array.getElem?_eq_some_iff.1 g37).1).trans g37)
  have B38 := ((B3'.later b37).later b7B).later b8
  clear hSm i30 i31 i40 i41 i60 i61 i70 i71 j40 j41 j70 j71 g47 g67 g4A g7A gA gB gAB aA aB sA hXA hXB gg3 gg4 gg6 gg7
  go_wp2_with fail
  refine hWd.mono ?_
  rintro e w9 ⟨v9, rfl, h9, b9⟩
  obtain ⟨p9, d9, rfl⟩ := h9.shape
  have bX9 : Below X.heap.size X w9 := bX8.trans (b9.mono bX8.size)
  have hE := equal_t _ _ L L w9 (h58.later b9) h9 rfl
  have g39 := (b9.block _ (Array.getElem?_eq_some_iff.1 g38).1).trans g38
  obtain ⟨i30, i31, _, _⟩ := ent_cells g39
  have B39 := B38.later b9
  have bw9 := bwX.trans (bX9.mono wX)
  have hAw := fun W (hW : Below X.heap.size X W) => lgAwake_any W (hT.later (bwX.trans (hW.mono wX))) (Nat.le_trans hs3 hW.size)
  clear hWd
  go_wp2_with fail
  refine hE.mono ?_
  rintro e w9' ⟨rfl, hw9⟩
  subst hw9
  clear hE
  by_cases hE1 : E1 = 0
  · have hWe := hWx.out hE1 _ w9' B39
    subst hE1
    go_wp2_with fail
    refine hWe.mono ?_
    rintro e w10 ⟨v10, rfl, h10, b10⟩
    obtain ⟨p10, d10, rfl⟩ := h10.shape
    have bX10 : Below X.heap.size X w10 := bX9.trans (b10.mono bX9.size)
    have hE := equal_t _ _ b b w10 h10 (hbX.later bX10) rfl
    have hAv := hAw w10 bX10
    clear hWe hAw
    go_wp2_with fail
    refine hE.mono ?_
    rintro e w10' ⟨rfl, hw10⟩
    subst hw10
    clear hE
    go_wp2_with fail
    refine hAv.mono ?_
    rintro e w11 ⟨rfl, b11⟩
    have bX11 := bX10.trans (b11.mono bX10.size)
    go_wp2
    go_ret
    exact ⟨by simp, bwX.trans (bX11.mono wX)⟩
  · have hE2 : (E1 != 0) = true := by simpa using hE1
    have hAv := hAw w9' bX9
    clear hAw
    go_wp2_with fail
    refine hAv.mono ?_
    rintro e w11 ⟨rfl, b11⟩
    have bX11 := bX9.trans (b11.mono bX9.size)
    go_wp2
    go_ret
    exact ⟨by simp, bwX.trans (bX11.mono wX)⟩

end Go.Proofs.YtcdikkgkjjopmaaGreatDoor
