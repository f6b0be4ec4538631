/- What this text proves: the walk of the statement ChangeBytes over this program: it answers true for any arguments whose bytes are few enough, and writes nothing that was there. -/
import Derived.Test.YtnojghdgpglcjaaCRWrite
import Derived.Test.YtnojghdgpglcjaaCRRead
import Derived.Test.YtnojghdgpglcjaaCSame
import Derived.Test.YtnojghdgpglcjaaBAwake
namespace Go.Proofs.Ytnojghdgpglcjaa
open Go.RowKit

set_option maxHeartbeats 8000000 in
theorem chBytesWalk (pa pb mi mk pc pd pe pf : Int) (v u : Value) (b0 : List (List UInt8 × List UInt8)) (b : List UInt8) (w : World) (h : BA w v b0) (hu : HB w u b) (hbk0 : bulkB b0 ≤ 1048576) (hbl : b.length ≤ 1048576) :
    Calls Try.prog 3 #[.agg #[.int .i64 pa, .int .i64 pb, .int .i64 mi, .int .i64 mk, .int .i64 pc, .int .i64 pd, .int .i64 pe, .int .i64 pf], v, u] w fun x w' => x = .returned (.bool true) ∧ Below w.heap.size w w' := by
  have bA := (Below.refl w.heap.size w).alloc (Nat.le_refl _) (.cells #[.int .i64 pa, .int .i64 pb, .int .i64 mi, .int .i64 mk, .int .i64 pc, .int .i64 pd, .int .i64 pe, .int .i64 pf] 23)
  have gA := heap_alloc_new w (.cells #[.int .i64 pa, .int .i64 pb, .int .i64 mi, .int .i64 mk, .int .i64 pc, .int .i64 pd, .int .i64 pe, .int .i64 pf] 23)
  obtain ⟨V, hV⟩ : ∃ V, V = w.alloc (.cells #[.int .i64 pa, .int .i64 pb, .int .i64 mi, .int .i64 mk, .int .i64 pc, .int .i64 pd, .int .i64 pe, .int .i64 pf] 23) := ⟨_, rfl⟩
  rw [← hV] at bA gA
  have hF := bfew_any v b0 V (h.later bA)
  have hbk : bulkB (b0.take 40) ≤ 1048576 := Nat.le_trans (bulkB_take b0 40) hbk0
  have hn40 : (b0.take 40).length ≤ 40 := by simp; omega
  generalize b0.take 40 = bs at *
  have ku := hu.later bA
  obtain ⟨mp, mc, rfl⟩ := hu.shape
  clear h hu
  have hg : w.heap.size < V.heap.size := (Array.getElem?_eq_some_iff.1 gA).1
  have hc0 : ∀ W, Below V.heap.size V W → W.cell? ⟨w.heap.size, 0, none⟩ = some (.int .i64 pa) ∧ W.cell? ⟨w.heap.size, 1, none⟩ = some (.int .i64 pb) ∧ W.cell? ⟨w.heap.size, 2, none⟩ = some (.int .i64 mi) ∧ W.cell? ⟨w.heap.size, 3, none⟩ = some (.int .i64 mk) ∧ W.cell? ⟨w.heap.size, 4, none⟩ = some (.int .i64 pc) ∧ W.cell? ⟨w.heap.size, 5, none⟩ = some (.int .i64 pd) ∧ W.cell? ⟨w.heap.size, 6, none⟩ = some (.int .i64 pe) ∧ W.cell? ⟨w.heap.size, 7, none⟩ = some (.int .i64 pf) := by
    intro W hB
    have g1 := (hB.block _ hg).trans gA
    refine ⟨?_, ?_, ?_, ?_, ?_, ?_, ?_, ?_⟩ <;> (rw [cell_of_row _ _ _ _ _ _ g1]; rfl)
  have HR1 : Hid (∀ v W, HB W v b → Calls Try.prog 7 #[.agg #[.int .i64 pa, .int .i64 pb, .int .i64 mi, .int .i64 mk, .int .i64 pc, .int .i64 pd, .int .i64 pe, .int .i64 pf], v] W (RdTold (crS mi mk b).2.2 (crS mi mk b).1 (crS mi mk b).2.1 W)) := fun v W hh => cread_any pa pb mi mk pc pd pe pf v b W hh (by omega)
  have HR2 : Hid (∀ v W, HB W v b → Calls Try.prog 8 #[.agg #[.int .i64 pa, .int .i64 pb, .int .i64 mi, .int .i64 mk, .int .i64 pc, .int .i64 pd, .int .i64 pe, .int .i64 pf], v] W (RdTold (crS mi mk b).2.2 (crS mi mk b).1 (crS mi mk b).2.1 W)) := fun v W hh => crread_any pa pb mi mk pc pd pe pf v b W hh (by omega)
  unfold RdTold at HR1 HR2
  generalize (if (crS mi mk b).2.2 = 0 then (crS mi mk b).1 else []) = LB at *
  generalize (if (crS mi mk b).2.2 = 0 then (crS mi mk b).2.1 else []) = LR at *
  generalize (crS mi mk b).2.2 = ER at *
  have HW1 : Hid (∀ v u W, HB W v b → BA W u bs → Calls Try.prog 11 #[v, u] W fun x w' => ∃ v', x = .returned v' ∧ HB w' v' (b ++ wrL bs) ∧ Below W.heap.size W w') := fun v u W hh hb => (cwrite_any v u b bs W hh hb hbl hbk hn40).mono fun x w' ⟨v', e, o, bb⟩ => ⟨v', e, HB.of_owns o, bb⟩
  have HW2 : Hid (∀ v u W, HB W v b → BA W u bs → Calls Try.prog 12 #[v, u] W fun x w' => ∃ v', x = .returned v' ∧ HB w' v' (b ++ wrL bs) ∧ Below W.heap.size W w') := fun v u W hh hb => crwrite_any v u b bs W hh hb hbl hbk hn40
  generalize b ++ wrL bs = WR at *
  go_enter Try.func3, Try.ntmps3
  go_wp2_with fail
  rw [← hV]
  refine hF.mono ?_
  rintro x w1 ⟨p1, c1, rfl, k1, hw⟩
  have hw2 := hw.symm
  clear hw hF hV
  subst hw2
  have hK := clone_any _ b V ku (by omega)
  go_wp2_with fail
  refine hK.mono ?_
  rintro x w2 ⟨gp, gc, rfl, hgi, b2⟩
  obtain ⟨a0, a1, a2, a3, a4, a5, a6, a7⟩ := hc0 w2 b2
  clear hK
  go_wp2_with fail
  refine (HR1.out _ _ hgi).mono ?_
  rintro x w3 ⟨u3, v3, rfl, B3, H3, b3'⟩
  have b3 := b2.trans (b3'.mono b2.size)
  have hgi3 := hgi.later b3'
  clear a0 a1 a2 a3 a4 a5 a6 a7 b2 hgi HR1
  obtain ⟨a0, a1, a2, a3, a4, a5, a6, a7⟩ := hc0 w3 b3
  go_wp2_with fail
  refine (HR2.out _ _ (ku.later b3)).mono ?_
  rintro x w4 ⟨u4, v4, rfl, B4, H4, b4'⟩
  have b4 := b3.trans (b4'.mono b3.size)
  have hgi4 := hgi3.later b4'
  have B34 := B3.later b4'
  have H34 := H3.later b4'
  clear a0 a1 a2 a3 a4 a5 a6 a7 b3 hgi3 HR2 B3 H3 b4' b3'
  go_wp2_with fail
  refine (csame_true _ _ LB w4 B34 B4).mono ?_
  rintro x w5 ⟨rfl, b5'⟩
  have b5 := b4.trans (b5'.mono b4.size)
  have hE := equal_t _ _ LR LR w5 (H34.later b5') (H4.later b5') rfl
  have hgi5 := hgi4.later b5'
  clear B34 B4 H34 H4 hgi4 b4 b5'
  go_wp2_with fail
  refine hE.mono ?_
  rintro x w6 ⟨rfl, hw6⟩
  subst hw6
  clear hE
  go_wp2_with fail
  refine (HW1.out _ _ _ hgi5 (k1.later b5)).mono ?_
  rintro x w7 ⟨v7, rfl, H7, b7'⟩
  have b7 := b5.trans (b7'.mono b5.size)
  have hgi7 := hgi5.later b7'
  clear HW1 hgi5 b5 b7'
  go_wp2_with fail
  refine (HW2.out _ _ _ (ku.later b7) (k1.later b7)).mono ?_
  rintro x w8 ⟨v8, rfl, H8, b8'⟩
  have b8 := b7.trans (b8'.mono b7.size)
  have hgi8 := hgi7.later b8'
  have hE := equal_t _ _ WR WR w8 (H7.later b8') H8 rfl
  clear HW2 hgi7 b7 b8' H7 H8
  go_wp2_with fail
  refine hE.mono ?_
  rintro x w9 ⟨rfl, hw9⟩
  subst hw9
  clear hE
  have hE := equal_t _ _ b b _ hgi8 (ku.later b8) rfl
  go_wp2_with fail
  refine hE.mono ?_
  rintro x w10 ⟨rfl, hw10⟩
  subst hw10
  clear hE hgi8
  go_wp2_with fail
  refine (bawake_any _).mono ?_
  rintro x w11 ⟨rfl, b11⟩
  have bF := bA.trans ((b8.trans (b11.mono b8.size)).mono bA.size)
  go_wp2
  go_ret
  exact ⟨rfl, bF⟩

end Go.Proofs.Ytnojghdgpglcjaa
