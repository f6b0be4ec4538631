/- What this text proves: the walk of ledger's Write over this program. What this text proves: the walk of ledger's Publish over this program, where it takes the entry. (By program: mklgpub2.py.) -/
import Derived.Test.YtcjcombobcmpgaaDoorJG1
import Derived.Test.YtcjcombobcmpgaaDoorJC2
import Derived.Test.YtcjcombobcmpgaaDoorJA2
import Derived.Lib.SlBytesConst
import Derived.Test.YtcjcombobcmpgaaDoorJL2
import Derived.Test.YtcjcombobcmpgaaDoorJLgRef
namespace Go.Proofs.YtcjcombobcmpgaaDoor
open Go.RowKit

/-- An entry's bytes. -/
def entL (t : Int) (bs : List (List UInt8 × List UInt8)) : List UInt8 := [69] ++ numL (clampN t) ++ wrL bs

set_option maxRecDepth 100000 in
set_option maxHeartbeats 3200000 in
theorem lwrite_any (t : Int) (v : Value) (bs : List (List UInt8 × List UInt8)) (w : World) (hv : BA w v bs) (hb : bulkB bs ≤ 1048576) (hn : bs.length ≤ 40) (hl : ([69] ++ numL (clampN t)).length ≤ 1048576) :
    Calls Tryd.prog 14 #[.agg #[.int .i64 t, v]] w fun x w' => ∃ v', x = .returned v' ∧ w'.ownsRow w.heap.size 5 1 v' (entL t bs).length (bcs (entL t bs)) ∧ Below w.heap.size w w' := by
  obtain ⟨p, c, rfl⟩ := hv.shape
  have b0 := (Below.refl w.heap.size w).alloc (Nat.le_refl _) (.cells #[.int .i64 t, .slice p bs.length c] 24)
  have g0 := heap_alloc_new w (.cells #[.int .i64 t, .slice p bs.length c] 24)
  obtain ⟨V, hV⟩ : ∃ V, w.alloc (.cells #[.int .i64 t, .slice p bs.length c] 24) = V := ⟨_, rfl⟩
  rw [hV] at b0 g0
  have sV : V.heap.size = w.heap.size + 1 := by rw [← hV]; simp
  have e0 : V.cell? ⟨w.heap.size, 0, none⟩ = some (.int .i64 t) := by rw [cell_of_row _ _ _ _ _ _ g0]; rfl
  have e1 : V.cell? ⟨w.heap.size, 1, none⟩ = some (.slice p bs.length c) := by rw [cell_of_row _ _ _ _ _ _ g0]; rfl
  have kc := Lib.run_convert_bytes_const (P := Tryd.prog) V.drew 50 5 #[.int .u8 69] 1 1 Tryd.underlying50 Tryd.underlying5
  have hd : Below V.heap.size V V.drew := (Below.refl _ V).drew
  have bL := (Below.refl _ V.drew).alloc (Nat.le_refl _) (.cells #[.int .u8 69] 5 (1, 2))
  have hlit := HB.litF V.drew 5 [69] #[.int .u8 69] 1 (1, 2) rfl rfl (by unfold maxLen; omega)
  have kc2 : (convert 50 50 (.slice (some ⟨V.heap.size, 0, none⟩) 1 1)).run Tryd.prog (V.alloc (.cells #[.int .u8 69] 5)).drew = .ok (.slice (some ⟨V.heap.size, 0, none⟩) 1 1) (V.alloc (.cells #[.int .u8 69] 5 (1, 2))).drew := by
    exact kc
  obtain ⟨U, hU⟩ : ∃ U, (V.alloc (.cells #[.int .u8 69] 5 (1, 2))).drew = U := ⟨_, rfl⟩
  have bL : Below V.drew.heap.size V.drew U := by rw [← hU]; exact bL
  have hlit : HB U (.slice (some ⟨V.heap.size, 0, none⟩) 1 1) [69] := by rw [← hU]; exact hlit
  rw [hU] at kc2
  have bU := b0.trans ((hd.trans (bL.mono hd.size)).mono b0.size)
  have hvU := hv.later bU
  have hCu := cuint_any (.slice (some ⟨V.heap.size, 0, none⟩) 1 1) [69] t U hlit (by simp)
  obtain ⟨L1, hL1⟩ : ∃ L1, L1 = [69] ++ numL (clampN t) := ⟨_, rfl⟩
  rw [← hL1] at hCu hl
  have hE : entL t bs = L1 ++ wrL bs := by rw [hL1]; rfl
  rw [hE]
  have HS : Hid (∀ W, Below V.heap.size V W → W.cell? ⟨w.heap.size, 0, none⟩ = some (.int .i64 t) ∧ W.cell? ⟨w.heap.size, 1, none⟩ = some (.slice p bs.length c)) := fun W hb => ⟨cell_later hb e0, cell_later hb e1⟩
  have hS0 := HS.out _ hd
  have hS1 := HS.out (V.alloc (.cells #[.int .u8 69] 5)).drew ((Below.refl _ V).alloc (Nat.le_refl _) (.cells #[.int .u8 69] 5)).drew
  have hS2 := HS.out _ (hd.trans (bL.mono hd.size))
  have bVU := hd.trans (bL.mono hd.size)
  clear hlit hE hL1 hv g0 bL kc sV
  have hHeld := hS0
  go_enter Tryd.func14, Tryd.ntmps14
  go_wp2
  refine wp_region_heldN (by kernel_rfl) (fun w' => w'.cell? ⟨w.heap.size, 0, none⟩ = some (.int .i64 t) ∧ w'.cell? ⟨w.heap.size, 1, none⟩ = some (.slice p bs.length c)) 9 rfl ?_
  refine tkY 2 ⟨some 5, .fieldAddr 24 (.tmp 1) 0, 0, "ledger.go:150", #[], none⟩ ?v2z1 hHeld ?y2z1 ?r2z1
  case y2z1 => (intro w hSw; (try dsimp only at hSw); go_simp) <;> with_reducible rfl
  try simp only [Act.put, List.setIfInBounds_toArray, List.set_cons_zero, List.set_cons_succ]
  refine tkY 3 ⟨some 6, .load 3 (.tmp 5), 3, "ledger.go:150", #[⟨2, .data⟩], none⟩ ?v3z2 hHeld ?y3z2 ?r3z2
  case y3z2 => (intro w hSw; (try dsimp only at hSw); go_simp) <;> with_reducible rfl
  try simp only [Act.put, List.setIfInBounds_toArray, List.set_cons_zero, List.set_cons_succ]
  refine tkY 5 ⟨some 8, .fieldAddr 24 (.tmp 1) 1, 0, "ledger.go:150", #[], none⟩ ?v5z3 hHeld ?y5z3 ?r5z3
  case y5z3 => (intro w hSw; (try dsimp only at hSw); go_simp) <;> with_reducible rfl
  try simp only [Act.put, List.setIfInBounds_toArray, List.set_cons_zero, List.set_cons_succ]
  refine tkY 6 ⟨some 9, .load 22 (.tmp 8), 22, "ledger.go:150", #[⟨5, .data⟩], none⟩ ?v6z4 hHeld ?y6z4 ?r6z4
  case y6z4 => (intro w hSw; (try dsimp only at hSw); go_simp) <;> with_reducible rfl
  try simp only [Act.put, List.setIfInBounds_toArray, List.set_cons_zero, List.set_cons_succ]
  refine wpAnyH_ready (rs := [0]) (by kernel_rfl) (by simp) ?_
  refine AllReadyH.cons (o := ⟨some 3, .buildSlice 50 1 #[(0, .const (.int .u8 69))], 50, "ledger.go:150", #[], none⟩) rfl (fun K hK => ?_) AllReadyH.nil
  go_simp
  replace hHeld := hS1
  refine hK.out _ _ ?_ (fun _ => ?_)
  · exact hHeld
  clear hK K
  try simp only [Act.put, List.setIfInBounds_toArray, List.set_cons_zero, List.set_cons_succ]
  refine wpAnyH_ready (rs := [1]) (by kernel_rfl) (by simp) ?_
  refine AllReadyH.cons (o := ⟨some 4, .convert 50 50 (.tmp 3), 50, "ledger.go:150", #[⟨0, .data⟩], none⟩) rfl (fun K hK => ?_) AllReadyH.nil
  go_simp
  replace hHeld := hS2
  refine hK.out _ _ ?_ (fun _ => ?_)
  · exact hHeld
  clear hK K
  try simp only [Act.put, List.setIfInBounds_toArray, List.set_cons_zero, List.set_cons_succ]
  refine wpAnyH_ready (rs := [4]) (by kernel_rfl) (by simp) ?_
  refine AllReadyH.cons (o := ⟨some 7, .call { callee := .value (.func 35), args := #[.tmp 4, .tmp 6], argTypes := #[50, 3] }, 50, "ledger.go:150", #[⟨1, .data⟩, ⟨3, .data⟩], none⟩) rfl (fun K hK => ?_) AllReadyH.nil
  go_simp
  refine hCu.mono ?_
  rintro e w3 ⟨p3, c3, rfl, o3, b3⟩
  have bV3 := bVU.trans (b3.mono bVU.size)
  have hW := cwrite_any _ _ _ bs w3 (HB.of_owns o3) (hvU.later b3) hl hb hn
  replace hHeld := HS.out _ bV3
  refine hK.out _ _ ?_ (fun _ => ?_)
  · exact hHeld
  clear hK K
  try simp only [Act.put, List.setIfInBounds_toArray, List.set_cons_zero, List.set_cons_succ]
  refine wpAnyH_ready (rs := [7]) (by kernel_rfl) (by simp) ?_
  refine AllReadyH.cons (o := ⟨some 10, .call { callee := .value (.func 34), args := #[.tmp 7, .tmp 9], argTypes := #[50, 22] }, 50, "ledger.go:150", #[⟨4, .data⟩, ⟨6, .data⟩, ⟨4, .chain⟩], none⟩) rfl (fun K hK => ?_) AllReadyH.nil
  go_simp
  refine hW.mono ?_
  rintro e w4 ⟨v4, rfl, o4, b4⟩
  replace hHeld := HS.out _ (bV3.trans (b4.mono bV3.size))
  refine hK.out _ _ ?_ (fun _ => ?_)
  · exact hHeld
  clear hK K
  try simp only [Act.put, List.setIfInBounds_toArray, List.set_cons_zero, List.set_cons_succ]
  refine tkY 8 ⟨some 2, .assign (.tmp 10), 50, "ledger.go:150", #[⟨7, .data⟩, ⟨7, .chain⟩, ⟨0, .phase⟩, ⟨1, .phase⟩, ⟨2, .phase⟩, ⟨3, .phase⟩, ⟨4, .phase⟩, ⟨5, .phase⟩, ⟨6, .phase⟩, ⟨7, .phase⟩], none⟩ ?v8z5 hHeld ?y8z5 ?r8z5
  case y8z5 => (intro w hSw; (try dsimp only at hSw); go_simp) <;> with_reducible rfl
  try simp only [Act.put, List.setIfInBounds_toArray, List.set_cons_zero, List.set_cons_succ]
  refine wpAnyH_done (by kernel_rfl) ?_ _
  go_wp2
  go_ret
  exact ⟨_, rfl, owns_mono o4 (Nat.le_trans bU.size b3.size), (bU.trans (b3.mono bU.size)).trans (b4.mono (bU.trans (b3.mono bU.size)).size)⟩

end Go.Proofs.YtcjcombobcmpgaaDoor

namespace Go.Proofs.YtcjcombobcmpgaaDoor
open Go.RowKit

theorem ent_two {w : World} {b : Nat} {t : Int} {u : Value} (g : w.heap[b]? = some (.cells #[.int .i64 t, u] 24 (0, 0))) : w.cell? ⟨b, 0, none⟩ = some (.int .i64 t) ∧ w.cell? ⟨b, 1, none⟩ = some u :=
  ⟨by rw [cell_of_row _ _ _ _ _ _ g]; rfl, by rw [cell_of_row _ _ _ _ _ _ g]; rfl⟩

set_option maxRecDepth 100000 in
set_option maxHeartbeats 8000000 in
theorem lpub_ok {B g gl N kk K : Nat} {s h mi mk ch ar ca pg n c t0 t : Int} {ls : List (List UInt8)} {v : Value} {bs : List (List UInt8 × List UInt8)} {w : World} (H : LS B g gl N kk K s h mi mk ch ar ca pg n c t0 ls w) (hT : Tabs w) (hB : 3 ≤ B) (hBw : B ≤ w.heap.size) (hv : BA w v bs)
    (h0 : 0 ≤ t) (h1 : t ≤ 1125899906842624) (hk : ChkIs mi mk bs 0) (h2 : t0 ≤ t) (hn : 0 ≤ n) (hc : 0 ≤ c) (he : n + 1 < epochsV s h mi mk ch ca pg) (hE : epochsV s h mi mk ch ca pg ≤ 1000) (hq : c + bs.length ≤ ch) (hch : ch ≤ 1000000)
    (hb : bulkB bs ≤ 1048576) (hbn : bs.length ≤ 40) (hl : ([69] ++ numL (clampN t)).length ≤ 1048576) (hL1 : 1 ≤ (entL t bs).length) (hL2 : (entL t bs).length ≤ 4000) (hfit : kk + (tsec (entL t bs).length + 1) ≤ N) (hN : N ≤ 16384) (hls : ls.length ≤ 1000) (hK : K ≤ 1000000) :
    Calls Tryd.prog 4 #[.pointer (some ⟨g, 0, none⟩), .agg #[.int .i64 t, v]] w fun x w' => x = .returned (.int .i64 0) ∧ (∃ kk', kk' = kk + (tsec (entL t bs).length + 1) ∧ LS B g gl N kk' (K + 200) s h mi mk ch ar ca pg (n + 1) (c + bs.length) t (ls ++ [entL t bs]) w') ∧ Below B w w' := by
  obtain ⟨bd, bn, bm, base, cc, cr, pr, st, k1, k2, k3, k4, k5, k6, k7, k8, k9, k10, k11⟩ := H
  obtain ⟨p, cp, rfl⟩ := hv.shape
  have b0 := (Below.refl w.heap.size w).alloc (Nat.le_refl _) (.cells #[.int .i64 t, .slice p bs.length cp] 24)
  have g0 := heap_alloc_new w (.cells #[.int .i64 t, .slice p bs.length cp] 24)
  obtain ⟨V, hV⟩ : ∃ V, w.alloc (.cells #[.int .i64 t, .slice p bs.length cp] 24) = V := ⟨_, rfl⟩
  rw [hV] at b0 g0
  have kV := k1.same (b0.block _ k1.lt)
  have hM := lmiss_no g gl V kV.cells.2.1
  have hR := lref_ok kV (hv.later b0) h0 h1 hk h2 hn hc he hE hq hch
  have ev := ent_two g0
  obtain ⟨ev0, ev1⟩ := ev
  have hn1 : n ≤ 1000000 := by omega
  obtain ⟨L, hL⟩ : ∃ L, L = entL t bs := ⟨_, rfl⟩
  have hWr := fun W (hb' : BA W (.slice p bs.length cp) bs) => lwrite_any t (.slice p bs.length cp) bs W hb' hb hbn hl
  rw [← hL] at hL1 hL2 hfit ⊢
  simp only [← hL] at hWr
  clear hL he hE
  go_enter Tryd.func4, Tryd.ntmps4
  go_wp2_with (first
    | (go_at_call 11; refine hM.mono ?_; rintro e wm ⟨rfl, hwm⟩; have hwm2 := hwm.symm; clear hwm; subst hwm2)
    | (go_at_call 12; refine hR.mono ?_; rintro e w1 ⟨rfl, b1⟩))
  have bD : Below V.heap.size V w1.drew := b1.drew
  have b01 := b0.trans (bD.mono b0.size)
  have kD := k1.same (b01.block _ k1.lt)
  have gD := (bD.block _ (Array.getElem?_eq_some_iff.1 g0).1).trans g0
  have hW := hWr w1.drew (hv.later b01)
  have hHeld : _ ∧ _ ∧ _ := ⟨kD.cells.2.1, ent_two gD⟩
  clear hM hR hWr
  refine wp_region_heldN (by kernel_rfl) (fun w' => w'.cell? ⟨g, 8, none⟩ = some (.pointer (some ⟨gl, 0, none⟩)) ∧ w'.cell? ⟨w.heap.size, 0, none⟩ = some (.int .i64 t) ∧ w'.cell? ⟨w.heap.size, 1, none⟩ = some (.slice p bs.length cp)) 8 rfl ?_
  refine tkY 0 ⟨some 15, .move (.tmp 0), 25, "ledger.go:117", #[], none⟩ ?v0z1 hHeld ?y0z1 ?r0z1
  case y0z1 => (intro w hSw; (try dsimp only at hSw); go_simp) <;> with_reducible rfl
  try simp only [Act.put, List.setIfInBounds_toArray, List.set_cons_zero, List.set_cons_succ]
  refine tkY 1 ⟨some 16, .nilCheck (.tmp 15), 0, "ledger.go:117", #[⟨0, .data⟩], none⟩ ?v1z2 hHeld ?y1z2 ?r1z2
  case y1z2 => (intro w hSw; (try dsimp only at hSw); go_simp) <;> with_reducible rfl
  try simp only [Act.put, List.setIfInBounds_toArray, List.set_cons_zero, List.set_cons_succ]
  refine tkY 2 ⟨some 17, .fieldAddr 32 (.tmp 16) 1, 0, "ledger.go:117", #[⟨1, .data⟩], none⟩ ?v2z3 hHeld ?y2z3 ?r2z3
  case y2z3 => (intro w hSw; (try dsimp only at hSw); go_simp) <;> with_reducible rfl
  try simp only [Act.put, List.setIfInBounds_toArray, List.set_cons_zero, List.set_cons_succ]
  refine tkY 3 ⟨some 18, .load 28 (.tmp 17), 28, "ledger.go:117", #[⟨2, .data⟩], none⟩ ?v3z4 hHeld ?y3z4 ?r3z4
  case y3z4 => (intro w hSw; (try dsimp only at hSw); go_simp) <;> with_reducible rfl
  try simp only [Act.put, List.setIfInBounds_toArray, List.set_cons_zero, List.set_cons_succ]
  refine tkY 4 ⟨some 19, .load 24 (.tmp 3), 24, "ledger.go:117", #[], none⟩ ?v4z5 hHeld ?y4z5 ?r4z5
  case y4z5 => (intro w hSw; (try dsimp only at hSw); go_simp) <;> with_reducible rfl
  try simp only [Act.put, List.setIfInBounds_toArray, List.set_cons_zero, List.set_cons_succ]
  refine wpAnyH_ready (rs := [5]) (by kernel_rfl) (by simp) ?_
  refine AllReadyH.cons (o := ⟨some 20, .call { callee := .value (.func 14), args := #[.tmp 19], argTypes := #[24] }, 50, "ledger.go:117", #[⟨4, .data⟩], none⟩) rfl (fun K hK => ?_) AllReadyH.nil
  go_simp
  refine hW.mono ?_
  rintro e w2 ⟨v2, rfl, o2, b2⟩
  obtain ⟨p2, c2, rfl⟩ := owns_shape o2
  have b02 := b01.trans (b2.mono b01.size)
  have kD2 := k1.same (b02.block _ k1.lt)
  have gD2 := (b2.block _ (Array.getElem?_eq_some_iff.1 gD).1).trans gD
  have l2 := k2.same (b02.block _ k2.lt)
  have r2 := k3.later b02
  have d2 := k6.later b02
  have dl := dev_lt k6
  have s01 := b01.size
  have hvb : ∀ a, p2 = some a → a.block ≠ bd ∧ a.block ≠ bn ∧ a.block ≠ bm := by
    intro a ha
    subst ha
    have := (o2.lt a.block rfl).1
    refine ⟨?_, ?_, ?_⟩ <;> omega
  have hAp := append_log (base := base) l2 r2 (Nat.le_trans k4 b02.size) d2 k7 (hT.later b02) ⟨by omega, by omega, by omega⟩ (HB.of_owns o2) hvb hL1 hL2 hfit hN (by omega) (by omega)
  replace hHeld := (show _ ∧ _ ∧ _ from ⟨kD2.cells.2.1, ent_two gD2⟩)
  refine hK.out _ _ ?_ (fun _ => ?_)
  · exact hHeld
  clear hK K
  try simp only [Act.put, List.setIfInBounds_toArray, List.set_cons_zero, List.set_cons_succ]
  refine wpAnyH_ready (rs := [6]) (by kernel_rfl) (by simp) ?_
  refine AllReadyH.cons (o := ⟨some 21, .call { callee := .value (.func 13), args := #[.tmp 18, .tmp 20], argTypes := #[28, 50] }, 34, "ledger.go:117", #[⟨3, .data⟩, ⟨5, .data⟩, ⟨5, .chain⟩], none⟩) rfl (fun K hK => ?_) AllReadyH.nil
  go_simp
  refine hAp.mono ?_
  rintro e w3 ⟨rfl, s', bm', rs', d3, a3, e3, l3, r3, pt⟩
  obtain ⟨pr3, cr3, rfl⟩ := r3.pa.shape
  obtain ⟨vs2, ho2, _⟩ := id r2
  have kD3 : LG w3 g gl s h mi mk ch ar ca pg n c t0 := sty_putT (T := 32) (by decide) (by decide) (by decide) (by decide) d2 l2 ho2 pt _ _ _ kD2
  have gD3 := sty_putT (T := 24) (by decide) (by decide) (by decide) (by decide) d2 l2 ho2 pt _ _ _ gD2
  replace hHeld := (show _ ∧ _ ∧ _ from ⟨kD3.cells.2.1, ent_two gD3⟩)
  refine hK.out _ _ ?_ (fun _ => ?_)
  · exact hHeld
  clear hK K
  try simp only [Act.put, List.setIfInBounds_toArray, List.set_cons_zero, List.set_cons_succ]
  refine tkY 7 ⟨some 6, .assign (.tmp 21), 34, "ledger.go:117", #[⟨6, .data⟩, ⟨6, .chain⟩, ⟨0, .phase⟩, ⟨1, .phase⟩, ⟨2, .phase⟩, ⟨3, .phase⟩, ⟨4, .phase⟩, ⟨5, .phase⟩, ⟨6, .phase⟩], none⟩ ?v7z6 hHeld ?y7z6 ?r7z6
  case y7z6 => (intro w hSw; (try dsimp only at hSw); go_simp) <;> with_reducible rfl
  try simp only [Act.put, List.setIfInBounds_toArray, List.set_cons_zero, List.set_cons_succ]
  refine wpAnyH_done (by kernel_rfl) ?_ _
  obtain ⟨z8, z0, z1⟩ := hHeld
  have hC := lcount_any (t := t) (p := p) (cp := cp) (N := bs.length) kD3 ⟨hn, hn1⟩ ⟨hc, by omega⟩ (by omega)
  have bB3 : Below B w2 w3 := pt.below (by have := b02.size; omega) (by
    rintro q (e | e | e | e | e)
    · omega
    · omega
    · omega
    · omega
    · have := (ho2.lt q e.symm).1
      omega)
  have bw2 := b02.mono hBw
  have bw3 := bw2.trans bB3
  have s3 := pt.size
  clear hW hAp gD gD2 gD3 o2 hvb ho2 pt kD kD2 l2 r2 d2
  go_wp2_with (first | (go_at_call 15; refine hC.mono ?_; rintro e w4 ⟨rfl, k5', o4⟩))
  go_ret
  obtain ⟨vs3, ho3, _⟩ := id r3
  obtain ⟨d4, l4, t4, q4⟩ := only_lg kD3 o4 d3 l3 ho3
  refine ⟨rfl, ⟨_, rfl, bd, bn, bm', base, cc + 200, cr3, pr3, s', k5', l4, r3.keep t4 q4, ?_, k5, d4, a3, ?_, ⟨k9.1, k9.2.1, ?_⟩, k10, k11⟩, bw3.trans (o4.below k11)⟩
  · have := o4.size
    have := b02.size
    omega
  · omega
  · rcases e3 with e | e
    · omega
    · have := b02.size
      omega

end Go.Proofs.YtcjcombobcmpgaaDoor
