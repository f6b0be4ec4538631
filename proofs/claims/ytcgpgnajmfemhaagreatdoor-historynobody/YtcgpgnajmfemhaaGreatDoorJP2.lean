/- What this text proves: the walk of ledger's refuses over this program, where it refuses nothing. (By program: mklgpub.py.) What this text proves: the walk of ledger's Write over this program. What this text proves: the walk of ledger's Publish over this program, where it takes the entry. (By program: mklgpub2.py.) -/
import Derived.Test.YtcgpgnajmfemhaaGreatDoorJG1
import Derived.Test.YtcgpgnajmfemhaaGreatDoorJQ1
import Derived.Test.YtcgpgnajmfemhaaGreatDoorJC2
import Derived.Test.YtcgpgnajmfemhaaGreatDoorJE5
import Derived.Lib.SlBytesConst
import Derived.Test.YtcgpgnajmfemhaaGreatDoorJL2
namespace Go.Proofs.YtcgpgnajmfemhaaGreatDoor
open Go.RowKit

set_option maxRecDepth 100000 in
set_option maxHeartbeats 4000000 in
theorem lref_ok {g gl : Nat} {s h mi mk ch ar ca pg n c t0 t : Int} {v : Value} {bs : List (List UInt8 × List UInt8)} {w : World} (k : LG w g gl s h mi mk ch ar ca pg n c t0) (hv : BA w v bs) (h0 : 0 ≤ t) (h1 : t ≤ 1125899906842624) (hk : ChkIs mi mk bs 0) (h2 : t0 ≤ t) (hn : 0 ≤ n) (hc : 0 ≤ c) (he : n + 1 < epochsV s h mi mk ch ca pg) (hE : epochsV s h mi mk ch ca pg ≤ 1000) (hq : c + bs.length ≤ ch) (hch : ch ≤ 1000000) :
    Calls Tryz.prog 46 #[.pointer (some ⟨g, 0, none⟩), .agg #[.int .i64 t, v]] w fun x w' => x = .returned (.int .i64 0) ∧ Below w.heap.size w w' := by
  obtain ⟨p, cp, rfl⟩ := hv.shape
  have b0 := (Below.refl w.heap.size w).alloc (Nat.le_refl _) (.cells #[.int .i64 t, .slice p bs.length cp] 66)
  have g0 := heap_alloc_new w (.cells #[.int .i64 t, .slice p bs.length cp] 66)
  obtain ⟨V, hV⟩ : ∃ V, w.alloc (.cells #[.int .i64 t, .slice p bs.length cp] 66) = V := ⟨_, rfl⟩
  rw [hV] at b0 g0
  have kV := k.same (b0.block _ k.lt)
  have HS : Hid (∀ W, Below V.heap.size V W → W.cell? ⟨g, 0, none⟩ = some (.int .i64 s) ∧ W.cell? ⟨g, 1, none⟩ = some (.int .i64 h) ∧ W.cell? ⟨g, 2, none⟩ = some (.int .i64 mi) ∧ W.cell? ⟨g, 3, none⟩ = some (.int .i64 mk) ∧ W.cell? ⟨g, 4, none⟩ = some (.int .i64 ch) ∧ W.cell? ⟨g, 5, none⟩ = some (.int .i64 ar) ∧ W.cell? ⟨g, 6, none⟩ = some (.int .i64 ca) ∧ W.cell? ⟨g, 7, none⟩ = some (.int .i64 pg) ∧ W.cell? ⟨g, 9, none⟩ = some (.int .i64 n) ∧ W.cell? ⟨g, 10, none⟩ = some (.int .i64 c) ∧ W.cell? ⟨g, 11, none⟩ = some (.int .i64 t0) ∧ W.cell? ⟨w.heap.size, 0, none⟩ = some (.int .i64 t) ∧ W.cell? ⟨w.heap.size, 1, none⟩ = some (.slice p bs.length cp)) := by
    intro W hb
    obtain ⟨⟨a0, a1, a2, a3, a4, a5, a6, a7⟩, _, a9, a10, a11⟩ := (kV.same (hb.block _ kV.lt)).cells
    have gW := (hb.block _ (Array.getElem?_eq_some_iff.1 g0).1).trans g0
    exact ⟨a0, a1, a2, a3, a4, a5, a6, a7, a9, a10, a11, by rw [cell_of_row _ _ _ _ _ _ gW]; rfl, by rw [cell_of_row _ _ _ _ _ _ gW]; rfl⟩
  have bD := (Below.refl V.heap.size V).drew
  have hM := lmay_any s h mi mk ch ar ca pg t _ bs V.drew ((hv.later b0).later bD)
  have hHeld := HS.out _ bD
  have h2' : ¬ t < t0 := by omega
  have hEp := fun W => epochs_any s h mi mk ch ar ca pg W
  generalize epochsV s h mi mk ch ca pg = EV at *
  have hw1 : IntKind.i64.wrap (n + 1) = n + 1 := wrapZ _ (by omega) (by omega)
  have hw2 : IntKind.i64.wrap (c + (bs.length : Int)) = c + (bs.length : Int) := wrapZ _ (by omega) (by omega)
  have h3' : ¬ EV ≤ n + 1 := by omega
  have h4' : ¬ ch < c + (bs.length : Int) := by omega
  have h3d : decide (EV ≤ n + 1) = false := decide_eq_false h3'
  have h4d : decide (ch < c + (bs.length : Int)) = false := decide_eq_false h4'
  clear k kV hv g0
  go_enter Tryz.func46, Tryz.ntmps46
  go_wp2
  refine wp_region_heldN (by kernel_rfl) (fun w' => w'.cell? ⟨g, 0, none⟩ = some (.int .i64 s) ∧ w'.cell? ⟨g, 1, none⟩ = some (.int .i64 h) ∧ w'.cell? ⟨g, 2, none⟩ = some (.int .i64 mi) ∧ w'.cell? ⟨g, 3, none⟩ = some (.int .i64 mk) ∧ w'.cell? ⟨g, 4, none⟩ = some (.int .i64 ch) ∧ w'.cell? ⟨g, 5, none⟩ = some (.int .i64 ar) ∧ w'.cell? ⟨g, 6, none⟩ = some (.int .i64 ca) ∧ w'.cell? ⟨g, 7, none⟩ = some (.int .i64 pg) ∧ w'.cell? ⟨g, 9, none⟩ = some (.int .i64 n) ∧ w'.cell? ⟨g, 10, none⟩ = some (.int .i64 c) ∧ w'.cell? ⟨g, 11, none⟩ = some (.int .i64 t0) ∧ w'.cell? ⟨w.heap.size, 0, none⟩ = some (.int .i64 t) ∧ w'.cell? ⟨w.heap.size, 1, none⟩ = some (.slice p bs.length cp)) 17 rfl ?_
  refine tkY 0 ⟨some 5, .move (.tmp 0), 26, "ledger.go:84", #[], none⟩ ?v0z1 hHeld ?y0z1 ?r0z1
  case y0z1 => (intro w hSw; (try dsimp only at hSw); go_simp) <;> with_reducible rfl
  try simp only [Act.put, List.setIfInBounds_toArray, List.set_cons_zero, List.set_cons_succ]
  refine tkY 1 ⟨some 6, .nilCheck (.tmp 5), 0, "ledger.go:84", #[⟨0, .data⟩], none⟩ ?v1z2 hHeld ?y1z2 ?r1z2
  case y1z2 => (intro w hSw; (try dsimp only at hSw); go_simp) <;> with_reducible rfl
  try simp only [Act.put, List.setIfInBounds_toArray, List.set_cons_zero, List.set_cons_succ]
  refine tkY 2 ⟨some 7, .fieldAddr 97 (.tmp 6) 0, 0, "ledger.go:84", #[⟨1, .data⟩], none⟩ ?v2z3 hHeld ?y2z3 ?r2z3
  case y2z3 => (intro w hSw; (try dsimp only at hSw); go_simp) <;> with_reducible rfl
  try simp only [Act.put, List.setIfInBounds_toArray, List.set_cons_zero, List.set_cons_succ]
  refine tkY 3 ⟨some 8, .load 25 (.tmp 7), 25, "ledger.go:84", #[⟨2, .data⟩], none⟩ ?v3z4 hHeld ?y3z4 ?r3z4
  case y3z4 => (intro w hSw; (try dsimp only at hSw); go_simp) <;> with_reducible rfl
  try simp only [Act.put, List.setIfInBounds_toArray, List.set_cons_zero, List.set_cons_succ]
  refine tkY 4 ⟨some 9, .load 66 (.tmp 3), 66, "ledger.go:84", #[], none⟩ ?v4z5 hHeld ?y4z5 ?r4z5
  case y4z5 => (intro w hSw; (try dsimp only at hSw); go_simp) <;> with_reducible rfl
  try simp only [Act.put, List.setIfInBounds_toArray, List.set_cons_zero, List.set_cons_succ]
  refine wpAnyH_ready (rs := [5]) (by kernel_rfl) (by simp) ?_
  refine AllReadyH.cons (o := ⟨some 10, .call { callee := .value (.func 79), args := #[.tmp 8, .tmp 9], argTypes := #[25, 66] }, 4, "ledger.go:84", #[⟨3, .data⟩, ⟨4, .data⟩], none⟩) rfl (fun K hK => ?_) AllReadyH.nil
  go_simp
  refine hM.mono ?_
  rintro e w1 ⟨bb, rfl, hbb, c1⟩
  obtain rfl : bb = true := hbb.2 ⟨h0, h1, hk⟩
  clear hbb
  have b1 := bD.trans (c1.mono bD.size)
  replace hHeld := HS.out _ b1
  refine hK.out _ _ ?_ (fun _ => ?_)
  · exact hHeld
  clear hK K
  try simp only [Act.put, List.setIfInBounds_toArray, List.set_cons_zero, List.set_cons_succ]
  refine tkY 6 ⟨some 11, .unOp .not 4 (.tmp 10), 4, "ledger.go:84", #[⟨5, .data⟩], none⟩ ?v6z6 hHeld ?y6z6 ?r6z6
  case y6z6 => (intro w hSw; (try dsimp only at hSw); go_simp) <;> with_reducible rfl
  try simp only [Act.put, List.setIfInBounds_toArray, List.set_cons_zero, List.set_cons_succ]
  refine tkY 7 ⟨some 12, .move (.tmp 11), 4, "ledger.go:84", #[⟨6, .data⟩, ⟨5, .chain⟩], none⟩ ?v7z7 hHeld ?y7z7 ?r7z7
  case y7z7 => (intro w hSw; (try dsimp only at hSw); go_simp) <;> with_reducible rfl
  try simp only [Act.put, List.setIfInBounds_toArray, List.set_cons_zero, List.set_cons_succ]
  refine tkY 8 ⟨some 13, .fieldAddr 66 (.tmp 3) 0, 0, "ledger.go:84", #[⟨7, .guard⟩], some (7, false)⟩ ?v8z8 hHeld ?y8z8 ?r8z8
  case y8z8 => (intro w hSw; (try dsimp only at hSw); go_simp) <;> with_reducible rfl
  try simp only [Act.put, List.setIfInBounds_toArray, List.set_cons_zero, List.set_cons_succ]
  refine tkY 9 ⟨some 14, .load 3 (.tmp 13), 3, "ledger.go:84", #[⟨8, .data⟩, ⟨7, .guard⟩], some (7, false)⟩ ?v9z9 hHeld ?y9z9 ?r9z9
  case y9z9 => (intro w hSw; (try dsimp only at hSw); go_simp) <;> with_reducible rfl
  try simp only [Act.put, List.setIfInBounds_toArray, List.set_cons_zero, List.set_cons_succ]
  refine tkY 10 ⟨some 15, .move (.tmp 0), 26, "ledger.go:84", #[⟨7, .guard⟩], some (7, false)⟩ ?v10z10 hHeld ?y10z10 ?r10z10
  case y10z10 => (intro w hSw; (try dsimp only at hSw); go_simp) <;> with_reducible rfl
  try simp only [Act.put, List.setIfInBounds_toArray, List.set_cons_zero, List.set_cons_succ]
  refine tkY 11 ⟨some 16, .nilCheck (.tmp 15), 0, "ledger.go:84", #[⟨10, .data⟩, ⟨7, .guard⟩], some (7, false)⟩ ?v11z11 hHeld ?y11z11 ?r11z11
  case y11z11 => (intro w hSw; (try dsimp only at hSw); go_simp) <;> with_reducible rfl
  try simp only [Act.put, List.setIfInBounds_toArray, List.set_cons_zero, List.set_cons_succ]
  refine tkY 12 ⟨some 17, .fieldAddr 97 (.tmp 16) 2, 0, "ledger.go:84", #[⟨11, .data⟩, ⟨7, .guard⟩], some (7, false)⟩ ?v12z12 hHeld ?y12z12 ?r12z12
  case y12z12 => (intro w hSw; (try dsimp only at hSw); go_simp) <;> with_reducible rfl
  try simp only [Act.put, List.setIfInBounds_toArray, List.set_cons_zero, List.set_cons_succ]
  refine tkY 13 ⟨some 18, .fieldAddr 95 (.tmp 17) 2, 0, "ledger.go:84", #[⟨12, .data⟩, ⟨7, .guard⟩], some (7, false)⟩ ?v13z13 hHeld ?y13z13 ?r13z13
  case y13z13 => (intro w hSw; (try dsimp only at hSw); go_simp) <;> with_reducible rfl
  try simp only [Act.put, List.setIfInBounds_toArray, List.set_cons_zero, List.set_cons_succ]
  refine tkY 14 ⟨some 19, .load 3 (.tmp 18), 3, "ledger.go:84", #[⟨13, .data⟩, ⟨7, .guard⟩], some (7, false)⟩ ?v14z14 hHeld ?y14z14 ?r14z14
  case y14z14 => (intro w hSw; (try dsimp only at hSw); go_simp) <;> with_reducible rfl
  try simp only [Act.put, List.setIfInBounds_toArray, List.set_cons_zero, List.set_cons_succ]
  refine tkY 15 ⟨some 20, .binOp .lss 3 (.tmp 14) (.tmp 19) 3, 4, "ledger.go:84", #[⟨9, .data⟩, ⟨14, .data⟩, ⟨7, .guard⟩], some (7, false)⟩ ?v15z15 hHeld ?y15z15 ?r15z15
  case y15z15 => (intro w hSw; (try dsimp only at hSw); go_simp) <;> with_reducible rfl
  try simp only [Act.put, List.setIfInBounds_toArray, List.set_cons_zero, List.set_cons_succ]
  refine tkY 16 ⟨some 21, .pick (.tmp 12) (.const (.bool true)) (.tmp 20), 4, "ledger.go:84", #[⟨7, .data⟩, ⟨15, .data⟩], none⟩ ?v16z16 hHeld ?y16z16 ?r16z16
  case y16z16 => (intro w hSw; (try dsimp only at hSw); go_simp) <;> with_reducible rfl
  try simp only [Act.put, List.setIfInBounds_toArray, List.set_cons_zero, List.set_cons_succ]
  refine wpAnyH_done (by kernel_rfl) ?_ _
  go_wp2
  have b1d := b1.trans (((Below.refl w1.heap.size w1).drew).mono b1.size)
  replace hHeld := HS.out _ b1d
  refine wp_region_heldN (by kernel_rfl) (fun w' => w'.cell? ⟨g, 0, none⟩ = some (.int .i64 s) ∧ w'.cell? ⟨g, 1, none⟩ = some (.int .i64 h) ∧ w'.cell? ⟨g, 2, none⟩ = some (.int .i64 mi) ∧ w'.cell? ⟨g, 3, none⟩ = some (.int .i64 mk) ∧ w'.cell? ⟨g, 4, none⟩ = some (.int .i64 ch) ∧ w'.cell? ⟨g, 5, none⟩ = some (.int .i64 ar) ∧ w'.cell? ⟨g, 6, none⟩ = some (.int .i64 ca) ∧ w'.cell? ⟨g, 7, none⟩ = some (.int .i64 pg) ∧ w'.cell? ⟨g, 9, none⟩ = some (.int .i64 n) ∧ w'.cell? ⟨g, 10, none⟩ = some (.int .i64 c) ∧ w'.cell? ⟨g, 11, none⟩ = some (.int .i64 t0) ∧ w'.cell? ⟨w.heap.size, 0, none⟩ = some (.int .i64 t) ∧ w'.cell? ⟨w.heap.size, 1, none⟩ = some (.slice p bs.length cp)) 29 rfl ?_
  refine tkY 0 ⟨some 22, .move (.tmp 0), 26, "ledger.go:88", #[], none⟩ ?v0z17 hHeld ?y0z17 ?r0z17
  case y0z17 => (intro w hSw; (try dsimp only at hSw); go_simp) <;> with_reducible rfl
  try simp only [Act.put, List.setIfInBounds_toArray, List.set_cons_zero, List.set_cons_succ]
  refine tkY 1 ⟨some 23, .nilCheck (.tmp 22), 0, "ledger.go:88", #[⟨0, .data⟩], none⟩ ?v1z18 hHeld ?y1z18 ?r1z18
  case y1z18 => (intro w hSw; (try dsimp only at hSw); go_simp) <;> with_reducible rfl
  try simp only [Act.put, List.setIfInBounds_toArray, List.set_cons_zero, List.set_cons_succ]
  refine tkY 2 ⟨some 24, .fieldAddr 97 (.tmp 23) 2, 0, "ledger.go:88", #[⟨1, .data⟩], none⟩ ?v2z19 hHeld ?y2z19 ?r2z19
  case y2z19 => (intro w hSw; (try dsimp only at hSw); go_simp) <;> with_reducible rfl
  try simp only [Act.put, List.setIfInBounds_toArray, List.set_cons_zero, List.set_cons_succ]
  refine tkY 3 ⟨some 25, .fieldAddr 95 (.tmp 24) 0, 0, "ledger.go:88", #[⟨2, .data⟩], none⟩ ?v3z20 hHeld ?y3z20 ?r3z20
  case y3z20 => (intro w hSw; (try dsimp only at hSw); go_simp) <;> with_reducible rfl
  try simp only [Act.put, List.setIfInBounds_toArray, List.set_cons_zero, List.set_cons_succ]
  refine tkY 4 ⟨some 26, .load 3 (.tmp 25), 3, "ledger.go:88", #[⟨3, .data⟩], none⟩ ?v4z21 hHeld ?y4z21 ?r4z21
  case y4z21 => (intro w hSw; (try dsimp only at hSw); go_simp) <;> with_reducible rfl
  try simp only [Act.put, List.setIfInBounds_toArray, List.set_cons_zero, List.set_cons_succ]
  refine tkY 5 ⟨some 27, .binOp .add 3 (.tmp 26) (.const (.int .i64 1)) 3, 3, "ledger.go:88", #[⟨4, .data⟩], none⟩ ?v5z22 hHeld ?y5z22 ?r5z22
  case y5z22 => (intro w hSw; (try dsimp only at hSw); go_simp) <;> with_reducible rfl
  try simp only [Act.put, List.setIfInBounds_toArray, List.set_cons_zero, List.set_cons_succ]
  refine tkY 6 ⟨some 28, .move (.tmp 0), 26, "ledger.go:88", #[], none⟩ ?v6z23 hHeld ?y6z23 ?r6z23
  case y6z23 => (intro w hSw; (try dsimp only at hSw); go_simp) <;> with_reducible rfl
  try simp only [Act.put, List.setIfInBounds_toArray, List.set_cons_zero, List.set_cons_succ]
  refine tkY 7 ⟨some 29, .nilCheck (.tmp 28), 0, "ledger.go:88", #[⟨6, .data⟩], none⟩ ?v7z24 hHeld ?y7z24 ?r7z24
  case y7z24 => (intro w hSw; (try dsimp only at hSw); go_simp) <;> with_reducible rfl
  try simp only [Act.put, List.setIfInBounds_toArray, List.set_cons_zero, List.set_cons_succ]
  refine tkY 8 ⟨some 30, .fieldAddr 97 (.tmp 29) 0, 0, "ledger.go:88", #[⟨7, .data⟩], none⟩ ?v8z25 hHeld ?y8z25 ?r8z25
  case y8z25 => (intro w hSw; (try dsimp only at hSw); go_simp) <;> with_reducible rfl
  try simp only [Act.put, List.setIfInBounds_toArray, List.set_cons_zero, List.set_cons_succ]
  refine tkY 9 ⟨some 31, .load 25 (.tmp 30), 25, "ledger.go:88", #[⟨8, .data⟩], none⟩ ?v9z26 hHeld ?y9z26 ?r9z26
  case y9z26 => (intro w hSw; (try dsimp only at hSw); go_simp) <;> with_reducible rfl
  try simp only [Act.put, List.setIfInBounds_toArray, List.set_cons_zero, List.set_cons_succ]
  refine wpAnyH_ready (rs := [10]) (by kernel_rfl) (by simp) ?_
  refine AllReadyH.cons (o := ⟨some 32, .call { callee := .value (.func 80), args := #[.tmp 31], argTypes := #[25] }, 3, "ledger.go:88", #[⟨9, .data⟩], none⟩) rfl (fun K hK => ?_) AllReadyH.nil
  go_simp
  refine (hEp _).mono ?_
  rintro e w2 ⟨rfl, c2⟩
  have b2 := b1d.trans (c2.mono b1d.size)
  replace hHeld := HS.out _ b2
  refine hK.out _ _ ?_ (fun _ => ?_)
  · exact hHeld
  clear hK K
  try simp only [Act.put, List.setIfInBounds_toArray, List.set_cons_zero, List.set_cons_succ]
  refine tkY 11 ⟨some 33, .binOp .geq 3 (.tmp 27) (.tmp 32) 3, 4, "ledger.go:88", #[⟨5, .data⟩, ⟨10, .data⟩], none⟩ ?v11z27 hHeld ?y11z27 ?r11z27
  case y11z27 => (intro w hSw; (try dsimp only at hSw); go_simp) <;> with_reducible rfl
  try simp only [Act.put, List.setIfInBounds_toArray, List.set_cons_zero, List.set_cons_succ]
  refine tkY 12 ⟨some 34, .move (.tmp 33), 4, "ledger.go:88", #[⟨11, .data⟩, ⟨10, .chain⟩], none⟩ ?v12z28 hHeld ?y12z28 ?r12z28
  case y12z28 => (intro w hSw; (try dsimp only at hSw); go_simp) <;> with_reducible rfl
  try simp only [Act.put, List.setIfInBounds_toArray, List.set_cons_zero, List.set_cons_succ]
  refine tkY 13 ⟨some 35, .move (.tmp 0), 26, "ledger.go:88", #[⟨12, .guard⟩], some (12, false)⟩ ?v13z29 hHeld ?y13z29 ?r13z29
  case y13z29 => (intro w hSw; (try dsimp only at hSw); go_simp) <;> with_reducible rfl
  try simp only [Act.put, List.setIfInBounds_toArray, List.set_cons_zero, List.set_cons_succ]
  refine tkY 14 ⟨some 36, .nilCheck (.tmp 35), 0, "ledger.go:88", #[⟨13, .data⟩, ⟨12, .guard⟩], some (12, false)⟩ ?v14z30 hHeld ?y14z30 ?r14z30
  case y14z30 => (intro w hSw; (try dsimp only at hSw); go_simp) <;> with_reducible rfl
  try simp only [Act.put, List.setIfInBounds_toArray, List.set_cons_zero, List.set_cons_succ]
  refine tkY 15 ⟨some 37, .fieldAddr 97 (.tmp 36) 2, 0, "ledger.go:88", #[⟨14, .data⟩, ⟨12, .guard⟩], some (12, false)⟩ ?v15z31 hHeld ?y15z31 ?r15z31
  case y15z31 => (intro w hSw; (try dsimp only at hSw); go_simp) <;> with_reducible rfl
  try simp only [Act.put, List.setIfInBounds_toArray, List.set_cons_zero, List.set_cons_succ]
  refine tkY 16 ⟨some 38, .fieldAddr 95 (.tmp 37) 1, 0, "ledger.go:88", #[⟨15, .data⟩, ⟨12, .guard⟩], some (12, false)⟩ ?v16z32 hHeld ?y16z32 ?r16z32
  case y16z32 => (intro w hSw; (try dsimp only at hSw); go_simp) <;> with_reducible rfl
  try simp only [Act.put, List.setIfInBounds_toArray, List.set_cons_zero, List.set_cons_succ]
  refine tkY 17 ⟨some 39, .load 3 (.tmp 38), 3, "ledger.go:88", #[⟨16, .data⟩, ⟨12, .guard⟩], some (12, false)⟩ ?v17z33 hHeld ?y17z33 ?r17z33
  case y17z33 => (intro w hSw; (try dsimp only at hSw); go_simp) <;> with_reducible rfl
  try simp only [Act.put, List.setIfInBounds_toArray, List.set_cons_zero, List.set_cons_succ]
  refine tkY 18 ⟨some 40, .fieldAddr 66 (.tmp 3) 1, 0, "ledger.go:88", #[⟨12, .guard⟩], some (12, false)⟩ ?v18z34 hHeld ?y18z34 ?r18z34
  case y18z34 => (intro w hSw; (try dsimp only at hSw); go_simp) <;> with_reducible rfl
  try simp only [Act.put, List.setIfInBounds_toArray, List.set_cons_zero, List.set_cons_succ]
  refine tkY 19 ⟨some 41, .load 22 (.tmp 40), 22, "ledger.go:88", #[⟨18, .data⟩, ⟨12, .guard⟩], some (12, false)⟩ ?v19z35 hHeld ?y19z35 ?r19z35
  case y19z35 => (intro w hSw; (try dsimp only at hSw); go_simp) <;> with_reducible rfl
  try simp only [Act.put, List.setIfInBounds_toArray, List.set_cons_zero, List.set_cons_succ]
  refine tkY 20 ⟨some 42, .call { callee := .builtin .len, args := #[.tmp 41], argTypes := #[22] }, 3, "ledger.go:88", #[⟨19, .data⟩, ⟨12, .guard⟩], some (12, false)⟩ ?v20z36 hHeld ?y20z36 ?r20z36
  case y20z36 => (intro w hSw; (try dsimp only at hSw); go_simp) <;> with_reducible rfl
  try simp only [Act.put, List.setIfInBounds_toArray, List.set_cons_zero, List.set_cons_succ]
  refine tkY 21 ⟨some 43, .binOp .add 3 (.tmp 39) (.tmp 42) 3, 3, "ledger.go:88", #[⟨17, .data⟩, ⟨20, .data⟩, ⟨12, .guard⟩], some (12, false)⟩ ?v21z37 hHeld ?y21z37 ?r21z37
  case y21z37 => (intro w hSw; (try dsimp only at hSw); go_simp) <;> with_reducible rfl
  try simp only [Act.put, List.setIfInBounds_toArray, List.set_cons_zero, List.set_cons_succ]
  refine tkY 22 ⟨some 44, .move (.tmp 0), 26, "ledger.go:88", #[⟨12, .guard⟩], some (12, false)⟩ ?v22z38 hHeld ?y22z38 ?r22z38
  case y22z38 => (intro w hSw; (try dsimp only at hSw); go_simp) <;> with_reducible rfl
  try simp only [Act.put, List.setIfInBounds_toArray, List.set_cons_zero, List.set_cons_succ]
  refine tkY 23 ⟨some 45, .nilCheck (.tmp 44), 0, "ledger.go:88", #[⟨22, .data⟩, ⟨12, .guard⟩], some (12, false)⟩ ?v23z39 hHeld ?y23z39 ?r23z39
  case y23z39 => (intro w hSw; (try dsimp only at hSw); go_simp) <;> with_reducible rfl
  try simp only [Act.put, List.setIfInBounds_toArray, List.set_cons_zero, List.set_cons_succ]
  refine tkY 24 ⟨some 46, .fieldAddr 97 (.tmp 45) 0, 0, "ledger.go:88", #[⟨23, .data⟩, ⟨12, .guard⟩], some (12, false)⟩ ?v24z40 hHeld ?y24z40 ?r24z40
  case y24z40 => (intro w hSw; (try dsimp only at hSw); go_simp) <;> with_reducible rfl
  try simp only [Act.put, List.setIfInBounds_toArray, List.set_cons_zero, List.set_cons_succ]
  refine tkY 25 ⟨some 47, .fieldAddr 25 (.tmp 46) 4, 0, "ledger.go:88", #[⟨24, .data⟩, ⟨12, .guard⟩], some (12, false)⟩ ?v25z41 hHeld ?y25z41 ?r25z41
  case y25z41 => (intro w hSw; (try dsimp only at hSw); go_simp) <;> with_reducible rfl
  try simp only [Act.put, List.setIfInBounds_toArray, List.set_cons_zero, List.set_cons_succ]
  refine tkY 26 ⟨some 48, .load 3 (.tmp 47), 3, "ledger.go:88", #[⟨25, .data⟩, ⟨12, .guard⟩], some (12, false)⟩ ?v26z42 hHeld ?y26z42 ?r26z42
  case y26z42 => (intro w hSw; (try dsimp only at hSw); go_simp) <;> with_reducible rfl
  try simp only [Act.put, List.setIfInBounds_toArray, List.set_cons_zero, List.set_cons_succ]
  refine tkY 27 ⟨some 49, .binOp .gtr 3 (.tmp 43) (.tmp 48) 3, 4, "ledger.go:88", #[⟨21, .data⟩, ⟨26, .data⟩, ⟨12, .guard⟩], some (12, false)⟩ ?v27z43 hHeld ?y27z43 ?r27z43
  case y27z43 => (intro w hSw; (try dsimp only at hSw); go_simp) <;> with_reducible rfl
  try simp only [Act.put, List.setIfInBounds_toArray, List.set_cons_zero, List.set_cons_succ]
  refine tkY 28 ⟨some 50, .pick (.tmp 34) (.const (.bool true)) (.tmp 49), 4, "ledger.go:88", #[⟨12, .data⟩, ⟨27, .data⟩], none⟩ ?v28z44 hHeld ?y28z44 ?r28z44
  case y28z44 => (intro w hSw; (try dsimp only at hSw); go_simp) <;> with_reducible rfl
  try simp only [Act.put, List.setIfInBounds_toArray, List.set_cons_zero, List.set_cons_succ]
  refine wpAnyH_done (by kernel_rfl) ?_ _
  go_wp2
  go_ret
  exact ⟨rfl, b0.trans (b2.mono b0.size)⟩

end Go.Proofs.YtcgpgnajmfemhaaGreatDoor

namespace Go.Proofs.YtcgpgnajmfemhaaGreatDoor
open Go.RowKit

/-- An entry's bytes. -/
def entL (t : Int) (bs : List (List UInt8 × List UInt8)) : List UInt8 := [69] ++ numL (clampN t) ++ wrL bs

set_option maxRecDepth 100000 in
set_option maxHeartbeats 3200000 in
theorem lwrite_any (t : Int) (v : Value) (bs : List (List UInt8 × List UInt8)) (w : World) (hv : BA w v bs) (hb : bulkB bs ≤ 1048576) (hn : bs.length ≤ 40) (hl : ([69] ++ numL (clampN t)).length ≤ 1048576) :
    Calls Tryz.prog 48 #[.agg #[.int .i64 t, v]] w fun x w' => ∃ v', x = .returned v' ∧ w'.ownsRow w.heap.size 5 1 v' (entL t bs).length (bcs (entL t bs)) ∧ Below w.heap.size w w' := by
  obtain ⟨p, c, rfl⟩ := hv.shape
  have b0 := (Below.refl w.heap.size w).alloc (Nat.le_refl _) (.cells #[.int .i64 t, .slice p bs.length c] 66)
  have g0 := heap_alloc_new w (.cells #[.int .i64 t, .slice p bs.length c] 66)
  obtain ⟨V, hV⟩ : ∃ V, w.alloc (.cells #[.int .i64 t, .slice p bs.length c] 66) = V := ⟨_, rfl⟩
  rw [hV] at b0 g0
  have sV : V.heap.size = w.heap.size + 1 := by rw [← hV]; simp
  have e0 : V.cell? ⟨w.heap.size, 0, none⟩ = some (.int .i64 t) := by rw [cell_of_row _ _ _ _ _ _ g0]; rfl
  have e1 : V.cell? ⟨w.heap.size, 1, none⟩ = some (.slice p bs.length c) := by rw [cell_of_row _ _ _ _ _ _ g0]; rfl
  have kc := Lib.run_convert_bytes_const (P := Tryz.prog) V.drew 37 5 #[.int .u8 69] 1 1 Tryz.underlying37 Tryz.underlying5
  have hd : Below V.heap.size V V.drew := (Below.refl _ V).drew
  have bL := (Below.refl _ V.drew).alloc (Nat.le_refl _) (.cells #[.int .u8 69] 5 (1, 2))
  have hlit := HB.litF V.drew 5 [69] #[.int .u8 69] 1 (1, 2) rfl rfl (by unfold maxLen; omega)
  have kc2 : (convert 37 37 (.slice (some ⟨V.heap.size, 0, none⟩) 1 1)).run Tryz.prog (V.alloc (.cells #[.int .u8 69] 5)).drew = .ok (.slice (some ⟨V.heap.size, 0, none⟩) 1 1) (V.alloc (.cells #[.int .u8 69] 5 (1, 2))).drew := by
    exact kc
  obtain ⟨U, hU⟩ : ∃ U, (V.alloc (.cells #[.int .u8 69] 5 (1, 2))).drew = U := ⟨_, rfl⟩
  have bL : Below V.drew.heap.size V.drew U := by rw [← hU]; exact bL
  have hlit : HB U (.slice (some ⟨V.heap.size, 0, none⟩) 1 1) [69] := by rw [← hU]; exact hlit
  rw [hU] at kc2
  have bU := b0.trans ((hd.trans (bL.mono hd.size)).mono b0.size)
  have hvU := hv.later bU
  have hCu := cuint_any (.slice (some ⟨V.heap.size, 0, none⟩) 1 1) [69] t U hlit (by simp)
  obtain ⟨L1, hL1⟩ : ∃ L1, L1 = [69] ++ numL (clampN t) := ⟨_, rfl⟩
  rw [← hL1] at hCu hl
  have hE : entL t bs = L1 ++ wrL bs := by rw [hL1]; rfl
  rw [hE]
  have HS : Hid (∀ W, Below V.heap.size V W → W.cell? ⟨w.heap.size, 0, none⟩ = some (.int .i64 t) ∧ W.cell? ⟨w.heap.size, 1, none⟩ = some (.slice p bs.length c)) := fun W hb => ⟨cell_later hb e0, cell_later hb e1⟩
  have hS0 := HS.out _ hd
  have hS1 := HS.out (V.alloc (.cells #[.int .u8 69] 5)).drew ((Below.refl _ V).alloc (Nat.le_refl _) (.cells #[.int .u8 69] 5)).drew
  have hS2 := HS.out _ (hd.trans (bL.mono hd.size))
  have bVU := hd.trans (bL.mono hd.size)
  clear hlit hE hL1 hv g0 bL kc sV
  have hHeld := hS0
  go_enter Tryz.func48, Tryz.ntmps48
  go_wp2
  refine wp_region_heldN (by kernel_rfl) (fun w' => w'.cell? ⟨w.heap.size, 0, none⟩ = some (.int .i64 t) ∧ w'.cell? ⟨w.heap.size, 1, none⟩ = some (.slice p bs.length c)) 9 rfl ?_
  refine tkY 2 ⟨some 5, .fieldAddr 66 (.tmp 1) 0, 0, "ledger.go:150", #[], none⟩ ?v2z1 hHeld ?y2z1 ?r2z1
  case y2z1 => (intro w hSw; (try dsimp only at hSw); go_simp) <;> with_reducible rfl
  try simp only [Act.put, List.setIfInBounds_toArray, List.set_cons_zero, List.set_cons_succ]
  refine tkY 3 ⟨some 6, .load 3 (.tmp 5), 3, "ledger.go:150", #[⟨2, .data⟩], none⟩ ?v3z2 hHeld ?y3z2 ?r3z2
  case y3z2 => (intro w hSw; (try dsimp only at hSw); go_simp) <;> with_reducible rfl
  try simp only [Act.put, List.setIfInBounds_toArray, List.set_cons_zero, List.set_cons_succ]
  refine tkY 5 ⟨some 8, .fieldAddr 66 (.tmp 1) 1, 0, "ledger.go:150", #[], none⟩ ?v5z3 hHeld ?y5z3 ?r5z3
  case y5z3 => (intro w hSw; (try dsimp only at hSw); go_simp) <;> with_reducible rfl
  try simp only [Act.put, List.setIfInBounds_toArray, List.set_cons_zero, List.set_cons_succ]
  refine tkY 6 ⟨some 9, .load 22 (.tmp 8), 22, "ledger.go:150", #[⟨5, .data⟩], none⟩ ?v6z4 hHeld ?y6z4 ?r6z4
  case y6z4 => (intro w hSw; (try dsimp only at hSw); go_simp) <;> with_reducible rfl
  try simp only [Act.put, List.setIfInBounds_toArray, List.set_cons_zero, List.set_cons_succ]
  refine wpAnyH_ready (rs := [0]) (by kernel_rfl) (by simp) ?_
  refine AllReadyH.cons (o := ⟨some 3, .buildSlice 37 1 #[(0, .const (.int .u8 69))], 37, "ledger.go:150", #[], none⟩) rfl (fun K hK => ?_) AllReadyH.nil
  go_simp
  replace hHeld := hS1
  refine hK.out _ _ ?_ (fun _ => ?_)
  · exact hHeld
  clear hK K
  try simp only [Act.put, List.setIfInBounds_toArray, List.set_cons_zero, List.set_cons_succ]
  refine wpAnyH_ready (rs := [1]) (by kernel_rfl) (by simp) ?_
  refine AllReadyH.cons (o := ⟨some 4, .convert 37 37 (.tmp 3), 37, "ledger.go:150", #[⟨0, .data⟩], none⟩) rfl (fun K hK => ?_) AllReadyH.nil
  go_simp
  replace hHeld := hS2
  refine hK.out _ _ ?_ (fun _ => ?_)
  · exact hHeld
  clear hK K
  try simp only [Act.put, List.setIfInBounds_toArray, List.set_cons_zero, List.set_cons_succ]
  refine wpAnyH_ready (rs := [4]) (by kernel_rfl) (by simp) ?_
  refine AllReadyH.cons (o := ⟨some 7, .call { callee := .value (.func 87), args := #[.tmp 4, .tmp 6], argTypes := #[37, 3] }, 37, "ledger.go:150", #[⟨1, .data⟩, ⟨3, .data⟩], none⟩) rfl (fun K hK => ?_) AllReadyH.nil
  go_simp
  refine hCu.mono ?_
  rintro e w3 ⟨p3, c3, rfl, o3, b3⟩
  have bV3 := bVU.trans (b3.mono bVU.size)
  have hW := cwrite_any _ _ _ bs w3 (HB.of_owns o3) (hvU.later b3) hl hb hn
  replace hHeld := HS.out _ bV3
  refine hK.out _ _ ?_ (fun _ => ?_)
  · exact hHeld
  clear hK K
  try simp only [Act.put, List.setIfInBounds_toArray, List.set_cons_zero, List.set_cons_succ]
  refine wpAnyH_ready (rs := [7]) (by kernel_rfl) (by simp) ?_
  refine AllReadyH.cons (o := ⟨some 10, .call { callee := .value (.func 86), args := #[.tmp 7, .tmp 9], argTypes := #[37, 22] }, 37, "ledger.go:150", #[⟨4, .data⟩, ⟨6, .data⟩, ⟨4, .chain⟩], none⟩) rfl (fun K hK => ?_) AllReadyH.nil
  go_simp
  refine hW.mono ?_
  rintro e w4 ⟨v4, rfl, o4, b4⟩
  replace hHeld := HS.out _ (bV3.trans (b4.mono bV3.size))
  refine hK.out _ _ ?_ (fun _ => ?_)
  · exact hHeld
  clear hK K
  try simp only [Act.put, List.setIfInBounds_toArray, List.set_cons_zero, List.set_cons_succ]
  refine tkY 8 ⟨some 2, .assign (.tmp 10), 37, "ledger.go:150", #[⟨7, .data⟩, ⟨7, .chain⟩, ⟨0, .phase⟩, ⟨1, .phase⟩, ⟨2, .phase⟩, ⟨3, .phase⟩, ⟨4, .phase⟩, ⟨5, .phase⟩, ⟨6, .phase⟩, ⟨7, .phase⟩], none⟩ ?v8z5 hHeld ?y8z5 ?r8z5
  case y8z5 => (intro w hSw; (try dsimp only at hSw); go_simp) <;> with_reducible rfl
  try simp only [Act.put, List.setIfInBounds_toArray, List.set_cons_zero, List.set_cons_succ]
  refine wpAnyH_done (by kernel_rfl) ?_ _
  go_wp2
  go_ret
  exact ⟨_, rfl, owns_mono o4 (Nat.le_trans bU.size b3.size), (bU.trans (b3.mono bU.size)).trans (b4.mono (bU.trans (b3.mono bU.size)).size)⟩

end Go.Proofs.YtcgpgnajmfemhaaGreatDoor

namespace Go.Proofs.YtcgpgnajmfemhaaGreatDoor
open Go.RowKit

theorem ent_two {w : World} {b : Nat} {t : Int} {u : Value} (g : w.heap[b]? = some (.cells #[.int .i64 t, u] 66 (0, 0))) : w.cell? ⟨b, 0, none⟩ = some (.int .i64 t) ∧ w.cell? ⟨b, 1, none⟩ = some u :=
  ⟨by rw [cell_of_row _ _ _ _ _ _ g]; rfl, by rw [cell_of_row _ _ _ _ _ _ g]; rfl⟩

theorem sty_lg {T : TypeId} {w w' : World} {g gl : Nat} {s h mi mk ch ar ca pg n c t : Int} (kg : LG w g gl s h mi mk ch ar ca pg n c t) (ho : Only g w w') (hT : 97 ≠ T) : Sty T w w' := by
  unfold LG at kg
  intro k cur fr hk
  refine (ho.block k ?_ (Array.getElem?_eq_some_iff.1 hk).1).trans hk
  rintro rfl
  rw [kg] at hk
  simp only [Option.some.injEq, Obj.cells.injEq] at hk
  exact hT hk.2.1

set_option maxRecDepth 100000 in
set_option maxHeartbeats 8000000 in
theorem lpub_ok {B g gl N kk K : Nat} {s h mi mk ch ar ca pg n c t0 t : Int} {ls : List (List UInt8)} {v : Value} {bs : List (List UInt8 × List UInt8)} {w : World} (H : LS B g gl N kk K s h mi mk ch ar ca pg n c t0 ls w) (hT : Tabs w) (hB : 3 ≤ B) (hBw : B ≤ w.heap.size) (hv : BA w v bs)
    (h0 : 0 ≤ t) (h1 : t ≤ 1125899906842624) (hk : ChkIs mi mk bs 0) (h2 : t0 ≤ t) (hn : 0 ≤ n) (hc : 0 ≤ c) (he : n + 1 < epochsV s h mi mk ch ca pg) (hE : epochsV s h mi mk ch ca pg ≤ 1000) (hq : c + bs.length ≤ ch) (hch : ch ≤ 1000000)
    (hb : bulkB bs ≤ 1048576) (hbn : bs.length ≤ 40) (hl : ([69] ++ numL (clampN t)).length ≤ 1048576) (hL1 : 1 ≤ (entL t bs).length) (hL2 : (entL t bs).length ≤ 4000) (hfit : kk + (tsec (entL t bs).length + 1) ≤ N) (hN : N ≤ 16384) (hls : ls.length ≤ 1000) (hK : K ≤ 1000000) :
    Calls Tryz.prog 24 #[.pointer (some ⟨g, 0, none⟩), .agg #[.int .i64 t, v]] w fun x w' => x = .returned (.int .i64 0) ∧ (∃ kk', kk' = kk + (tsec (entL t bs).length + 1) ∧ LS B g gl N kk' (K + 200) s h mi mk ch ar ca pg (n + 1) (c + bs.length) t (ls ++ [entL t bs]) w') ∧ Below B w w' ∧ ∀ T, 197 ≠ T → 214 ≠ T → 157 ≠ T → 37 ≠ T → 97 ≠ T → Sty T w w' := by
  obtain ⟨bd, bn, bm, base, cc, cr, pr, st, k1, k2, k3, k4, k5, k6, k7, k8, k9, k10, k11⟩ := H
  obtain ⟨p, cp, rfl⟩ := hv.shape
  have b0 := (Below.refl w.heap.size w).alloc (Nat.le_refl _) (.cells #[.int .i64 t, .slice p bs.length cp] 66)
  have g0 := heap_alloc_new w (.cells #[.int .i64 t, .slice p bs.length cp] 66)
  obtain ⟨V, hV⟩ : ∃ V, w.alloc (.cells #[.int .i64 t, .slice p bs.length cp] 66) = V := ⟨_, rfl⟩
  rw [hV] at b0 g0
  have kV := k1.same (b0.block _ k1.lt)
  have hM := lmiss_no g gl V kV.cells.2.1
  have hR := lref_ok kV (hv.later b0) h0 h1 hk h2 hn hc he hE hq hch
  have ev := ent_two g0
  obtain ⟨ev0, ev1⟩ := ev
  have hn1 : n ≤ 1000000 := by omega
  obtain ⟨L, hL⟩ : ∃ L, L = entL t bs := ⟨_, rfl⟩
  have hWr := fun W (hb' : BA W (.slice p bs.length cp) bs) => lwrite_any t (.slice p bs.length cp) bs W hb' hb hbn hl
  rw [← hL] at hL1 hL2 hfit ⊢
  simp only [← hL] at hWr
  clear hL he hE
  go_enter Tryz.func24, Tryz.ntmps24
  go_wp2_with (first
    | (go_at_call 45; refine hM.mono ?_; rintro e wm ⟨rfl, hwm⟩; have hwm2 := hwm.symm; clear hwm; subst hwm2)
    | (go_at_call 46; refine hR.mono ?_; rintro e w1 ⟨rfl, b1⟩))
  have bD : Below V.heap.size V w1.drew := b1.drew
  have b01 := b0.trans (bD.mono b0.size)
  have kD := k1.same (b01.block _ k1.lt)
  have gD := (bD.block _ (Array.getElem?_eq_some_iff.1 g0).1).trans g0
  have hW := hWr w1.drew (hv.later b01)
  have hHeld : _ ∧ _ ∧ _ := ⟨kD.cells.2.1, ent_two gD⟩
  clear hM hR hWr
  refine wp_region_heldN (by kernel_rfl) (fun w' => w'.cell? ⟨g, 8, none⟩ = some (.pointer (some ⟨gl, 0, none⟩)) ∧ w'.cell? ⟨w.heap.size, 0, none⟩ = some (.int .i64 t) ∧ w'.cell? ⟨w.heap.size, 1, none⟩ = some (.slice p bs.length cp)) 8 rfl ?_
  refine tkY 0 ⟨some 15, .move (.tmp 0), 26, "ledger.go:117", #[], none⟩ ?v0z1 hHeld ?y0z1 ?r0z1
  case y0z1 => (intro w hSw; (try dsimp only at hSw); go_simp) <;> with_reducible rfl
  try simp only [Act.put, List.setIfInBounds_toArray, List.set_cons_zero, List.set_cons_succ]
  refine tkY 1 ⟨some 16, .nilCheck (.tmp 15), 0, "ledger.go:117", #[⟨0, .data⟩], none⟩ ?v1z2 hHeld ?y1z2 ?r1z2
  case y1z2 => (intro w hSw; (try dsimp only at hSw); go_simp) <;> with_reducible rfl
  try simp only [Act.put, List.setIfInBounds_toArray, List.set_cons_zero, List.set_cons_succ]
  refine tkY 2 ⟨some 17, .fieldAddr 97 (.tmp 16) 1, 0, "ledger.go:117", #[⟨1, .data⟩], none⟩ ?v2z3 hHeld ?y2z3 ?r2z3
  case y2z3 => (intro w hSw; (try dsimp only at hSw); go_simp) <;> with_reducible rfl
  try simp only [Act.put, List.setIfInBounds_toArray, List.set_cons_zero, List.set_cons_succ]
  refine tkY 3 ⟨some 18, .load 93 (.tmp 17), 93, "ledger.go:117", #[⟨2, .data⟩], none⟩ ?v3z4 hHeld ?y3z4 ?r3z4
  case y3z4 => (intro w hSw; (try dsimp only at hSw); go_simp) <;> with_reducible rfl
  try simp only [Act.put, List.setIfInBounds_toArray, List.set_cons_zero, List.set_cons_succ]
  refine tkY 4 ⟨some 19, .load 66 (.tmp 3), 66, "ledger.go:117", #[], none⟩ ?v4z5 hHeld ?y4z5 ?r4z5
  case y4z5 => (intro w hSw; (try dsimp only at hSw); go_simp) <;> with_reducible rfl
  try simp only [Act.put, List.setIfInBounds_toArray, List.set_cons_zero, List.set_cons_succ]
  refine wpAnyH_ready (rs := [5]) (by kernel_rfl) (by simp) ?_
  refine AllReadyH.cons (o := ⟨some 20, .call { callee := .value (.func 48), args := #[.tmp 19], argTypes := #[66] }, 37, "ledger.go:117", #[⟨4, .data⟩], none⟩) rfl (fun K hK => ?_) AllReadyH.nil
  go_simp
  refine hW.mono ?_
  rintro e w2 ⟨v2, rfl, o2, b2⟩
  obtain ⟨p2, c2, rfl⟩ := owns_shape o2
  have b02 := b01.trans (b2.mono b01.size)
  have kD2 := k1.same (b02.block _ k1.lt)
  have gD2 := (b2.block _ (Array.getElem?_eq_some_iff.1 gD).1).trans gD
  have l2 := k2.same (b02.block _ k2.lt)
  have r2 := k3.later b02
  have d2 := k6.later b02
  have dl := dev_lt k6
  have s01 := b01.size
  have hvb : ∀ a, p2 = some a → a.block ≠ bd ∧ a.block ≠ bn ∧ a.block ≠ bm := by
    intro a ha
    subst ha
    have := (o2.lt a.block rfl).1
    refine ⟨?_, ?_, ?_⟩ <;> omega
  have hAp := append_log (base := base) l2 r2 (Nat.le_trans k4 b02.size) d2 k7 (hT.later b02) ⟨by omega, by omega, by omega⟩ (HB.of_owns o2) hvb hL1 hL2 hfit hN (by omega) (by omega)
  replace hHeld := (show _ ∧ _ ∧ _ from ⟨kD2.cells.2.1, ent_two gD2⟩)
  refine hK.out _ _ ?_ (fun _ => ?_)
  · exact hHeld
  clear hK K
  try simp only [Act.put, List.setIfInBounds_toArray, List.set_cons_zero, List.set_cons_succ]
  refine wpAnyH_ready (rs := [6]) (by kernel_rfl) (by simp) ?_
  refine AllReadyH.cons (o := ⟨some 21, .call { callee := .value (.func 47), args := #[.tmp 18, .tmp 20], argTypes := #[93, 37] }, 34, "ledger.go:117", #[⟨3, .data⟩, ⟨5, .data⟩, ⟨5, .chain⟩], none⟩) rfl (fun K hK => ?_) AllReadyH.nil
  go_simp
  refine hAp.mono ?_
  rintro e w3 ⟨rfl, s', bm', rs', d3, a3, e3, l3, r3, pt⟩
  obtain ⟨pr3, cr3, rfl⟩ := r3.pa.shape
  obtain ⟨vs2, ho2, _⟩ := id r2
  have kD3 : LG w3 g gl s h mi mk ch ar ca pg n c t0 := sty_putT (T := 97) (by decide) (by decide) (by decide) (by decide) d2 l2 ho2 pt _ _ _ kD2
  have sT3 : Hid (∀ T, 197 ≠ T → 214 ≠ T → 157 ≠ T → 37 ≠ T → Sty T w w3) := fun T t1 t2 t3 t4 => (Sty.of_below b02).trans (sty_putT t1 t2 t3 t4 d2 l2 ho2 pt)
  have gD3 := sty_putT (T := 66) (by decide) (by decide) (by decide) (by decide) d2 l2 ho2 pt _ _ _ gD2
  replace hHeld := (show _ ∧ _ ∧ _ from ⟨kD3.cells.2.1, ent_two gD3⟩)
  refine hK.out _ _ ?_ (fun _ => ?_)
  · exact hHeld
  clear hK K
  try simp only [Act.put, List.setIfInBounds_toArray, List.set_cons_zero, List.set_cons_succ]
  refine tkY 7 ⟨some 6, .assign (.tmp 21), 34, "ledger.go:117", #[⟨6, .data⟩, ⟨6, .chain⟩, ⟨0, .phase⟩, ⟨1, .phase⟩, ⟨2, .phase⟩, ⟨3, .phase⟩, ⟨4, .phase⟩, ⟨5, .phase⟩, ⟨6, .phase⟩], none⟩ ?v7z6 hHeld ?y7z6 ?r7z6
  case y7z6 => (intro w hSw; (try dsimp only at hSw); go_simp) <;> with_reducible rfl
  try simp only [Act.put, List.setIfInBounds_toArray, List.set_cons_zero, List.set_cons_succ]
  refine wpAnyH_done (by kernel_rfl) ?_ _
  obtain ⟨z8, z0, z1⟩ := hHeld
  have hC := lcount_any (t := t) (p := p) (cp := cp) (N := bs.length) kD3 ⟨hn, hn1⟩ ⟨hc, by omega⟩ (by omega)
  have bB3 : Below B w2 w3 := pt.below (by have := b02.size; omega) (by
    rintro q (e | e | e | e | e)
    · omega
    · omega
    · omega
    · omega
    · have := (ho2.lt q e.symm).1
      omega)
  have bw2 := b02.mono hBw
  have bw3 := bw2.trans bB3
  have s3 := pt.size
  clear hW hAp gD gD2 gD3 o2 hvb ho2 pt kD kD2 l2 r2 d2
  go_wp2_with (first | (go_at_call 49; refine hC.mono ?_; rintro e w4 ⟨rfl, k5', o4⟩))
  go_ret
  obtain ⟨vs3, ho3, _⟩ := id r3
  obtain ⟨d4, l4, t4, q4⟩ := only_lg kD3 o4 d3 l3 ho3
  refine ⟨rfl, ⟨_, rfl, bd, bn, bm', base, cc + 200, cr3, pr3, s', k5', l4, r3.keep t4 q4, ?_, k5, d4, a3, ?_, ⟨k9.1, k9.2.1, ?_⟩, k10, k11⟩, bw3.trans (o4.below k11), fun T t1 t2 t3 t4 t5 => (sT3.out T t1 t2 t3 t4).trans (sty_lg kD3 o4 t5)⟩
  · have := o4.size
    have := b02.size
    omega
  · omega
  · rcases e3 with e | e
    · omega
    · have := b02.size
      omega

end Go.Proofs.YtcgpgnajmfemhaaGreatDoor
