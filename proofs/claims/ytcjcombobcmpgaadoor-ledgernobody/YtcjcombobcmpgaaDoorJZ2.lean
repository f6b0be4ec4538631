/- What this text proves: the walk of annalslaw23.awake over this program: it answers true. What this text proves: the walk of ledger's Fits at a ledger that no call made. (By program: mklgfits.py.) -/
import Derived.Test.YtcjcombobcmpgaaDoorJH1
import Derived.Test.YtcjcombobcmpgaaDoorJP2
import Derived.Test.YtcjcombobcmpgaaDoorJE1
import Derived.Test.YtcjcombobcmpgaaDoorJZ1
import Derived.Test.YtcjcombobcmpgaaDoorJG1
import Derived.Test.YtcjcombobcmpgaaDoorJA2
namespace Go.Proofs.YtcjcombobcmpgaaDoor
open Go.RowKit

theorem hb_blkL {W : World} {L : Nat} {fr : Nat × Nat} (h : W.heap[L]? = some (.cells #[.int .u8 97] 5 fr)) : HB W (.slice (some ⟨L, 0, none⟩) 1 1) [97] := by
  refine ⟨_, 1, rfl, Nat.le_refl _, by unfold maxLen; omega, (fun h => by cases h), fun _ => ⟨_, 0, rfl, fun i x hx => ?_⟩⟩
  rw [Nat.zero_add, cell_of_row _ _ i _ _ _ h]
  cases i with
  | zero => simp at hx; subst hx; rfl
  | succ i => simp at hx

theorem ba_litL {W : World} {L M : Nat} {fr : Nat × Nat} (h1 : W.heap[L]? = some (.cells #[.int .u8 97] 5 fr)) (h2 : W.heap[M]? = some (.cells #[.slice (some ⟨L, 0, none⟩) 1 1, .slice none 0 0] 67 (0, 0))) : BA W (.slice (some ⟨M, 0, none⟩) 1 1) [([97], [])] := by
  refine ⟨_, 1, rfl, Nat.le_refl _, by unfold maxLen; omega, fun _ => ⟨_, 0, rfl, fun k x hx => ?_⟩⟩
  cases k with
  | zero =>
    simp at hx
    subst hx
    exact ⟨_, _, _, _, by rw [cell_of_row _ _ _ _ _ _ h2]; rfl, by rw [cell_of_row _ _ _ _ _ _ h2]; rfl, hb_blkL h1, HB.nil _⟩
  | succ k => simp at hx

theorem chk_oneL : ChkIs 3 6 [([97], [])] 0 := by
  refine .inr (.inr (.inr (.inr ⟨by simp, by simp, ?_, ?_, rfl⟩)))
  · rintro ⟨x, hx, h⟩
    simp at hx
    subst hx
    simp at h
  · rintro ⟨i, j, x, y, hij, hj, _⟩
    simp at hj
    omega

theorem lep_small : epochsV 4 4 3 6 30 0 3 = 16 := by decide
theorem lent_len : (entL 5 [([97], [])]).length ≤ 40 ∧ 1 ≤ (entL 5 [([97], [])]).length ∧ ([69] ++ numL (clampN 5)).length ≤ 1048576 ∧ bulkB [([97], [])] ≤ 1048576 := by decide +kernel

set_option maxRecDepth 100000 in
set_option maxHeartbeats 4000000 in
theorem lgAwake_any (w : World) (hT : Tabs w) (hs : 3 ≤ w.heap.size) : Calls Tryd.prog 10 #[] w fun e w' => e = .returned (.bool true) ∧ Below w.heap.size w w' := by
  have kc := fun (w : World) (C : Array Value) (n c : Nat) => Lib.run_convert_bytes_const (P := Tryd.prog) w 50 5 C n c Tryd.underlying50 Tryd.underlying5
  have hN := new_any 60 w (by omega) (by omega)
  have hA := new_alive 60
  have hZ := new_zero 60
  generalize DevS.new 60 = S0 at *
  go_enter Tryd.func10, Tryd.ntmps10
  go_wp2_with fail
  refine hN.mono ?_
  rintro e w1 ⟨bd, bn, bm, rfl, hd1, hbd, hbn, hbm, hb1⟩
  have hSm := lgSmall_any w1
  clear hN
  go_wp2_with fail
  refine hSm.mono ?_
  rintro e w2 ⟨rfl, b2⟩
  have bw2 := hb1.trans (b2.mono hb1.size)
  have hO := lopen_new (B := w.heap.size) (hd1.later b2) hA hZ (hT.later bw2) hs ⟨hbd, hbn, hbm⟩ bw2.size
  clear hSm
  go_wp2_with fail
  refine hO.mono ?_
  rintro e w3 ⟨g, gl, l, rfl, H3, ⟨hl1, hl2⟩, b3⟩
  have bw3 := bw2.trans b3
  have bL := (Below.refl w3.heap.size w3).alloc (Nat.le_refl _) (.cells #[.int .u8 97] 5 (1, 2))
  have gL := heap_alloc_new w3 (.cells #[.int .u8 97] 5 (1, 2))
  have sL : (w3.alloc (.cells #[.int .u8 97] 5 (1, 2))).heap.size = w3.heap.size + 1 := by simp
  have bM := (Below.refl _ (w3.alloc (.cells #[.int .u8 97] 5 (1, 2)))).alloc (Nat.le_refl _) (.cells #[.slice (some ⟨w3.heap.size, 0, none⟩) 1 1, .slice none 0 0] 67)
  have gM := heap_alloc_new (w3.alloc (.cells #[.int .u8 97] 5 (1, 2))) (.cells #[.slice (some ⟨w3.heap.size, 0, none⟩) 1 1, .slice none 0 0] 67)
  rw [sL] at gM
  have gL2 := (bM.block _ (Array.getElem?_eq_some_iff.1 gL).1).trans gL
  have bLM := bL.trans (bM.mono bL.size)
  have bwM := bw3.trans (bLM.mono bw3.size)
  obtain ⟨e1, e2, e3, e4⟩ := lent_len
  have ht1 : tsec l.length ≤ 10 := by unfold tsec; omega
  have ht2 : tsec (entL 5 [([97], [])]).length ≤ 10 := by unfold tsec; omega
  have hP := lpub_ok (H3.later bLM) (hT.later bwM) hs bwM.size (ba_litL gL2 gM) (t := 5) (by omega) (by omega) chk_oneL (by omega) (by omega) (by omega) (by rw [lep_small]; omega) (by rw [lep_small]; omega) (by simp) (by omega) e4 (by simp) e3 e2 (by omega) (by omega) (by omega) (by simp) (by omega)
  generalize entL 5 [([97], [])] = EL at *
  clear hO gL gM gL2 bL bM sL
  go_wp2_with fail
  refine hP.mono ?_
  rintro e w4 ⟨rfl, ⟨kk, _, H4⟩, b4⟩
  have bw4 := bwM.trans b4
  have hE := lents_any H4 (by simp) (by simp) (fun x hx => by
    simp at hx
    rcases hx with rfl | rfl <;> omega)
  clear hP kc
  go_wp2_with fail
  refine hE.mono ?_
  rintro e w5 ⟨p5, m5, c5, rfl, rfl, b5⟩
  go_wp2
  go_ret
  exact ⟨by simp, bw4.trans (b5.mono bw4.size)⟩

end Go.Proofs.YtcjcombobcmpgaaDoor

namespace Go.Proofs.YtcjcombobcmpgaaDoor
open Go.RowKit

set_option maxRecDepth 100000 in
set_option maxHeartbeats 1600000 in
theorem lfits_nil (v : Value) (t : Int) (u : Value) (w : World) (hm : ∀ w, v = .pointer none ∨ (∃ g, v = .pointer (some ⟨g, 0, none⟩) ∧ w.cell? ⟨g, 8, none⟩ = some (.pointer none)) → Calls Tryd.prog 11 #[v] w fun e w' => e = .returned (.bool true) ∧ w' = w) (hv : v = .pointer none ∨ (∃ g, v = .pointer (some ⟨g, 0, none⟩) ∧ w.cell? ⟨g, 8, none⟩ = some (.pointer none))) :
    Calls Tryd.prog 6 #[v, .agg #[.int .i64 t, u]] w fun e w' => e = .returned (.bool false) ∧ Below w.heap.size w w' := by
  have bA := (Below.refl w.heap.size w).alloc (Nat.le_refl _) (.cells #[.int .i64 t, u] 24)
  have hM := hm (w.alloc (.cells #[.int .i64 t, u] 24)).drew (by
    rcases hv with h | ⟨g, h1, h2⟩
    · exact .inl h
    · exact .inr ⟨g, h1, cell_later bA.drew h2⟩)
  have bD := bA.drew
  clear hm hv
  go_enter Tryd.func6, Tryd.ntmps6
  go_wp2
  refine wp_region_heldN (by kernel_rfl) (fun _ => True) 15 rfl ?_
  refine tkY 0 ⟨some 5, .move (.tmp 0), 25, "ledger.go:140", #[], none⟩ ?v0z1 trivial ?y0z1 ?r0z1
  case y0z1 => (intro w hSw; (try dsimp only at hSw); go_simp) <;> with_reducible rfl
  try simp only [Act.put, List.setIfInBounds_toArray, List.set_cons_zero, List.set_cons_succ]
  refine wpAnyH_ready (rs := [1]) (by kernel_rfl) (by simp) ?_
  refine AllReadyH.cons (o := ⟨some 6, .call { callee := .value (.func 11), args := #[.tmp 5], argTypes := #[25] }, 4, "ledger.go:140", #[⟨0, .data⟩], none⟩) rfl (fun K hK => ?_) AllReadyH.nil
  go_simp
  refine hM.mono ?_
  rintro e w1 ⟨rfl, hw⟩
  subst hw
  refine hK.out _ _ ?_ (fun _ => ?_)
  · exact trivial
  clear hK K
  try simp only [Act.put, List.setIfInBounds_toArray, List.set_cons_zero, List.set_cons_succ]
  refine tkY 2 ⟨some 7, .unOp .not 4 (.tmp 6), 4, "ledger.go:140", #[⟨1, .data⟩], none⟩ ?v2z2 trivial ?y2z2 ?r2z2
  case y2z2 => (intro w hSw; (try dsimp only at hSw); go_simp) <;> with_reducible rfl
  try simp only [Act.put, List.setIfInBounds_toArray, List.set_cons_zero, List.set_cons_succ]
  refine tkY 3 ⟨some 8, .move (.tmp 7), 4, "ledger.go:140", #[⟨2, .data⟩, ⟨1, .chain⟩], none⟩ ?v3z3 trivial ?y3z3 ?r3z3
  case y3z3 => (intro w hSw; (try dsimp only at hSw); go_simp) <;> with_reducible rfl
  try simp only [Act.put, List.setIfInBounds_toArray, List.set_cons_zero, List.set_cons_succ]
  refine tkN 4 ⟨some 9, .load 24 (.tmp 3), 24, "ledger.go:140", #[⟨3, .guard⟩], some (3, true)⟩ trivial ?_
  try simp only [Act.put, List.setIfInBounds_toArray, List.set_cons_zero, List.set_cons_succ]
  refine tkN 5 ⟨some 10, .call { callee := .value (.func 14), args := #[.tmp 9], argTypes := #[24] }, 50, "ledger.go:140", #[⟨4, .data⟩, ⟨3, .chain⟩, ⟨3, .guard⟩], some (3, true)⟩ trivial ?_
  try simp only [Act.put, List.setIfInBounds_toArray, List.set_cons_zero, List.set_cons_succ]
  refine tkN 6 ⟨some 11, .call { callee := .builtin .len, args := #[.tmp 10], argTypes := #[50] }, 3, "ledger.go:140", #[⟨5, .data⟩, ⟨3, .guard⟩], some (3, true)⟩ trivial ?_
  try simp only [Act.put, List.setIfInBounds_toArray, List.set_cons_zero, List.set_cons_succ]
  refine tkN 7 ⟨some 12, .move (.tmp 0), 25, "ledger.go:140", #[⟨3, .guard⟩], some (3, true)⟩ trivial ?_
  try simp only [Act.put, List.setIfInBounds_toArray, List.set_cons_zero, List.set_cons_succ]
  refine tkN 8 ⟨some 13, .nilCheck (.tmp 12), 0, "ledger.go:140", #[⟨7, .data⟩, ⟨3, .guard⟩], some (3, true)⟩ trivial ?_
  try simp only [Act.put, List.setIfInBounds_toArray, List.set_cons_zero, List.set_cons_succ]
  refine tkN 9 ⟨some 14, .fieldAddr 32 (.tmp 13) 1, 0, "ledger.go:140", #[⟨8, .data⟩, ⟨3, .guard⟩], some (3, true)⟩ trivial ?_
  try simp only [Act.put, List.setIfInBounds_toArray, List.set_cons_zero, List.set_cons_succ]
  refine tkN 10 ⟨some 15, .load 28 (.tmp 14), 28, "ledger.go:140", #[⟨9, .data⟩, ⟨3, .guard⟩], some (3, true)⟩ trivial ?_
  try simp only [Act.put, List.setIfInBounds_toArray, List.set_cons_zero, List.set_cons_succ]
  refine tkN 11 ⟨some 16, .call { callee := .value (.func 18), args := #[.tmp 15], argTypes := #[28] }, 3, "ledger.go:140", #[⟨10, .data⟩, ⟨5, .chain⟩, ⟨3, .guard⟩], some (3, true)⟩ trivial ?_
  try simp only [Act.put, List.setIfInBounds_toArray, List.set_cons_zero, List.set_cons_succ]
  refine tkN 12 ⟨some 17, .binOp .leq 3 (.tmp 11) (.tmp 16) 3, 4, "ledger.go:140", #[⟨6, .data⟩, ⟨11, .data⟩, ⟨3, .guard⟩], some (3, true)⟩ trivial ?_
  try simp only [Act.put, List.setIfInBounds_toArray, List.set_cons_zero, List.set_cons_succ]
  refine tkY 13 ⟨some 18, .pick (.tmp 8) (.tmp 17) (.const (.bool false)), 4, "ledger.go:140", #[⟨3, .data⟩, ⟨12, .data⟩], none⟩ ?v13z4 trivial ?y13z4 ?r13z4
  case y13z4 => (intro w hSw; (try dsimp only at hSw); go_simp) <;> with_reducible rfl
  try simp only [Act.put, List.setIfInBounds_toArray, List.set_cons_zero, List.set_cons_succ]
  refine tkY 14 ⟨some 4, .assign (.tmp 18), 4, "ledger.go:140", #[⟨13, .data⟩, ⟨11, .chain⟩, ⟨0, .phase⟩, ⟨1, .phase⟩, ⟨2, .phase⟩, ⟨3, .phase⟩, ⟨4, .phase⟩, ⟨5, .phase⟩, ⟨6, .phase⟩, ⟨7, .phase⟩, ⟨8, .phase⟩, ⟨9, .phase⟩, ⟨10, .phase⟩, ⟨11, .phase⟩, ⟨12, .phase⟩, ⟨13, .phase⟩], none⟩ ?v14z5 trivial ?y14z5 ?r14z5
  case y14z5 => (intro w hSw; (try dsimp only at hSw); go_simp) <;> with_reducible rfl
  try simp only [Act.put, List.setIfInBounds_toArray, List.set_cons_zero, List.set_cons_succ]
  refine wpAnyH_done (by kernel_rfl) ?_ _
  go_wp2
  go_ret
  exact ⟨rfl, bD⟩

end Go.Proofs.YtcjcombobcmpgaaDoor
