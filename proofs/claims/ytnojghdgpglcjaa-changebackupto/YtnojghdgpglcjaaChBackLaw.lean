/- What this text proves: the walk of the statement ChangeBack over this program: it answers true for any arguments whose bytes are few enough, and writes nothing that was there. (By program: held.py, mkchback.py.) -/
import Derived.Test.YtnojghdgpglcjaaCWrite
import Derived.Test.YtnojghdgpglcjaaCRead
import Derived.Test.YtnojghdgpglcjaaCSame
import Derived.Test.YtnojghdgpglcjaaBAwake
import Derived.Test.YtnojghdgpglcjaaBRCheck
import Derived.Test.YtnojghdgpglcjaaStepApp
namespace Go.Proofs.Ytnojghdgpglcjaa
open Go.RowKit

theorem chk_few {mi mk : Int} {bs : List (List UInt8 × List UInt8)} (h : ChkIs mi mk bs 0) : bs.length ≤ 32 ∧ ∀ x ∈ bs, (x.1.length : Int) ≤ mi ∧ (x.2.length : Int) ≤ mk := by
  rcases h with ⟨_, h⟩ | ⟨_, h⟩ | ⟨_, _, _, h⟩ | ⟨_, _, _, _, h⟩ | ⟨_, h1, h2, _, _⟩
  · omega
  · omega
  · omega
  · omega
  · refine ⟨h1, fun x hx => ?_⟩
    have h3 : ¬ (mi < (x.1.length : Int) ∨ mk < (x.2.length : Int)) := fun h => h2 ⟨x, hx, h⟩
    omega

theorem wrL_len (bs : List (List UInt8 × List UInt8)) (hb : bulkB bs ≤ 1048576) (hn : bs.length ≤ 40) : (wrL bs).length ≤ 1100000 := by
  have h1 := binL_len bs hb
  have h2 := cnt_le8 bs.length (by omega)
  unfold wrL
  rw [List.length_append, numL_length]
  omega

set_option maxHeartbeats 8000000 in
theorem chBackWalk (pa pb mi mk pc pd pe pf : Int) (v u : Value) (b0 : List (List UInt8 × List UInt8)) (more : List UInt8) (w : World) (h : BA w v b0) (hm : HB w u more) (hbk0 : bulkB b0 ≤ 1048576) (hml : more.length ≤ 1048576) :
    Calls Try.prog 4 #[.agg #[.int .i64 pa, .int .i64 pb, .int .i64 mi, .int .i64 mk, .int .i64 pc, .int .i64 pd, .int .i64 pe, .int .i64 pf], v, u] w fun x w' => x = .returned (.bool true) ∧ Below w.heap.size w w' := by
  have bA := (Below.refl w.heap.size w).alloc (Nat.le_refl _) (.cells #[.int .i64 pa, .int .i64 pb, .int .i64 mi, .int .i64 mk, .int .i64 pc, .int .i64 pd, .int .i64 pe, .int .i64 pf] 23)
  have gA := heap_alloc_new w (.cells #[.int .i64 pa, .int .i64 pb, .int .i64 mi, .int .i64 mk, .int .i64 pc, .int .i64 pd, .int .i64 pe, .int .i64 pf] 23)
  obtain ⟨V, hV⟩ : ∃ V, V = w.alloc (.cells #[.int .i64 pa, .int .i64 pb, .int .i64 mi, .int .i64 mk, .int .i64 pc, .int .i64 pd, .int .i64 pe, .int .i64 pf] 23) := ⟨_, rfl⟩
  rw [← hV] at bA gA
  have hF := bfew_any v b0 V (h.later bA)
  have hbk : bulkB (b0.take 40) ≤ 1048576 := Nat.le_trans (bulkB_take b0 40) hbk0
  have hn40 : (b0.take 40).length ≤ 40 := by simp; omega
  generalize b0.take 40 = bs at *
  have hmV := hm.later bA
  obtain ⟨mp, mc, rfl⟩ := hm.shape
  clear h hm
  have hg : w.heap.size < V.heap.size := (Array.getElem?_eq_some_iff.1 gA).1
  have hc0 : ∀ W, Below V.heap.size V W → W.cell? ⟨w.heap.size, 0, none⟩ = some (.int .i64 pa) ∧ W.cell? ⟨w.heap.size, 1, none⟩ = some (.int .i64 pb) ∧ W.cell? ⟨w.heap.size, 2, none⟩ = some (.int .i64 mi) ∧ W.cell? ⟨w.heap.size, 3, none⟩ = some (.int .i64 mk) ∧ W.cell? ⟨w.heap.size, 4, none⟩ = some (.int .i64 pc) ∧ W.cell? ⟨w.heap.size, 5, none⟩ = some (.int .i64 pd) ∧ W.cell? ⟨w.heap.size, 6, none⟩ = some (.int .i64 pe) ∧ W.cell? ⟨w.heap.size, 7, none⟩ = some (.int .i64 pf) := by
    intro W hB
    have g1 := (hB.block _ hg).trans gA
    refine ⟨?_, ?_, ?_, ?_, ?_, ?_, ?_, ?_⟩ <;> (rw [cell_of_row _ _ _ _ _ _ g1]; rfl)
  go_enter Try.func4, Try.ntmps4
  go_wp2_with fail
  rw [← hV]
  refine hF.mono ?_
  rintro x w1 ⟨p1, c1, rfl, k1, hw⟩
  have hw2 := hw.symm
  clear hw hF hV
  subst hw2
  obtain ⟨a0, a1, a2, a3, a4, a5, a6, a7⟩ := hc0 V (Below.refl _ _)
  go_wp2_with fail
  refine (check_any pa pb mi mk pc pd pe pf _ bs V k1).mono ?_
  rintro x X ⟨er, rfl, hck, bVX⟩
  have bX := bA.trans (bVX.mono bA.size)
  have kb := k1.later bVX
  have km := hmV.later bVX
  have hcells : ∀ W, Below X.heap.size X W → W.cell? ⟨w.heap.size, 0, none⟩ = some (.int .i64 pa) ∧ W.cell? ⟨w.heap.size, 1, none⟩ = some (.int .i64 pb) ∧ W.cell? ⟨w.heap.size, 2, none⟩ = some (.int .i64 mi) ∧ W.cell? ⟨w.heap.size, 3, none⟩ = some (.int .i64 mk) ∧ W.cell? ⟨w.heap.size, 4, none⟩ = some (.int .i64 pc) ∧ W.cell? ⟨w.heap.size, 5, none⟩ = some (.int .i64 pd) ∧ W.cell? ⟨w.heap.size, 6, none⟩ = some (.int .i64 pe) ∧ W.cell? ⟨w.heap.size, 7, none⟩ = some (.int .i64 pf) := fun W hB => hc0 W (bVX.trans (hB.mono bVX.size))
  clear hc0 k1 hmV gA bA bVX a0 a1 a2 a3 a4 a5 a6 a7
  by_cases he : er = 0
  · subst he
    obtain ⟨hn32, hz⟩ := chk_few hck
    have hcr := cr_back mi mk bs more hz hbk hn32
    have wrl := wrL_len bs hbk (by omega)
    have HR : Hid (∀ v W, HB W v (wrL bs ++ more) → Calls Try.prog 7 #[.agg #[.int .i64 pa, .int .i64 pb, .int .i64 mi, .int .i64 mk, .int .i64 pc, .int .i64 pd, .int .i64 pe, .int .i64 pf], v] W fun x w' => ∃ u v, x = .returned (.tuple #[u, v, .int .i64 0]) ∧ BA w' u bs ∧ HB w' v more ∧ Below W.heap.size W w') := fun v W hh => by
      have := cread_any pa pb mi mk pc pd pe pf v _ W hh (by rw [List.length_append]; omega)
      rw [hcr] at this
      exact this
    have HWr : Hid (∀ W, Below X.heap.size X W → Calls Try.prog 11 #[.slice none 0 0, .slice p1 bs.length c1] W fun x w' => ∃ p3 c3, x = .returned (.slice p3 (wrL bs).length c3) ∧ w'.ownsRow W.heap.size 5 1 (.slice p3 (wrL bs).length c3) (wrL bs).length (bcs (wrL bs)) ∧ Below W.heap.size W w') := fun W hB => by
      refine (cwrite_any (.slice none 0 0) _ [] bs W (HB.nil _) (kb.later hB) (by simp) hbk (by omega)).mono ?_
      rintro x w' ⟨v3, rfl, o3, b3⟩
      rw [List.nil_append] at o3
      obtain ⟨p3, c3, rfl⟩ := owns_shape o3
      exact ⟨p3, c3, rfl, o3, b3⟩
    clear hcr hz hck
    generalize wrL bs = WR at *
    obtain ⟨T, hT⟩ : ∃ T, T = WR ++ more := ⟨_, rfl⟩
    rw [← hT] at HR
    have HT : Hid (T = WR ++ more) := hT
    clear hT
    go_wp2
    have bD : Below X.heap.size X X.drew := (Below.refl _ X).drew
    have hHeld := hcells X.drew bD
    refine wp_region_heldN (by kernel_rfl) (fun W => W.cell? ⟨w.heap.size, 0, none⟩ = some (.int .i64 pa) ∧ W.cell? ⟨w.heap.size, 1, none⟩ = some (.int .i64 pb) ∧ W.cell? ⟨w.heap.size, 2, none⟩ = some (.int .i64 mi) ∧ W.cell? ⟨w.heap.size, 3, none⟩ = some (.int .i64 mk) ∧ W.cell? ⟨w.heap.size, 4, none⟩ = some (.int .i64 pc) ∧ W.cell? ⟨w.heap.size, 5, none⟩ = some (.int .i64 pd) ∧ W.cell? ⟨w.heap.size, 6, none⟩ = some (.int .i64 pe) ∧ W.cell? ⟨w.heap.size, 7, none⟩ = some (.int .i64 pf)) 13 rfl ?_
    refine wpAnyH_take (i := 0) (oi := { dst := some 24, op := Go.Op.load 23 (Go.Operand.tmp 3), type := 23, pos := "law.go:48", after := #[], guard := none }) (v := ?v0z1) rfl (by kernel_rfl) (by kernel_rfl) (by kernel_rfl) (fun _ _ _ h => h) (Or.inl ⟨by rfl, ?y0z1⟩) hHeld ?r0z1
    case y0z1 => (intro w hSw; (try dsimp only at hSw); go_simp) <;> with_reducible rfl
    try simp only [Act.put, List.setIfInBounds_toArray, List.set_cons_zero, List.set_cons_succ]
    refine wpAnyH_take (i := 1) (oi := { dst := some 25, op := Go.Op.move (Go.Operand.tmp 1), type := 24, pos := "law.go:48", after := #[], guard := none }) (v := ?v1z2) rfl (by kernel_rfl) (by kernel_rfl) (by kernel_rfl) (fun _ _ _ h => h) (Or.inl ⟨by rfl, ?y1z2⟩) hHeld ?r1z2
    case y1z2 => (intro w hSw; (try dsimp only at hSw); go_simp) <;> with_reducible rfl
    try simp only [Act.put, List.setIfInBounds_toArray, List.set_cons_zero, List.set_cons_succ]
    refine wpAnyH_take (i := 3) (oi := { dst := some 27, op := Go.Op.move (Go.Operand.tmp 2), type := 25, pos := "law.go:48", after := #[], guard := none }) (v := ?v3z3) rfl (by kernel_rfl) (by kernel_rfl) (by kernel_rfl) (fun _ _ _ h => h) (Or.inl ⟨by rfl, ?y3z3⟩) hHeld ?r3z3
    case y3z3 => (intro w hSw; (try dsimp only at hSw); go_simp) <;> with_reducible rfl
    try simp only [Act.put, List.setIfInBounds_toArray, List.set_cons_zero, List.set_cons_succ]
    refine wpAnyH_ready (rs := [2]) (by kernel_rfl) (by simp) ?_
    refine AllReadyH.cons (o := { dst := some 26, op := Go.Op.call { callee := Go.Callee.value (Go.Operand.func 11), args := #[Go.Operand.const (Go.Value.slice none 0 0), Go.Operand.tmp 25], argTypes := #[25, 24] }, type := 25, pos := "law.go:48", after := #[{ on := 1, ground := Go.Ground.data }], guard := none }) rfl (fun K hK => ?_) AllReadyH.nil
    go_simp
    refine (HWr.out _ bD).mono ?_
    rintro x w3 ⟨p3, c3, rfl, o3', b3'⟩
    have o3 : w3.ownsRow X.heap.size 5 1 (.slice p3 WR.length c3) WR.length (bcs WR) := o3'
    have b3 := bD.trans (b3'.mono bD.size)
    replace hHeld := hcells w3 b3
    refine hK.out _ _ ?_ (fun _ => ?_)
    · exact hHeld
    clear hK K
    try simp only [Act.put, List.setIfInBounds_toArray, List.set_cons_zero, List.set_cons_succ]
    refine wpAnyH_ready (rs := [4]) (by kernel_rfl) (by simp) ?_
    refine AllReadyH.cons (o := { dst := some 28, op := Go.Op.call { callee := Go.Callee.builtin Go.Builtin.append, args := #[Go.Operand.tmp 26, Go.Operand.tmp 27], argTypes := #[25, 25] }, type := 25, pos := "law.go:48", after := #[{ on := 2, ground := Go.Ground.data }, { on := 3, ground := Go.Ground.data }, { on := 2, ground := Go.Ground.chain }], guard := none }) rfl (fun K hK => ?_) AllReadyH.nil
    refine step_append_any rfl (.tmp 26) (.tmp 27) 25 rfl X.heap.size 5 Try.underlying25 i_u8 _ _ _ rfl o3 _ _ _ more rfl (km.later b3) ?_ b3.size ?_
    · have := wrl; omega
    intro v4 w4 o4 gr4
    have b4 : Below X.heap.size X w4 := b3.grown gr4 b3.size (fun k hk => (o3.lt k hk).1)
    replace hHeld := hcells w4 b4
    rw [← bcs_append, ← List.length_append, ← HT.out] at o4
    obtain ⟨p4, c4, rfl⟩ := owns_shape o4
    have hh4 := HB.of_owns o4
    refine hK.out _ _ ?_ (fun _ => ?_)
    · exact hHeld
    clear hK K
    try simp only [Act.put, List.setIfInBounds_toArray, List.set_cons_zero, List.set_cons_succ]
    refine wpAnyH_ready (rs := [5]) (by kernel_rfl) (by simp) ?_
    refine AllReadyH.cons (o := { dst := some 29, op := Go.Op.call { callee := Go.Callee.value (Go.Operand.func 7), args := #[Go.Operand.tmp 24, Go.Operand.tmp 28], argTypes := #[23, 25] }, type := 29, pos := "law.go:48", after := #[{ on := 0, ground := Go.Ground.data }, { on := 4, ground := Go.Ground.data }, { on := 4, ground := Go.Ground.chain }], guard := none }) rfl (fun K hK => ?_) AllReadyH.nil
    go_simp
    refine (HR.out _ _ hh4).mono ?_
    rintro x w5 ⟨u5, v5, rfl, hb5, hh5, b5'⟩
    have b5 := b4.trans (b5'.mono b4.size)
    replace hHeld := hcells w5 b5
    refine hK.out _ _ ?_ (fun _ => ?_)
    · exact hHeld
    clear hK K
    try simp only [Act.put, List.setIfInBounds_toArray, List.set_cons_zero, List.set_cons_succ]
    refine wpAnyH_take (i := 6) (oi := { dst := some 23, op := Go.Op.move (Go.Operand.tmp 29), type := 29, pos := "law.go:48", after := #[{ on := 5, ground := Go.Ground.data }], guard := none }) (v := ?v6z4) rfl (by kernel_rfl) (by kernel_rfl) (by kernel_rfl) (fun _ _ _ h => h) (Or.inl ⟨by rfl, ?y6z4⟩) hHeld ?r6z4
    case y6z4 => (intro w hSw; (try dsimp only at hSw); go_simp) <;> with_reducible rfl
    try simp only [Act.put, List.setIfInBounds_toArray, List.set_cons_zero, List.set_cons_succ]
    refine wpAnyH_take (i := 7) (oi := { dst := some 30, op := Go.Op.extract (Go.Operand.tmp 23) 0, type := 24, pos := "law.go:48", after := #[{ on := 6, ground := Go.Ground.data }], guard := none }) (v := ?v7z5) rfl (by kernel_rfl) (by kernel_rfl) (by kernel_rfl) (fun _ _ _ h => h) (Or.inl ⟨by rfl, ?y7z5⟩) hHeld ?r7z5
    case y7z5 => (intro w hSw; (try dsimp only at hSw); go_simp) <;> with_reducible rfl
    try simp only [Act.put, List.setIfInBounds_toArray, List.set_cons_zero, List.set_cons_succ]
    refine wpAnyH_take (i := 8) (oi := { dst := some 31, op := Go.Op.extract (Go.Operand.tmp 23) 1, type := 25, pos := "law.go:48", after := #[{ on := 6, ground := Go.Ground.data }, { on := 10, ground := Go.Ground.gcOnly Go.Departure.lateStores }], guard := none }) (v := ?v8z6) rfl (by kernel_rfl) (by kernel_rfl) (by kernel_rfl) (fun _ _ _ h => h) (Or.inl ⟨by rfl, ?y8z6⟩) hHeld ?r8z6
    case y8z6 => (intro w hSw; (try dsimp only at hSw); go_simp) <;> with_reducible rfl
    try simp only [Act.put, List.setIfInBounds_toArray, List.set_cons_zero, List.set_cons_succ]
    refine wpAnyH_take (i := 9) (oi := { dst := some 32, op := Go.Op.extract (Go.Operand.tmp 23) 2, type := 28, pos := "law.go:48", after := #[{ on := 6, ground := Go.Ground.data }, { on := 11, ground := Go.Ground.gcOnly Go.Departure.lateStores }], guard := none }) (v := ?v9z7) rfl (by kernel_rfl) (by kernel_rfl) (by kernel_rfl) (fun _ _ _ h => h) (Or.inl ⟨by rfl, ?y9z7⟩) hHeld ?r9z7
    case y9z7 => (intro w hSw; (try dsimp only at hSw); go_simp) <;> with_reducible rfl
    try simp only [Act.put, List.setIfInBounds_toArray, List.set_cons_zero, List.set_cons_succ]
    refine wpAnyH_take (i := 10) (oi := { dst := some 7, op := Go.Op.assign (Go.Operand.tmp 30), type := 24, pos := "law.go:48", after := #[{ on := 7, ground := Go.Ground.data }, { on := 5, ground := Go.Ground.chain }, { on := 0, ground := Go.Ground.phase }, { on := 1, ground := Go.Ground.phase }, { on := 2, ground := Go.Ground.phase }, { on := 3, ground := Go.Ground.phase }, { on := 4, ground := Go.Ground.phase }, { on := 5, ground := Go.Ground.phase }, { on := 6, ground := Go.Ground.phase }, { on := 7, ground := Go.Ground.phase }, { on := 8, ground := Go.Ground.textOnly Go.Departure.lateStores }, { on := 9, ground := Go.Ground.textOnly Go.Departure.lateStores }], guard := none }) (v := ?v10z8) rfl (by kernel_rfl) (by kernel_rfl) (by kernel_rfl) (fun _ _ _ h => h) (Or.inl ⟨by rfl, ?y10z8⟩) hHeld ?r10z8
    case y10z8 => (intro w hSw; (try dsimp only at hSw); go_simp) <;> with_reducible rfl
    try simp only [Act.put, List.setIfInBounds_toArray, List.set_cons_zero, List.set_cons_succ]
    refine wpAnyH_take (i := 11) (oi := { dst := some 8, op := Go.Op.assign (Go.Operand.tmp 31), type := 25, pos := "law.go:48", after := #[{ on := 8, ground := Go.Ground.data }, { on := 10, ground := Go.Ground.chain }, { on := 0, ground := Go.Ground.phase }, { on := 1, ground := Go.Ground.phase }, { on := 2, ground := Go.Ground.phase }, { on := 3, ground := Go.Ground.phase }, { on := 4, ground := Go.Ground.phase }, { on := 5, ground := Go.Ground.phase }, { on := 6, ground := Go.Ground.phase }, { on := 7, ground := Go.Ground.phase }, { on := 8, ground := Go.Ground.phase }, { on := 9, ground := Go.Ground.textOnly Go.Departure.lateStores }, { on := 10, ground := Go.Ground.phase }], guard := none }) (v := ?v11z9) rfl (by kernel_rfl) (by kernel_rfl) (by kernel_rfl) (fun _ _ _ h => h) (Or.inl ⟨by rfl, ?y11z9⟩) hHeld ?r11z9
    case y11z9 => (intro w hSw; (try dsimp only at hSw); go_simp) <;> with_reducible rfl
    try simp only [Act.put, List.setIfInBounds_toArray, List.set_cons_zero, List.set_cons_succ]
    refine wpAnyH_take (i := 12) (oi := { dst := some 9, op := Go.Op.assign (Go.Operand.tmp 32), type := 28, pos := "law.go:48", after := #[{ on := 9, ground := Go.Ground.data }, { on := 11, ground := Go.Ground.chain }, { on := 0, ground := Go.Ground.phase }, { on := 1, ground := Go.Ground.phase }, { on := 2, ground := Go.Ground.phase }, { on := 3, ground := Go.Ground.phase }, { on := 4, ground := Go.Ground.phase }, { on := 5, ground := Go.Ground.phase }, { on := 6, ground := Go.Ground.phase }, { on := 7, ground := Go.Ground.phase }, { on := 8, ground := Go.Ground.phase }, { on := 9, ground := Go.Ground.phase }, { on := 10, ground := Go.Ground.phase }, { on := 11, ground := Go.Ground.phase }], guard := none }) (v := ?v12z10) rfl (by kernel_rfl) (by kernel_rfl) (by kernel_rfl) (fun _ _ _ h => h) (Or.inl ⟨by rfl, ?y12z10⟩) hHeld ?r12z10
    case y12z10 => (intro w hSw; (try dsimp only at hSw); go_simp) <;> with_reducible rfl
    try simp only [Act.put, List.setIfInBounds_toArray, List.set_cons_zero, List.set_cons_succ]
    refine wpAnyH_done (by kernel_rfl) ?_ _
    clear hHeld
    obtain ⟨p6, c6, rfl⟩ := hh5.shape
    have hS := csame_true _ _ bs w5 hb5 (kb.later b5)
    have hQ := fun W (hB : Below w5.heap.size w5 W) => equal_t _ _ more more W (hh5.later hB) ((km.later b5).later hB) rfl
    go_wp2_with fail
    refine hS.mono ?_
    rintro x w6 ⟨rfl, b6⟩
    go_wp2_with fail
    refine (hQ _ b6).mono ?_
    rintro x w7 ⟨rfl, hw7⟩
    subst hw7
    go_wp2_with fail
    refine (bawake_any _).mono ?_
    rintro x w8 ⟨rfl, b8⟩
    have bF := (bX.trans (b5.mono bX.size)).trans ((b6.trans (b8.mono b6.size)).mono (by have := b5.size; have := bX.size; omega))
    clear hS hQ
    go_wp2
    go_ret
    exact ⟨rfl, bF⟩
  · have hne : (er != 0) = true := by simpa using he
    obtain ⟨a0, a1, a2, a3, a4, a5, a6, a7⟩ := hcells X (Below.refl _ _)
    go_wp2_with fail
    refine (rcheck_any pa pb mi mk pc pd pe pf _ bs X kb).mono ?_
    rintro x w3 ⟨er3, rfl, hck3, b3⟩
    obtain rfl := chk_one hck hck3
    go_wp2_with fail
    refine (bawake_any _).mono ?_
    rintro x w4 ⟨rfl, b4⟩
    have bF := (bX.trans (b3.mono bX.size)).trans (b4.mono (by have := b3.size; have := bX.size; omega))
    clear hck hck3
    go_wp2
    go_ret
    exact ⟨rfl, bF⟩

end Go.Proofs.Ytnojghdgpglcjaa
