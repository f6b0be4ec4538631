/- What this text proves: the walk of annalsref19.Prove over this program: what shows a page, epoch by epoch. (By program: held.py, mkfdrprove.py.) -/
import Derived.Test.YtggficgmjbgmpaaDoorJCf
import Derived.Test.YtggficgmjbgmpaaDoorJFs
import Derived.Test.YtggficgmjbgmpaaDoorJKs
import Derived.Test.YtggficgmjbgmpaaDoorJKt
import Derived.Deep.AppendLies
namespace Go.Proofs.YtggficgmjbgmpaaDoor
open Go.RowKit

theorem i_rows : (Tryd.prog.info? 33).map (fun i => (i.zero, i.size, i.bytes)) = some (some (.slice none 0 0), 1, 24) := by kernel_rfl
theorem i_intF : (Tryd.prog.info? 3).map (fun i => (i.zero, i.size, i.bytes)) = some (some (.int .i64 0), 1, 8) := by kernel_rfl

set_option maxRecDepth 100000 in
set_option maxHeartbeats 8000000 in
theorem rprove_any (size ix lm : Int) (v : Value) (bss : List (List (List UInt8 × List UInt8))) (w : World) (h : GA BA w v bss) (hn : bss.length ≤ 1000) (he : ∀ b ∈ bss, b.length ≤ 1000) (hix : -9223372036854775808 ≤ ix ∧ ix ≤ 9223372036854775807) (hlm : -9223372036854775808 ≤ lm ∧ lm ≤ 9223372036854775807) :
    Calls Tryd.prog 8 #[.int .i64 size, v, .int .i64 ix, .int .i64 lm] w fun e w' => ∃ p c, e = .returned (.slice p (prvF size bss ix lm).length c) ∧ GA LR w' (.slice p (prvF size bss ix lm).length c) (prvF size bss ix lm) ∧ Below w.heap.size w w' := by
  obtain ⟨p, c, rfl⟩ := h.shape
  obtain ⟨i0, hi0, hz0, hz1, hz2⟩ := info_parts i_rows
  obtain ⟨j0, hj0, hy0, hy1, hy2⟩ := info_parts i_intF
  have HC : Hid (∀ v W, IZ W v (cntL bss) → Calls Tryd.prog 11 #[v, .int .i64 ix, .int .i64 lm] W fun e w' => ∃ u, e = .returned u ∧ w'.ownsRow W.heap.size 30 2 u (cutsG 0 (cntL bss) ix lm).length (cutCs (cutsG 0 (cntL bss) ix lm)) ∧ Below W.heap.size W w') :=
    fun v W hi => rcuts_any v _ ix lm W hi (by rw [cntL_len]; omega) hix hlm (cntL_w bss fun b hb => by have := he b hb; omega)
  have HI : Hid (∀ i x, (cutsG 0 (cntL bss) ix lm)[i]? = some x → x.1 = i ∧ i < bss.length) := fun i x hx => by
    obtain ⟨h1, h2⟩ := cutsG_idx _ _ _ _ i x hx
    rw [cntL_len] at h2
    exact ⟨by omega, h2⟩
  have hXl : (cutsG 0 (cntL bss) ix lm).length ≤ bss.length := by rw [← cntL_len bss]; exact cutsG_len _ _ _ _
  have HP : Hid (prvF size bss ix lm = (cutsG 0 (cntL bss) ix lm).map (prv1 size bss)) := rfl
  have HE : Hid (∀ b ∈ bss, b.length ≤ 1000) := he
  generalize prvF size bss ix lm = PF at *
  generalize cutsG 0 (cntL bss) ix lm = X at *
  clear hix hlm he
  go_enter Tryd.func8, Tryd.ntmps8
  go_wp2
  go_loopw [9, 17] (fun v i wr => ∃ k : Nat, k ≤ bss.length ∧ i = .int .i64 (k : Int) ∧ wr.ownsRow w.heap.size 3 1 v k (izs (cntL (bss.take k))) ∧ Below w.heap.size w wr) (fun _ i _ => bss.length - (intOf i).toNat)
  case atStart => exact ⟨0, Nat.zero_le _, rfl, World.ownsRow_nil _ _ _ _, Below.refl _ _⟩
  case round =>
    obtain ⟨k, hk, rfl, hr, hbe⟩ := hrel
    have hsz := hbe.size
    by_cases hlt : k < bss.length
    · obtain ⟨bl, o, rfl⟩ := h.addr (by omega)
      obtain ⟨x, u, hx, c1, h1⟩ := h.get k hlt
      obtain ⟨q, kc, rfl⟩ := h1.shape
      have hlt2 : (k : Int) < (bss.length : Int) := by omega
      have e1 := cell_later hbe c1
      have HT : Hid (izs (cntL (bss.take k)) ++ [.int .i64 (x.length : Int)] = izs (cntL (bss.take (k + 1)))) := by
        show _ = _
        rw [← izs_snoc, cntL_take bss k x hx.out]
      obtain ⟨pu, cu, rfl⟩ := owns_shape hr
      have bB := (Below.refl wr.heap.size wr).alloc (Nat.le_refl _) (.cells #[.int .i64 (x.length : Int)] 3)
      have oB := owns_later hr bB
      clear hx c1 h1 hr
      go_wp2_with (first | (at_builtin; refine wpList_append_own _ rfl (.tmp 21) (.tmp 24) 22 rfl w.heap.size 3 j0 (.int .i64 0) 1 8 Tryd.underlying22 hj0 hy0 hy1 hy2 rfl (by decide) _ _ _ rfl oB ⟨wr.heap.size, 0, none⟩ 1 1 [.int .i64 (x.length : Int)] rfl rfl (cell_one_new _ _ _) ?ub ?uc ?ud ?ue ?_))
      case ub => first | rfl | (intro u hu; simp at hu; subst hu; rfl)
      case uc => unfold maxLen; omega
      case ud => omega
      case ue => first | omega | (simp; omega)
      intro v6 w6 hown6 hgrow6 _
      rw [HT.out] at hown6
      have hb6 : Below w.heap.size w w6 := (hbe.alloc hsz _).grown hgrow6 (by simp; omega) (fun k hk => (oB.lt k hk).1)
      clear hgrow6 oB bB HT
      go_wp2
      go_roundw
      case rel => exact ⟨k + 1, by omega, by go_num, hown6, hb6⟩
      case measure => simp [intOf]; omega
    · obtain rfl : k = bss.length := by omega
      rw [List.take_length] at hr
      have hiz := IZ.of_owns hr
      obtain ⟨pu, cu, rfl⟩ := owns_shape hr
      have hC := HC.out _ _ hiz
      clear hr hiz HC
      go_wp2_with fail
      refine hC.mono ?_
      rintro e w1 ⟨u1, rfl, o1, b1'⟩
      have b1 := hbe.trans (b1'.mono hbe.size)
      have hca := CA.of_owns o1
      obtain ⟨p1, c1, rfl⟩ := owns_shape o1
      clear hC o1 b1' hbe
      go_wp2
      go_loopw [12, 32] (fun v i wr => ∃ k : Nat, k ≤ X.length ∧ i = .int .i64 (k : Int) ∧ GL LR wr w1.heap.size 33 v ((X.take k).map (prv1 size bss)) ∧ (Below w.heap.size w wr ∧ Below w1.heap.size w1 wr)) (fun _ i _ => X.length - (intOf i).toNat)
      case atStart => exact ⟨0, Nat.zero_le _, rfl, GL.nil _ _ _ _, b1, Below.refl _ _⟩
      case round =>
        obtain ⟨k, hk, rfl, hr, hbe, hbe1⟩ := hrel
        have hsz := hbe.size
        by_cases hlt : k < X.length
        · obtain ⟨x, hx⟩ : ∃ x, X[k]? = some x := ⟨_, List.getElem?_eq_getElem hlt⟩
          obtain ⟨hx1, hx2⟩ := HI.out k x hx
          obtain ⟨g1, o1, hpa, hq1⟩ := (hca.later hbe1).addr (by simpa using (show 0 < X.length by omega))
          subst hpa
          have hxm : (X.map (·.2))[k]? = some x.2 := by rw [List.getElem?_map, hx]; rfl
          obtain ⟨d1, d2⟩ := hq1 k x.2 hxm
          have hp1 : prv1 size bss x = rngF size ((bss.getD k []).map (clF size)) x.2.1 x.2.2 := by unfold prv1; rw [hx1]
          have HT : Hid ((X.take k).map (prv1 size bss) ++ [prv1 size bss x] = (X.take (k + 1)).map (prv1 size bss)) := by
            show _ = _
            rw [List.take_add_one, hx]
            simp
          rw [hp1] at HT
          have hAl : ((X.take k).map (prv1 size bss)).length ≤ 1000 := by simp; omega
          generalize (X.take k).map (prv1 size bss) = A at *
          obtain ⟨fr, hfr⟩ : ∃ fr, x.2.1 = fr := ⟨_, rfl⟩
          obtain ⟨to, hto⟩ : ∃ to, x.2.2 = to := ⟨_, rfl⟩
          rw [hfr, hto] at HT
          rw [hfr] at d1
          rw [hto] at d2
          obtain ⟨bl, o, rfl⟩ := h.addr (by omega)
          obtain ⟨y, u, hy, c1', h1⟩ := h.get k hx2
          obtain ⟨q, kc, rfl⟩ := h1.shape
          have hyl := HE.out y (List.mem_of_getElem? hy.out)
          have hyd : bss.getD k [] = y := by rw [List.getD_eq_getElem?_getD, hy.out]; rfl
          rw [hyd] at HT
          have e1 := cell_later hbe c1'
          have hlt2 : (k : Int) < (X.length : Int) := by omega
          have hkb : (k : Int) < (bss.length : Int) := by omega
          obtain ⟨C, hC⟩ : ∃ C, C = wr.alloc (.cells #[.int .i64 fr, .int .i64 to] 30) := ⟨_, rfl⟩
          have bC := (Below.refl wr.heap.size wr).alloc (Nat.le_refl _) (.cells #[.int .i64 fr, .int .i64 to] 30)
          have gC := heap_alloc_new wr (.cells #[.int .i64 fr, .int .i64 to] 30)
          have hbC := hbe.alloc hsz (.cells #[.int .i64 fr, .int .i64 to] 30)
          have hbC1 := hbe1.alloc hbe1.size (.cells #[.int .i64 fr, .int .i64 to] 30)
          rw [← hC] at bC gC hbC hbC1
          obtain ⟨vs, oW, qW⟩ := hr
          have oC := owns_later oW bC
          have qC : ∀ (j : Nat) u z, vs[j]? = some u → A[j]? = some z → LR C u z := fun j u z hu hz => (qW j u z hu hz).later bC
          have HLv : Hid (∀ W, Below C.heap.size C W → Calls Tryd.prog 25 #[.int .i64 size, .slice q y.length kc] W fun e w' => ∃ p c, e = .returned (.slice p (y.map (clF size)).length c) ∧ PA w' (.slice p (y.map (clF size)).length c) (y.map (clF size)) ∧ Below W.heap.size W w') :=
            fun W hW => rleaves12_any size _ y W (h1.later (hbC.trans (hW.mono hbC.size))) (by omega)
          have HRg : Hid (∀ v W, PA W v (y.map (clF size)) → Calls Tryd.prog 24 #[.int .i64 size, v, .int .i64 fr, .int .i64 to] W (RSaid W (rngF size (y.map (clF size)) fr to))) :=
            fun v W hp => rrange_any size v _ fr to W hp (by simp; omega) (clF_le size y)
          generalize rngF size (y.map (clF size)) fr to = F at *
          generalize y.map (clF size) = LV at *
          obtain ⟨pu, cu, rfl⟩ := owns_shape oC
          have hlo : ∀ r, (Value.slice pu A.length cu).ownBlock = some r → w1.heap.size ≤ r ∧ r < wr.heap.size := fun r hr' => oW.lt r hr'
          have hbl : bl < w.heap.size := World.block_lt_of_cell? w _ c1'
          have ltC : wr.heap.size < C.heap.size := by rw [hC]; simp
          have hcells : ∀ W, Below C.heap.size C W → W.cell? ⟨bl, o + k, none⟩ = some (.slice q y.length kc) ∧ W.cell? ⟨wr.heap.size, 0, none⟩ = some (.int .i64 fr) ∧ W.cell? ⟨wr.heap.size, 1, none⟩ = some (.int .i64 to) := fun W hW =>
            ⟨cell_later hW (cell_later bC e1), by rw [cell_of_row _ _ _ _ _ _ ((hW.block _ ltC).trans gC)]; rfl, by rw [cell_of_row _ _ _ _ _ _ ((hW.block _ ltC).trans gC)]; rfl⟩
          have hcells7 : ∀ (W W' : World), Below C.heap.size C W → W.grownBy W' (Value.slice pu A.length cu).ownBlock → W'.cell? ⟨bl, o + k, none⟩ = some (.slice q y.length kc) ∧ W'.cell? ⟨wr.heap.size, 0, none⟩ = some (.int .i64 fr) ∧ W'.cell? ⟨wr.heap.size, 1, none⟩ = some (.int .i64 to) := fun W W' hW hg => by
            obtain ⟨a1, a2, a3⟩ := hcells W hW
            exact ⟨hg.cell a1 (fun e => by have := hlo bl e.symm; have := b1.size; omega), hg.cell a2 (fun e => by have := hlo wr.heap.size e.symm; omega), hg.cell a3 (fun e => by have := hlo wr.heap.size e.symm; omega)⟩
          clear hx hxm hq1 h1 hp1 hfr hto hyd hy c1' HI hbe1 hx1 oW qW
          go_wp2
          have hCs : wr.alloc (.cells #[.int .i64 fr, .int .i64 to] 30) = C := hC.symm
          clear hC
          (try rw [hCs])
          have bD : Below C.heap.size C C.drew := (Below.refl _ C).drew
          have hHeld := hcells C.drew bD
          refine wp_region_heldN (by kernel_rfl) (fun W => W.cell? ⟨bl, o + k, none⟩ = some (.slice q y.length kc) ∧ W.cell? ⟨wr.heap.size, 0, none⟩ = some (.int .i64 fr) ∧ W.cell? ⟨wr.heap.size, 1, none⟩ = some (.int .i64 to)) 16 rfl ?_
          refine tkY 0 ⟨some 37, .move (.tmp 12), 25, "ref.go:36", #[], none⟩ ?v0z1 hHeld ?y0z1 ?r0z1
          case y0z1 => (intro w hSw; (try dsimp only at hSw); go_simp) <;> with_reducible rfl
          try simp only [Act.put, List.setIfInBounds_toArray, List.set_cons_zero, List.set_cons_succ]
          refine tkY 1 ⟨some 38, .move (.tmp 0), 3, "ref.go:36", #[], none⟩ ?v1z2 hHeld ?y1z2 ?r1z2
          case y1z2 => (intro w hSw; (try dsimp only at hSw); go_simp) <;> with_reducible rfl
          try simp only [Act.put, List.setIfInBounds_toArray, List.set_cons_zero, List.set_cons_succ]
          refine tkY 2 ⟨some 39, .move (.tmp 0), 3, "ref.go:36", #[], none⟩ ?v2z3 hHeld ?y2z3 ?r2z3
          case y2z3 => (intro w hSw; (try dsimp only at hSw); go_simp) <;> with_reducible rfl
          try simp only [Act.put, List.setIfInBounds_toArray, List.set_cons_zero, List.set_cons_succ]
          refine tkY 3 ⟨some 40, .move (.tmp 1), 23, "ref.go:36", #[], none⟩ ?v3z4 hHeld ?y3z4 ?r3z4
          case y3z4 => (intro w hSw; (try dsimp only at hSw); go_simp) <;> with_reducible rfl
          try simp only [Act.put, List.setIfInBounds_toArray, List.set_cons_zero, List.set_cons_succ]
          refine tkY 4 ⟨some 41, .move (.tmp 13), 3, "ref.go:36", #[], none⟩ ?v4z5 hHeld ?y4z5 ?r4z5
          case y4z5 => (intro w hSw; (try dsimp only at hSw); go_simp) <;> with_reducible rfl
          try simp only [Act.put, List.setIfInBounds_toArray, List.set_cons_zero, List.set_cons_succ]
          refine tkY 5 ⟨some 42, .indexAddr 23 (.tmp 40) (.tmp 41), 0, "ref.go:36", #[⟨3, .data⟩, ⟨4, .data⟩], none⟩ ?v5z6 hHeld ?y5z6 ?r5z6
          case y5z6 => (intro w hSw; (try dsimp only at hSw); go_simp) <;> with_reducible rfl
          try simp only [Act.put, List.setIfInBounds_toArray, List.set_cons_zero, List.set_cons_succ]
          refine tkY 6 ⟨some 43, .load 47 (.tmp 42), 47, "ref.go:36", #[⟨5, .data⟩], none⟩ ?v6z7 hHeld ?y6z7 ?r6z7
          case y6z7 => (intro w hSw; (try dsimp only at hSw); go_simp) <;> with_reducible rfl
          try simp only [Act.put, List.setIfInBounds_toArray, List.set_cons_zero, List.set_cons_succ]
          refine tkY 8 ⟨some 45, .fieldAddr 30 (.tmp 14) 0, 0, "ref.go:36", #[], none⟩ ?v8z8 hHeld ?y8z8 ?r8z8
          case y8z8 => (intro w hSw; (try dsimp only at hSw); go_simp) <;> with_reducible rfl
          try simp only [Act.put, List.setIfInBounds_toArray, List.set_cons_zero, List.set_cons_succ]
          refine tkY 9 ⟨some 46, .load 3 (.tmp 45), 3, "ref.go:36", #[⟨8, .data⟩], none⟩ ?v9z9 hHeld ?y9z9 ?r9z9
          case y9z9 => (intro w hSw; (try dsimp only at hSw); go_simp) <;> with_reducible rfl
          try simp only [Act.put, List.setIfInBounds_toArray, List.set_cons_zero, List.set_cons_succ]
          refine tkY 10 ⟨some 47, .fieldAddr 30 (.tmp 14) 1, 0, "ref.go:36", #[], none⟩ ?v10z10 hHeld ?y10z10 ?r10z10
          case y10z10 => (intro w hSw; (try dsimp only at hSw); go_simp) <;> with_reducible rfl
          try simp only [Act.put, List.setIfInBounds_toArray, List.set_cons_zero, List.set_cons_succ]
          refine tkY 11 ⟨some 48, .load 3 (.tmp 47), 3, "ref.go:36", #[⟨10, .data⟩], none⟩ ?v11z11 hHeld ?y11z11 ?r11z11
          case y11z11 => (intro w hSw; (try dsimp only at hSw); go_simp) <;> with_reducible rfl
          try simp only [Act.put, List.setIfInBounds_toArray, List.set_cons_zero, List.set_cons_succ]
          refine wpAnyH_ready (rs := [7]) (by kernel_rfl) (by simp) ?_
          refine AllReadyH.cons (o := ⟨some 44, .call { callee := .value (.func 25), args := #[.tmp 39, .tmp 43], argTypes := #[3, 47] }, 33, "ref.go:36", #[⟨2, .data⟩, ⟨6, .data⟩], none⟩) rfl (fun K hK => ?_) AllReadyH.nil
          go_simp
          refine (HLv.out _ bD).mono ?_
          rintro e3 w3 ⟨p3, c3, rfl, k3, b3'⟩
          have b3 := bD.trans (b3'.mono bD.size)
          replace hHeld := hcells w3 b3
          refine hK.out _ _ ?_ (fun _ => ?_)
          · exact hHeld
          clear hK K
          try simp only [Act.put, List.setIfInBounds_toArray, List.set_cons_zero, List.set_cons_succ]
          refine wpAnyH_ready (rs := [12]) (by kernel_rfl) (by simp) ?_
          refine AllReadyH.cons (o := ⟨some 49, .call { callee := .value (.func 24), args := #[.tmp 38, .tmp 44, .tmp 46, .tmp 48], argTypes := #[3, 33, 3, 3] }, 33, "ref.go:36", #[⟨1, .data⟩, ⟨7, .data⟩, ⟨9, .data⟩, ⟨11, .data⟩, ⟨7, .chain⟩], none⟩) rfl (fun K hK => ?_) AllReadyH.nil
          go_simp
          refine (HRg.out _ _ k3).mono ?_
          rintro e4 w4 ⟨p4, c4, rfl, k4, b4'⟩
          have b4 := b3.trans (b4'.mono b3.size)
          replace hHeld := hcells w4 b4
          have bB4 := (Below.refl w4.heap.size w4).alloc (Nat.le_refl _) (.cells #[.slice p4 F.length c4] 33)
          have bB := b4.trans (bB4.mono b4.size)
          have oB := owns_later (owns_later oC b4) bB4
          have k4B := k4.later bB4
          have nB := heap_alloc_new w4 (.cells #[.slice p4 F.length c4] 33)
          refine hK.out _ _ ?_ (fun _ => ?_)
          · exact hHeld
          clear hK K
          try simp only [Act.put, List.setIfInBounds_toArray, List.set_cons_zero, List.set_cons_succ]
          refine wpAnyH_ready (rs := [13]) (by kernel_rfl) (by simp) ?_
          refine AllReadyH.cons (o := ⟨some 50, .buildSlice 25 1 #[(0, .tmp 49)], 25, "ref.go:36", #[⟨12, .data⟩], none⟩) rfl (fun K hK => ?_) AllReadyH.nil
          go_simp
          replace hHeld := hcells _ bB
          refine hK.out _ _ ?_ (fun _ => ?_)
          · exact hHeld
          clear hK K
          try simp only [Act.put, List.setIfInBounds_toArray, List.set_cons_zero, List.set_cons_succ]
          refine wpAnyH_ready (rs := [14]) (by kernel_rfl) (by simp) ?_
          refine AllReadyH.cons (o := ⟨some 51, .call { callee := .builtin .append, args := #[.tmp 37, .tmp 50], argTypes := #[25, 25] }, 25, "ref.go:36", #[⟨0, .data⟩, ⟨13, .data⟩, ⟨12, .chain⟩], none⟩) rfl (fun K hK => ?_) AllReadyH.nil
          refine step_append_lies _ (by rfl) (.tmp 37) (.tmp 50) _ (by rfl) w1.heap.size 33 i0 _ 1 24 Tryd.underlying25 hi0 hz0 hz1 hz2 rfl (by decide) _ A.length vs (by rfl) oB ⟨w4.heap.size, 0, none⟩ 1 1 [.slice p4 F.length c4] (by rfl) (by rfl) (World.news_of_block (cs := #[.slice p4 F.length c4]) (t := 33) (fr := (0, 0)) nB) (by simp [Value.oneCell']) (by omega) (by unfold maxLen; omega) (by omega) (by have := hbC1.size; have := b4.size; simp; omega) (w4.heap.size + 1) (by simp) ?_
          intro g7 cap7 w7 o7 gr7 _ _
          have bw7 : Below w.heap.size w w7 := (hbC.trans (bB.mono hbC.size)).grown gr7 (by have := hbC.size; have := b4.size; simp; omega) (fun r hr => by have := (oB.lt r hr).1; have := b1.size; omega)
          have od := odd_row oB (by decide) (by decide)
          replace hHeld := hcells7 _ w7 bB gr7
          refine hK.out _ _ ?_ (fun _ => ?_)
          · exact hHeld
          clear hK K
          try simp only [Act.put, List.setIfInBounds_toArray, List.set_cons_zero, List.set_cons_succ]
          refine tkY 15 ⟨some 12, .assign (.tmp 51), 25, "ref.go:36", #[⟨14, .data⟩, ⟨14, .chain⟩, ⟨0, .phase⟩, ⟨1, .phase⟩, ⟨2, .phase⟩, ⟨3, .phase⟩, ⟨4, .phase⟩, ⟨5, .phase⟩, ⟨6, .phase⟩, ⟨7, .phase⟩, ⟨8, .phase⟩, ⟨9, .phase⟩, ⟨10, .phase⟩, ⟨11, .phase⟩, ⟨12, .phase⟩, ⟨13, .phase⟩, ⟨14, .phase⟩], none⟩ ?v15z12 hHeld ?y15z12 ?r15z12
          case y15z12 => (intro w hSw; (try dsimp only at hSw); go_simp) <;> with_reducible rfl
          try simp only [Act.put, List.setIfInBounds_toArray, List.set_cons_zero, List.set_cons_succ]
          refine wpAnyH_done (by kernel_rfl) ?_ _
          have r7 : GL LR w7 w1.heap.size 33 (.slice (some ⟨g7, 0, none⟩) (A.length + 1) cap7) (A ++ [F]) := GL.snoc oB (fun j u y hu hy => ((qC j u y hu hy).later b4).later bB4) ⟨_, k4B⟩ o7 (fun _ _ h => h.grown gr7 od)
          rw [HT.out] at r7
          have bw17 : Below w1.heap.size w1 w7 := (hbC1.trans (bB.mono hbC1.size)).grown gr7 (by have := hbC1.size; have := b4.size; simp; omega) (fun r hr => (oB.lt r hr).1)
          clear hHeld hcells hcells7 o7 gr7 oB k4B nB bB bB4 k4 k3 b3 b4 b3' b4' od HT
          go_wp2
          go_roundw
          case rel => exact ⟨k + 1, by omega, by go_num, r7, bw7, bw17⟩
          case measure => simp [intOf]; omega
        · obtain rfl : k = X.length := by omega
          rw [List.take_length, ← HP.out] at hr
          have hga := hr.ga
          obtain ⟨p3, c3, rfl⟩ := hga.shape
          clear hr h hca HP
          go_wp2
          go_ret
          exact ⟨_, _, rfl, hga, hbe⟩

end Go.Proofs.YtggficgmjbgmpaaDoor
