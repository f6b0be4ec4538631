/- What this text proves: the walk of annalsref12.Write over this program: bytes, and a batch behind them. (By program: held.py, mkcrwrite.py.) -/
import Derived.Test.YtnojghdgpglcjaaCWrite
import Derived.Test.YtnojghdgpglcjaaRPuts
import Derived.Test.YtnojghdgpglcjaaRegHeld
namespace Go.Proofs.Ytnojghdgpglcjaa
open Go.RowKit

set_option maxHeartbeats 4000000 in
theorem crwrite_any (v u : Value) (l : List UInt8) (bs : List (List UInt8 × List UInt8)) (w : World) (hv : HB w v l) (hu : BA w u bs) (hl : l.length ≤ 1048576) (hb : bulkB bs ≤ 1048576) (hn : bs.length ≤ 40) :
    Calls Try.prog 12 #[v, u] w fun x w' => ∃ v', x = .returned v' ∧ HB w' v' (l ++ wrL bs) ∧ Below w.heap.size w w' := by
  obtain ⟨p, c, rfl⟩ := hu.shape
  have hU := ruint_any v l (bs.length : Int) w hv (by omega)
  rw [clampN_nat bs.length (by omega)] at hU
  have hnl : (numL bs.length).length ≤ 9 := by
    rw [numL_length]
    have := cnt_le8 bs.length (by omega)
    omega
  have HW : Hid (l ++ wrL bs = l ++ numL bs.length ++ binL (bs.take bs.length)) := by show _ = _; rw [List.take_length]; simp [wrL]
  obtain ⟨F, hF⟩ : ∃ F, F = l ++ numL bs.length := ⟨_, rfl⟩
  rw [← hF] at hU HW
  have hFl : F.length ≤ 1048585 := by rw [hF, List.length_append]; omega
  clear hF hv
  go_enter Try.func12, Try.ntmps12
  go_wp2_with fail
  refine hU.mono ?_
  rintro x w1 ⟨p1, c1, rfl, o1, b1⟩
  have hh1 := HB.of_owns o1
  clear hU o1
  go_wp2
  go_loopw [5, 14] (fun v i wr => ∃ k : Nat, k ≤ bs.length ∧ i = .int .i64 (k : Int) ∧ HB wr v (F ++ binL (bs.take k)) ∧ Below w.heap.size w wr) (fun _ i _ => bs.length - (intOf i).toNat)
  case atStart => exact ⟨0, Nat.zero_le _, rfl, by simpa [binL] using hh1, b1⟩
  case round =>
    clear hh1
    obtain ⟨k, hk, rfl, hH, hbe⟩ := hrel
    by_cases hlt : k < bs.length
    · obtain ⟨bl, o, rfl⟩ := hu.addr (by omega)
      obtain ⟨x, q, kc, r, d, hx, c1', c2', h1, h2⟩ := hu.get k hlt
      have hlt2 : (k : Int) < (bs.length : Int) := by omega
      have hmem := List.mem_of_getElem? hx.out
      have hxb := bulkB_mem hmem
      have hbt2 := bulkB_take bs k
      have hbt := binL_len (bs.take k) (by omega)
      have htl : (bs.take k).length ≤ 40 := by simp; omega
      have HB1 : F ++ binL (bs.take (k + 1)) = F ++ binL (bs.take k) ++ bytesL x.1 ++ bytesL x.2 := by rw [binL_take bs k x hx.out]; simp
      have e1 := bytesL_big x.1 (by omega)
      have hGl : (F ++ binL (bs.take k)).length ≤ 2200000 := by rw [List.length_append]; omega
      have x1 := cell_later hbe c1'
      have x2 := cell_later hbe c2'
      have bA := (Below.refl wr.heap.size wr).alloc (Nat.le_refl _) (.cells #[.slice q x.1.length kc, .slice r x.2.length d] 42)
      have gA := heap_alloc_new wr (.cells #[.slice q x.1.length kc, .slice r x.2.length d] 42)
      obtain ⟨V, hV⟩ : ∃ V, V = wr.alloc (.cells #[.slice q x.1.length kc, .slice r x.2.length d] 42) := ⟨_, rfl⟩
      rw [← hV] at bA gA
      have bV0 := hbe.trans (bA.mono hbe.size)
      have hgl : wr.heap.size < V.heap.size := (Array.getElem?_eq_some_iff.1 gA).1
      have HC1 : Hid (∀ W, Below V.heap.size V W → Calls Try.prog 26 #[u5, .slice q x.1.length kc] W fun y w' => ∃ v2, y = .returned v2 ∧ HB w' v2 (F ++ binL (bs.take k) ++ bytesL x.1) ∧ Below W.heap.size W w') := fun W hB => (rbytes_any _ _ _ _ W ((hH.later bA).later hB) (h1.later (bV0.trans (hB.mono bV0.size))) (by omega)).mono fun y w' ⟨p2, c2, e, o2, b2⟩ => ⟨_, e, HB.of_owns o2, b2⟩
      have HC2 : Hid (∀ v W, Below V.heap.size V W → HB W v (F ++ binL (bs.take k) ++ bytesL x.1) → Calls Try.prog 26 #[v, .slice r x.2.length d] W fun y w' => ∃ v2, y = .returned v2 ∧ HB w' v2 (F ++ binL (bs.take (k + 1))) ∧ Below W.heap.size W w') := fun v W hB hv => by
        rw [HB1]
        exact (rbytes_any _ _ _ _ W hv (h2.later (bV0.trans (hB.mono bV0.size))) (by rw [List.length_append]; omega)).mono fun y w' ⟨p2, c2, e, o2, b2⟩ => ⟨_, e, HB.of_owns o2, b2⟩
      have hcells : ∀ W, Below V.heap.size V W → W.cell? ⟨wr.heap.size, 0, none⟩ = some (.slice q x.1.length kc) ∧ W.cell? ⟨wr.heap.size, 1, none⟩ = some (.slice r x.2.length d) := by
        intro W hB
        have g1 := (hB.block _ hgl).trans gA
        refine ⟨?_, ?_⟩ <;> (rw [cell_of_row _ _ _ _ _ _ g1]; rfl)
      clear hx hbt htl hbt2 h1 h2 hmem HW bA c1' c2' HB1 e1 hGl hH gA
      go_wp2
      rw [← hV]
      clear hV x1 x2
      have bD : Below V.heap.size V V.drew := (Below.refl _ V).drew
      have hHeld := hcells V.drew bD
      refine wp_region_heldN (by kernel_rfl) (fun W => W.cell? ⟨wr.heap.size, 0, none⟩ = some (.slice q x.1.length kc) ∧ W.cell? ⟨wr.heap.size, 1, none⟩ = some (.slice r x.2.length d)) 8 rfl ?_
      refine wpAnyH_take (i := 0) (oi := { dst := some 18, op := Go.Op.move (Go.Operand.tmp 5), type := 25, pos := "ref.go:55", after := #[], guard := none }) (v := ?v0z1) rfl (by kernel_rfl) (by kernel_rfl) (by kernel_rfl) (fun _ _ _ h => h) (Or.inl ⟨by rfl, ?y0z1⟩) hHeld ?r0z1
      case y0z1 => (intro w hSw; (try dsimp only at hSw); go_simp) <;> with_reducible rfl
      try simp only [Act.put, List.setIfInBounds_toArray, List.set_cons_zero, List.set_cons_succ]
      refine wpAnyH_take (i := 1) (oi := { dst := some 19, op := Go.Op.fieldAddr 42 (Go.Operand.tmp 7) 0, type := 0, pos := "ref.go:55", after := #[], guard := none }) (v := ?v1z2) rfl (by kernel_rfl) (by kernel_rfl) (by kernel_rfl) (fun _ _ _ h => h) (Or.inl ⟨by rfl, ?y1z2⟩) hHeld ?r1z2
      case y1z2 => (intro w hSw; (try dsimp only at hSw); go_simp) <;> with_reducible rfl
      try simp only [Act.put, List.setIfInBounds_toArray, List.set_cons_zero, List.set_cons_succ]
      refine wpAnyH_take (i := 2) (oi := { dst := some 20, op := Go.Op.load 25 (Go.Operand.tmp 19), type := 25, pos := "ref.go:55", after := #[{ on := 1, ground := Go.Ground.data }], guard := none }) (v := ?v2z3) rfl (by kernel_rfl) (by kernel_rfl) (by kernel_rfl) (fun _ _ _ h => h) (Or.inl ⟨by rfl, ?y2z3⟩) hHeld ?r2z3
      case y2z3 => (intro w hSw; (try dsimp only at hSw); go_simp) <;> with_reducible rfl
      try simp only [Act.put, List.setIfInBounds_toArray, List.set_cons_zero, List.set_cons_succ]
      refine wpAnyH_take (i := 4) (oi := { dst := some 22, op := Go.Op.fieldAddr 42 (Go.Operand.tmp 7) 1, type := 0, pos := "ref.go:55", after := #[], guard := none }) (v := ?v4z4) rfl (by kernel_rfl) (by kernel_rfl) (by kernel_rfl) (fun _ _ _ h => h) (Or.inl ⟨by rfl, ?y4z4⟩) hHeld ?r4z4
      case y4z4 => (intro w hSw; (try dsimp only at hSw); go_simp) <;> with_reducible rfl
      try simp only [Act.put, List.setIfInBounds_toArray, List.set_cons_zero, List.set_cons_succ]
      refine wpAnyH_take (i := 5) (oi := { dst := some 23, op := Go.Op.load 25 (Go.Operand.tmp 22), type := 25, pos := "ref.go:55", after := #[{ on := 4, ground := Go.Ground.data }], guard := none }) (v := ?v5z5) rfl (by kernel_rfl) (by kernel_rfl) (by kernel_rfl) (fun _ _ _ h => h) (Or.inl ⟨by rfl, ?y5z5⟩) hHeld ?r5z5
      case y5z5 => (intro w hSw; (try dsimp only at hSw); go_simp) <;> with_reducible rfl
      try simp only [Act.put, List.setIfInBounds_toArray, List.set_cons_zero, List.set_cons_succ]
      refine wpAnyH_ready (rs := [3]) (by kernel_rfl) (by simp) ?_
      refine AllReadyH.cons (o := { dst := some 21, op := Go.Op.call { callee := Go.Callee.value (Go.Operand.func 26), args := #[Go.Operand.tmp 18, Go.Operand.tmp 20], argTypes := #[25, 25] }, type := 25, pos := "ref.go:55", after := #[{ on := 0, ground := Go.Ground.data }, { on := 2, ground := Go.Ground.data }], guard := none }) rfl (fun K hK => ?_) AllReadyH.nil
      go_simp
      refine (HC1.out _ bD).mono ?_
      rintro y w2 ⟨v2, rfl, hh2, b2'⟩
      have b2 := bD.trans (b2'.mono bD.size)
      replace hHeld := hcells w2 b2
      refine hK.out _ _ ?_ (fun _ => ?_)
      · exact hHeld
      clear hK K
      try simp only [Act.put, List.setIfInBounds_toArray, List.set_cons_zero, List.set_cons_succ]
      refine wpAnyH_ready (rs := [6]) (by kernel_rfl) (by simp) ?_
      refine AllReadyH.cons (o := { dst := some 24, op := Go.Op.call { callee := Go.Callee.value (Go.Operand.func 26), args := #[Go.Operand.tmp 21, Go.Operand.tmp 23], argTypes := #[25, 25] }, type := 25, pos := "ref.go:55", after := #[{ on := 3, ground := Go.Ground.data }, { on := 5, ground := Go.Ground.data }, { on := 3, ground := Go.Ground.chain }], guard := none }) rfl (fun K hK => ?_) AllReadyH.nil
      go_simp
      refine (HC2.out _ _ b2 hh2).mono ?_
      rintro y w3 ⟨v3, rfl, hh3, b3'⟩
      have b3 := b2.trans (b3'.mono b2.size)
      replace hHeld := hcells w3 b3
      refine hK.out _ _ ?_ (fun _ => ?_)
      · exact hHeld
      clear hK K
      try simp only [Act.put, List.setIfInBounds_toArray, List.set_cons_zero, List.set_cons_succ]
      refine wpAnyH_take (i := 7) (oi := { dst := some 5, op := Go.Op.assign (Go.Operand.tmp 24), type := 25, pos := "ref.go:55", after := #[{ on := 6, ground := Go.Ground.data }, { on := 6, ground := Go.Ground.chain }, { on := 0, ground := Go.Ground.phase }, { on := 1, ground := Go.Ground.phase }, { on := 2, ground := Go.Ground.phase }, { on := 3, ground := Go.Ground.phase }, { on := 4, ground := Go.Ground.phase }, { on := 5, ground := Go.Ground.phase }, { on := 6, ground := Go.Ground.phase }], guard := none }) (v := ?v7z6) rfl (by kernel_rfl) (by kernel_rfl) (by kernel_rfl) (fun _ _ _ h => h) (Or.inl ⟨by rfl, ?y7z6⟩) hHeld ?r7z6
      case y7z6 => (intro w hSw; (try dsimp only at hSw); go_simp) <;> with_reducible rfl
      try simp only [Act.put, List.setIfInBounds_toArray, List.set_cons_zero, List.set_cons_succ]
      refine wpAnyH_done (by kernel_rfl) ?_ _
      have bF := bV0.trans (b3.mono bV0.size)
      clear hHeld hcells HC1 HC2
      go_wp2
      go_roundw
      case rel => first | exact ⟨k + 1, by omega, by go_num, hh3, bF⟩ | ((repeat apply Exists.intro); exact ⟨⟨k + 1, by omega, by go_num, hh3, bF⟩, rfl⟩)
      case measure => simp [intOf]; omega
    · obtain rfl : k = bs.length := by omega
      rw [← HW.out] at hH
      clear HW
      go_wp2
      go_ret
      exact ⟨_, rfl, hH, hbe⟩

end Go.Proofs.Ytnojghdgpglcjaa
