/- What this text proves: the walk of skip.linked over this program: whether a record may be, and its hash stands at its link in another one. (By program: held.py, mklinked.py.) -/
import Derived.Test.YtgfddabccjfhiaaDoorJF8
import Derived.Test.YtgfddabccjfhiaaDoorRegHeld
namespace Go.Proofs.YtgfddabccjfhiaaDoor
open Go.RowKit

set_option maxRecDepth 100000 in
set_option maxHeartbeats 8000000 in
theorem linked_any (size : Int) (f r : Rc) (ftv flv fkv rtv rlv rkv : Value) (w : World) (hf1 : HB w ftv f.tr) (hf2 : HB w flv f.li) (hf3 : PA w fkv f.lk) (hr1 : HB w rtv r.tr) (hr2 : HB w rlv r.li) (hr3 : PA w rkv r.lk) (hTD : TD w) (hT : Tabs w) (hcan : canB size f = true) (h0 : 0 ≤ r.e) (hmem : r.e.toNat ∈ linksL f.e.toNat) :
    Calls Tryd.prog 63 #[.int .i64 size, .agg #[.int .i64 f.e, .int .i64 f.t, ftv, .int .i64 f.c, flv, fkv], .agg #[.int .i64 r.e, .int .i64 r.t, rtv, .int .i64 r.c, rlv, rkv]] w fun x w' => x = .returned (.bool (lkB size f r)) ∧ Below w.heap.size w w' := by
  obtain ⟨ftp, ftc, rfl⟩ := hf1.shape
  obtain ⟨flp, flc, rfl⟩ := hf2.shape
  obtain ⟨fkp, fkc, rfl⟩ := hf3.shape
  obtain ⟨rtp, rtc, rfl⟩ := hr1.shape
  obtain ⟨rlp, rlc, rfl⟩ := hr2.shape
  obtain ⟨rkp, rkc, rfl⟩ := hr3.shape
  obtain ⟨q1, q2, q3, q4, _, _, _, _, q9, _, _, _⟩ := (canB_iff _ _).1 hcan
  have hK : lkI f r < f.lk.length := by rw [q9]; exact List.idxOf_lt_length_of_mem hmem
  have hm63 := hf3.len
  unfold maxLen at hm63
  obtain ⟨kb, ko, rfl⟩ := hf3.addr (by omega)
  obtain ⟨q, d, l, hl0, cl, hl⟩ := hf3.get (lkI f r) hK
  have HIx : Hid (∀ v W, IA W v (linksL f.e.toNat) → Calls Tryd.prog 85 #[v, .int .i64 r.e] W fun x w' => x = .returned (.int .i64 ((lkI f r : Nat) : Int)) ∧ w' = W) := fun v W h => by
    have := index_any v _ r.e.toNat W h
    rw [Int.toNat_of_nonneg h0] at this
    have e : ixI (linksL f.e.toNat) r.e.toNat = ((lkI f r : Nat) : Int) := by unfold ixI lkI; rw [if_pos hmem]
    rw [e] at this
    exact this
  have bA := (Below.refl w.heap.size w).alloc (Nat.le_refl _) (.cells #[.int .i64 f.e, .int .i64 f.t, .slice ftp f.tr.length ftc, .int .i64 f.c, .slice flp f.li.length flc, .slice (some ⟨kb, ko, none⟩) f.lk.length fkc] 25)
  have gA := heap_alloc_new w (.cells #[.int .i64 f.e, .int .i64 f.t, .slice ftp f.tr.length ftc, .int .i64 f.c, .slice flp f.li.length flc, .slice (some ⟨kb, ko, none⟩) f.lk.length fkc] 25)
  have sA : (w.alloc (.cells #[.int .i64 f.e, .int .i64 f.t, .slice ftp f.tr.length ftc, .int .i64 f.c, .slice flp f.li.length flc, .slice (some ⟨kb, ko, none⟩) f.lk.length fkc] 25)).heap.size = w.heap.size + 1 := by simp
  have bB := (Below.refl (w.heap.size + 1) (w.alloc (.cells #[.int .i64 f.e, .int .i64 f.t, .slice ftp f.tr.length ftc, .int .i64 f.c, .slice flp f.li.length flc, .slice (some ⟨kb, ko, none⟩) f.lk.length fkc] 25))).alloc (by simp) (.cells #[.int .i64 r.e, .int .i64 r.t, .slice rtp r.tr.length rtc, .int .i64 r.c, .slice rlp r.li.length rlc, .slice rkp r.lk.length rkc] 25)
  have gB := heap_alloc_new (w.alloc (.cells #[.int .i64 f.e, .int .i64 f.t, .slice ftp f.tr.length ftc, .int .i64 f.c, .slice flp f.li.length flc, .slice (some ⟨kb, ko, none⟩) f.lk.length fkc] 25)) (.cells #[.int .i64 r.e, .int .i64 r.t, .slice rtp r.tr.length rtc, .int .i64 r.c, .slice rlp r.li.length rlc, .slice rkp r.lk.length rkc] 25)
  rw [sA] at gB
  have gC := (bB.block w.heap.size (by omega)).trans gA
  obtain ⟨X, hX⟩ : ∃ X, X = (w.alloc (.cells #[.int .i64 f.e, .int .i64 f.t, .slice ftp f.tr.length ftc, .int .i64 f.c, .slice flp f.li.length flc, .slice (some ⟨kb, ko, none⟩) f.lk.length fkc] 25)).alloc (.cells #[.int .i64 r.e, .int .i64 r.t, .slice rtp r.tr.length rtc, .int .i64 r.c, .slice rlp r.li.length rlc, .slice rkp r.lk.length rkc] 25) := ⟨_, rfl⟩
  rw [← hX] at bB gB gC
  have bX := bA.trans (bB.mono (by omega))
  have g0 : w.heap.size < X.heap.size := (Array.getElem?_eq_some_iff.1 gC).1
  have g1 : w.heap.size + 1 < X.heap.size := (Array.getElem?_eq_some_iff.1 gB).1
  have clX := cell_later bX cl
  have hlX := hl.later bX
  have HLk : Hid (∀ W, Below X.heap.size X W → Calls Tryd.prog 25 #[.int .i64 f.e] W fun x w' => ∃ v', x = .returned v' ∧ w'.ownsRow W.heap.size 3 1 v' (linksL f.e.toNat).length (ics (linksL f.e.toNat)) ∧ Below W.heap.size W w') := fun W hB => links_any f.e W (by omega) ((hTD.later bX).later hB)
  have HCn : Hid (∀ W, Below X.heap.size X W → Calls Tryd.prog 17 #[.int .i64 size, .agg #[.int .i64 r.e, .int .i64 r.t, .slice rtp r.tr.length rtc, .int .i64 r.c, .slice rlp r.li.length rlc, .slice rkp r.lk.length rkc]] W fun x w' => x = .returned (.bool (canB size r)) ∧ Below W.heap.size W w') := fun W hB => can_any size r.e r.t r.c _ _ _ r.tr r.li r.lk W ((hr1.later bX).later hB) ((hr2.later bX).later hB) ((hr3.later bX).later hB) ((hTD.later bX).later hB)
  have HHs : Hid (∀ W, Below X.heap.size X W → Calls Tryd.prog 15 #[.int .i64 size, .agg #[.int .i64 r.e, .int .i64 r.t, .slice rtp r.tr.length rtc, .int .i64 r.c, .slice rlp r.li.length rlc, .slice rkp r.lk.length rkc]] W fun x w' => ∃ v, x = .returned v ∧ HB w' v (hshF size r) ∧ Below W.heap.size W w') := fun W hB => hash13_any size r.e r.t r.c _ _ _ r.tr r.li r.lk W ((hr1.later bX).later hB) ((hr2.later bX).later hB) ((hr3.later bX).later hB) ((hTD.later bX).later hB) ((hT.later bX).later hB)
  have HT : Hid (canB size r = true → lkB size f r = (l == hshF size r)) := fun h => by
    unfold lkB
    rw [h, hl0.out]
    by_cases e : l = hshF size r <;> simp [e]
  have HF : Hid (canB size r = false → lkB size f r = false) := fun h => by
    unfold lkB
    rw [h]
    rfl
  generalize linksL f.e.toNat = LL at *
  generalize hshF size r = H at *
  generalize canB size r = CB at *
  generalize lkI f r = K at *
  have hlt2 : (K : Int) < (f.lk.length : Int) := by omega
  clear hf1 hf2 hf3 hr1 hr2 hr3 hTD hT hcan hmem gA sA bA bB hl0 cl q9
  have hcells : ∀ W, Below X.heap.size X W → W.cell? ⟨w.heap.size, 0, none⟩ = some (.int .i64 f.e) ∧ W.cell? ⟨w.heap.size, 1, none⟩ = some (.int .i64 f.t) ∧ W.cell? ⟨w.heap.size, 2, none⟩ = some (.slice ftp f.tr.length ftc) ∧ W.cell? ⟨w.heap.size, 3, none⟩ = some (.int .i64 f.c) ∧ W.cell? ⟨w.heap.size, 4, none⟩ = some (.slice flp f.li.length flc) ∧ W.cell? ⟨w.heap.size, 5, none⟩ = some (.slice (some ⟨kb, ko, none⟩) f.lk.length fkc) ∧ W.cell? ⟨w.heap.size + 1, 0, none⟩ = some (.int .i64 r.e) ∧ W.cell? ⟨w.heap.size + 1, 1, none⟩ = some (.int .i64 r.t) ∧ W.cell? ⟨w.heap.size + 1, 2, none⟩ = some (.slice rtp r.tr.length rtc) ∧ W.cell? ⟨w.heap.size + 1, 3, none⟩ = some (.int .i64 r.c) ∧ W.cell? ⟨w.heap.size + 1, 4, none⟩ = some (.slice rlp r.li.length rlc) ∧ W.cell? ⟨w.heap.size + 1, 5, none⟩ = some (.slice rkp r.lk.length rkc) ∧ W.cell? ⟨kb, ko + K, none⟩ = some (.slice q l.length d) := by
    intro W hB
    have k0 := (hB.block _ g0).trans gC
    have k1 := (hB.block _ g1).trans gB
    refine ⟨?_, ?_, ?_, ?_, ?_, ?_, ?_, ?_, ?_, ?_, ?_, ?_, cell_later hB clX⟩
    all_goals first | (rw [cell_of_row _ _ _ _ _ _ k0]; rfl) | (rw [cell_of_row _ _ _ _ _ _ k1]; rfl)
  replace hl := hlX
  clear hlX clX gB gC
  go_enter Tryd.func63, Tryd.ntmps63
  go_wp2
  rw [← hX]
  clear hX
  have bD : Below X.heap.size X X.drew := (Below.refl _ X).drew
  have hHeld := hcells X.drew bD
  refine wp_region_heldN (by kernel_rfl) (fun W => W.cell? ⟨w.heap.size, 0, none⟩ = some (.int .i64 f.e) ∧ W.cell? ⟨w.heap.size, 1, none⟩ = some (.int .i64 f.t) ∧ W.cell? ⟨w.heap.size, 2, none⟩ = some (.slice ftp f.tr.length ftc) ∧ W.cell? ⟨w.heap.size, 3, none⟩ = some (.int .i64 f.c) ∧ W.cell? ⟨w.heap.size, 4, none⟩ = some (.slice flp f.li.length flc) ∧ W.cell? ⟨w.heap.size, 5, none⟩ = some (.slice (some ⟨kb, ko, none⟩) f.lk.length fkc) ∧ W.cell? ⟨w.heap.size + 1, 0, none⟩ = some (.int .i64 r.e) ∧ W.cell? ⟨w.heap.size + 1, 1, none⟩ = some (.int .i64 r.t) ∧ W.cell? ⟨w.heap.size + 1, 2, none⟩ = some (.slice rtp r.tr.length rtc) ∧ W.cell? ⟨w.heap.size + 1, 3, none⟩ = some (.int .i64 r.c) ∧ W.cell? ⟨w.heap.size + 1, 4, none⟩ = some (.slice rlp r.li.length rlc) ∧ W.cell? ⟨w.heap.size + 1, 5, none⟩ = some (.slice rkp r.lk.length rkc) ∧ W.cell? ⟨kb, ko + K, none⟩ = some (.slice q l.length d)) 7 rfl ?_
  refine wpAnyH_take (i := 0) (oi := { dst := some 8, op := Go.Op.fieldAddr 25 (Go.Operand.tmp 4) 0, type := 0, pos := "skip.go:93", after := #[], guard := none }) (v := ?v0z1) rfl (by kernel_rfl) (by kernel_rfl) (by kernel_rfl) (fun _ _ _ h => h) (Or.inl ⟨by rfl, ?y0z1⟩) hHeld ?r0z1
  case y0z1 => (intro w hSw; (try dsimp only at hSw); go_simp) <;> with_reducible rfl
  try simp only [Act.put, List.setIfInBounds_toArray, List.set_cons_zero, List.set_cons_succ]
  refine wpAnyH_take (i := 1) (oi := { dst := some 9, op := Go.Op.load 3 (Go.Operand.tmp 8), type := 3, pos := "skip.go:93", after := #[{ on := 0, ground := Go.Ground.data }], guard := none }) (v := ?v1z2) rfl (by kernel_rfl) (by kernel_rfl) (by kernel_rfl) (fun _ _ _ h => h) (Or.inl ⟨by rfl, ?y1z2⟩) hHeld ?r1z2
  case y1z2 => (intro w hSw; (try dsimp only at hSw); go_simp) <;> with_reducible rfl
  try simp only [Act.put, List.setIfInBounds_toArray, List.set_cons_zero, List.set_cons_succ]
  refine wpAnyH_take (i := 3) (oi := { dst := some 11, op := Go.Op.fieldAddr 25 (Go.Operand.tmp 5) 0, type := 0, pos := "skip.go:93", after := #[], guard := none }) (v := ?v3z3) rfl (by kernel_rfl) (by kernel_rfl) (by kernel_rfl) (fun _ _ _ h => h) (Or.inl ⟨by rfl, ?y3z3⟩) hHeld ?r3z3
  case y3z3 => (intro w hSw; (try dsimp only at hSw); go_simp) <;> with_reducible rfl
  try simp only [Act.put, List.setIfInBounds_toArray, List.set_cons_zero, List.set_cons_succ]
  refine wpAnyH_take (i := 4) (oi := { dst := some 12, op := Go.Op.load 3 (Go.Operand.tmp 11), type := 3, pos := "skip.go:93", after := #[{ on := 3, ground := Go.Ground.data }], guard := none }) (v := ?v4z4) rfl (by kernel_rfl) (by kernel_rfl) (by kernel_rfl) (fun _ _ _ h => h) (Or.inl ⟨by rfl, ?y4z4⟩) hHeld ?r4z4
  case y4z4 => (intro w hSw; (try dsimp only at hSw); go_simp) <;> with_reducible rfl
  try simp only [Act.put, List.setIfInBounds_toArray, List.set_cons_zero, List.set_cons_succ]
  refine wpAnyH_ready (rs := [2]) (by kernel_rfl) (by simp) ?_
  refine AllReadyH.cons (o := { dst := some 10, op := Go.Op.call { callee := Go.Callee.value (Go.Operand.func 25), args := #[Go.Operand.tmp 9], argTypes := #[3] }, type := 48, pos := "skip.go:93", after := #[{ on := 1, ground := Go.Ground.data }], guard := none }) rfl (fun K hK => ?_) AllReadyH.nil
  go_simp
  refine (HLk.out _ bD).mono ?_
  rintro x w2 ⟨v2, rfl, o2', b2'⟩
  have i2 := IA.of_owns o2'
  have b2 := bD.trans (b2'.mono bD.size)
  replace hHeld := hcells w2 b2
  obtain ⟨p2, c2, rfl⟩ := i2.shape
  refine hK.out _ _ ?_ (fun _ => ?_)
  · exact hHeld
  clear hK K
  try simp only [Act.put, List.setIfInBounds_toArray, List.set_cons_zero, List.set_cons_succ]
  refine wpAnyH_ready (rs := [5]) (by kernel_rfl) (by simp) ?_
  refine AllReadyH.cons (o := { dst := some 13, op := Go.Op.call { callee := Go.Callee.value (Go.Operand.func 85), args := #[Go.Operand.tmp 10, Go.Operand.tmp 12], argTypes := #[48, 3] }, type := 3, pos := "skip.go:93", after := #[{ on := 2, ground := Go.Ground.data }, { on := 4, ground := Go.Ground.data }, { on := 2, ground := Go.Ground.chain }], guard := none }) rfl (fun K hK => ?_) AllReadyH.nil
  go_simp
  refine (HIx.out _ _ i2).mono ?_
  rintro x wz ⟨rfl, hwz⟩
  subst hwz
  refine hK.out _ _ ?_ (fun _ => ?_)
  · exact hHeld
  clear hK K
  try simp only [Act.put, List.setIfInBounds_toArray, List.set_cons_zero, List.set_cons_succ]
  refine wpAnyH_take (i := 6) (oi := { dst := some 7, op := Go.Op.assign (Go.Operand.tmp 13), type := 3, pos := "skip.go:93", after := #[{ on := 5, ground := Go.Ground.data }, { on := 5, ground := Go.Ground.chain }, { on := 0, ground := Go.Ground.phase }, { on := 1, ground := Go.Ground.phase }, { on := 2, ground := Go.Ground.phase }, { on := 3, ground := Go.Ground.phase }, { on := 4, ground := Go.Ground.phase }, { on := 5, ground := Go.Ground.phase }], guard := none }) (v := ?v6z5) rfl (by kernel_rfl) (by kernel_rfl) (by kernel_rfl) (fun _ _ _ h => h) (Or.inl ⟨by rfl, ?y6z5⟩) hHeld ?r6z5
  case y6z5 => (intro w hSw; (try dsimp only at hSw); go_simp) <;> with_reducible rfl
  try simp only [Act.put, List.setIfInBounds_toArray, List.set_cons_zero, List.set_cons_succ]
  refine wpAnyH_done (by kernel_rfl) ?_ _
  clear HLk HIx i2
  go_wp2
  have bE : Below X.heap.size X wz.drew := b2.drew
  replace hHeld := hcells wz.drew bE
  refine wp_region_heldN (by kernel_rfl) (fun W => W.cell? ⟨w.heap.size, 0, none⟩ = some (.int .i64 f.e) ∧ W.cell? ⟨w.heap.size, 1, none⟩ = some (.int .i64 f.t) ∧ W.cell? ⟨w.heap.size, 2, none⟩ = some (.slice ftp f.tr.length ftc) ∧ W.cell? ⟨w.heap.size, 3, none⟩ = some (.int .i64 f.c) ∧ W.cell? ⟨w.heap.size, 4, none⟩ = some (.slice flp f.li.length flc) ∧ W.cell? ⟨w.heap.size, 5, none⟩ = some (.slice (some ⟨kb, ko, none⟩) f.lk.length fkc) ∧ W.cell? ⟨w.heap.size + 1, 0, none⟩ = some (.int .i64 r.e) ∧ W.cell? ⟨w.heap.size + 1, 1, none⟩ = some (.int .i64 r.t) ∧ W.cell? ⟨w.heap.size + 1, 2, none⟩ = some (.slice rtp r.tr.length rtc) ∧ W.cell? ⟨w.heap.size + 1, 3, none⟩ = some (.int .i64 r.c) ∧ W.cell? ⟨w.heap.size + 1, 4, none⟩ = some (.slice rlp r.li.length rlc) ∧ W.cell? ⟨w.heap.size + 1, 5, none⟩ = some (.slice rkp r.lk.length rkc) ∧ W.cell? ⟨kb, ko + K, none⟩ = some (.slice q l.length d)) 15 rfl ?_
  refine wpAnyH_take (i := 0) (oi := { dst := some 14, op := Go.Op.move (Go.Operand.tmp 0), type := 3, pos := "skip.go:94", after := #[], guard := none }) (v := ?v0z6) rfl (by kernel_rfl) (by kernel_rfl) (by kernel_rfl) (fun _ _ _ h => h) (Or.inl ⟨by rfl, ?y0z6⟩) hHeld ?r0z6
  case y0z6 => (intro w hSw; (try dsimp only at hSw); go_simp) <;> with_reducible rfl
  try simp only [Act.put, List.setIfInBounds_toArray, List.set_cons_zero, List.set_cons_succ]
  refine wpAnyH_take (i := 1) (oi := { dst := some 15, op := Go.Op.load 25 (Go.Operand.tmp 5), type := 25, pos := "skip.go:94", after := #[], guard := none }) (v := ?v1z7) rfl (by kernel_rfl) (by kernel_rfl) (by kernel_rfl) (fun _ _ _ h => h) (Or.inl ⟨by rfl, ?y1z7⟩) hHeld ?r1z7
  case y1z7 => (intro w hSw; (try dsimp only at hSw); go_simp) <;> with_reducible rfl
  try simp only [Act.put, List.setIfInBounds_toArray, List.set_cons_zero, List.set_cons_succ]
  refine wpAnyH_ready (rs := [2]) (by kernel_rfl) (by simp) ?_
  refine AllReadyH.cons (o := { dst := some 16, op := Go.Op.call { callee := Go.Callee.value (Go.Operand.func 17), args := #[Go.Operand.tmp 14, Go.Operand.tmp 15], argTypes := #[3, 25] }, type := 4, pos := "skip.go:94", after := #[{ on := 0, ground := Go.Ground.data }, { on := 1, ground := Go.Ground.data }], guard := none }) rfl (fun K hK => ?_) AllReadyH.nil
  go_simp
  refine (HCn.out _ bE).mono ?_
  rintro x w4 ⟨rfl, b4'⟩
  have b4 := bE.trans (b4'.mono bE.size)
  replace hHeld := hcells w4 b4
  cases CB with
  | true =>
    refine hK.out _ _ ?_ (fun _ => ?_)
    · exact hHeld
    clear hK K
    try simp only [Act.put, List.setIfInBounds_toArray, List.set_cons_zero, List.set_cons_succ]
    refine wpAnyH_take (i := 3) (oi := { dst := some 17, op := Go.Op.move (Go.Operand.tmp 16), type := 4, pos := "skip.go:94", after := #[{ on := 2, ground := Go.Ground.data }, { on := 2, ground := Go.Ground.chain }], guard := none }) (v := ?v3z8) rfl (by kernel_rfl) (by kernel_rfl) (by kernel_rfl) (fun _ _ _ h => h) (Or.inl ⟨by rfl, ?y3z8⟩) hHeld ?r3z8
    case y3z8 => (intro w hSw; (try dsimp only at hSw); go_simp) <;> with_reducible rfl
    try simp only [Act.put, List.setIfInBounds_toArray, List.set_cons_zero, List.set_cons_succ]
    refine wpAnyH_take (i := 4) (oi := { dst := some 18, op := Go.Op.fieldAddr 25 (Go.Operand.tmp 4) 5, type := 0, pos := "skip.go:94", after := #[{ on := 3, ground := Go.Ground.guard }], guard := some (3, true) }) (v := ?v4z9) rfl (by kernel_rfl) (by kernel_rfl) (by kernel_rfl) (fun _ _ _ h => h) (Or.inl ⟨by rfl, ?y4z9⟩) hHeld ?r4z9
    case y4z9 => (intro w hSw; (try dsimp only at hSw); go_simp) <;> with_reducible rfl
    try simp only [Act.put, List.setIfInBounds_toArray, List.set_cons_zero, List.set_cons_succ]
    refine wpAnyH_take (i := 5) (oi := { dst := some 19, op := Go.Op.load 23 (Go.Operand.tmp 18), type := 23, pos := "skip.go:94", after := #[{ on := 4, ground := Go.Ground.data }, { on := 3, ground := Go.Ground.guard }], guard := some (3, true) }) (v := ?v5z10) rfl (by kernel_rfl) (by kernel_rfl) (by kernel_rfl) (fun _ _ _ h => h) (Or.inl ⟨by rfl, ?y5z10⟩) hHeld ?r5z10
    case y5z10 => (intro w hSw; (try dsimp only at hSw); go_simp) <;> with_reducible rfl
    try simp only [Act.put, List.setIfInBounds_toArray, List.set_cons_zero, List.set_cons_succ]
    refine wpAnyH_take (i := 6) (oi := { dst := some 20, op := Go.Op.move (Go.Operand.tmp 7), type := 3, pos := "skip.go:94", after := #[{ on := 3, ground := Go.Ground.guard }], guard := some (3, true) }) (v := ?v6z11) rfl (by kernel_rfl) (by kernel_rfl) (by kernel_rfl) (fun _ _ _ h => h) (Or.inl ⟨by rfl, ?y6z11⟩) hHeld ?r6z11
    case y6z11 => (intro w hSw; (try dsimp only at hSw); go_simp) <;> with_reducible rfl
    try simp only [Act.put, List.setIfInBounds_toArray, List.set_cons_zero, List.set_cons_succ]
    refine wpAnyH_take (i := 7) (oi := { dst := some 21, op := Go.Op.indexAddr 23 (Go.Operand.tmp 19) (Go.Operand.tmp 20), type := 0, pos := "skip.go:94", after := #[{ on := 5, ground := Go.Ground.data }, { on := 6, ground := Go.Ground.data }, { on := 3, ground := Go.Ground.guard }], guard := some (3, true) }) (v := ?v7z12) rfl (by kernel_rfl) (by kernel_rfl) (by kernel_rfl) (fun _ _ _ h => h) (Or.inl ⟨by rfl, ?y7z12⟩) hHeld ?r7z12
    case y7z12 => (intro w hSw; (try dsimp only at hSw); go_simp) <;> with_reducible rfl
    try simp only [Act.put, List.setIfInBounds_toArray, List.set_cons_zero, List.set_cons_succ]
    refine wpAnyH_take (i := 8) (oi := { dst := some 22, op := Go.Op.load 22 (Go.Operand.tmp 21), type := 22, pos := "skip.go:94", after := #[{ on := 7, ground := Go.Ground.data }, { on := 3, ground := Go.Ground.guard }], guard := some (3, true) }) (v := ?v8z13) rfl (by kernel_rfl) (by kernel_rfl) (by kernel_rfl) (fun _ _ _ h => h) (Or.inl ⟨by rfl, ?y8z13⟩) hHeld ?r8z13
    case y8z13 => (intro w hSw; (try dsimp only at hSw); go_simp) <;> with_reducible rfl
    try simp only [Act.put, List.setIfInBounds_toArray, List.set_cons_zero, List.set_cons_succ]
    refine wpAnyH_take (i := 9) (oi := { dst := some 23, op := Go.Op.move (Go.Operand.tmp 0), type := 3, pos := "skip.go:94", after := #[{ on := 3, ground := Go.Ground.guard }], guard := some (3, true) }) (v := ?v9z14) rfl (by kernel_rfl) (by kernel_rfl) (by kernel_rfl) (fun _ _ _ h => h) (Or.inl ⟨by rfl, ?y9z14⟩) hHeld ?r9z14
    case y9z14 => (intro w hSw; (try dsimp only at hSw); go_simp) <;> with_reducible rfl
    try simp only [Act.put, List.setIfInBounds_toArray, List.set_cons_zero, List.set_cons_succ]
    refine wpAnyH_take (i := 10) (oi := { dst := some 24, op := Go.Op.load 25 (Go.Operand.tmp 5), type := 25, pos := "skip.go:94", after := #[{ on := 3, ground := Go.Ground.guard }], guard := some (3, true) }) (v := ?v10z15) rfl (by kernel_rfl) (by kernel_rfl) (by kernel_rfl) (fun _ _ _ h => h) (Or.inl ⟨by rfl, ?y10z15⟩) hHeld ?r10z15
    case y10z15 => (intro w hSw; (try dsimp only at hSw); go_simp) <;> with_reducible rfl
    try simp only [Act.put, List.setIfInBounds_toArray, List.set_cons_zero, List.set_cons_succ]
    refine wpAnyH_ready (rs := [11]) (by kernel_rfl) (by simp) ?_
    refine AllReadyH.cons (o := { dst := some 25, op := Go.Op.call { callee := Go.Callee.value (Go.Operand.func 15), args := #[Go.Operand.tmp 23, Go.Operand.tmp 24], argTypes := #[3, 25] }, type := 22, pos := "skip.go:94", after := #[{ on := 9, ground := Go.Ground.data }, { on := 10, ground := Go.Ground.data }, { on := 3, ground := Go.Ground.chain }, { on := 3, ground := Go.Ground.guard }], guard := some (3, true) }) rfl (fun K hK => ?_) AllReadyH.nil
    go_simp
    refine (HHs.out _ b4).mono ?_
    rintro x w5 ⟨v5, rfl, hh5, b5'⟩
    have b5 := b4.trans (b5'.mono b4.size)
    replace hHeld := hcells w5 b5
    refine hK.out _ _ ?_ (fun _ => ?_)
    · exact hHeld
    clear hK K
    try simp only [Act.put, List.setIfInBounds_toArray, List.set_cons_zero, List.set_cons_succ]
    refine wpAnyH_ready (rs := [12]) (by kernel_rfl) (by simp) ?_
    refine AllReadyH.cons (o := { dst := some 26, op := Go.Op.call { callee := Go.Callee.value (Go.Operand.func 13), args := #[Go.Operand.tmp 22, Go.Operand.tmp 25], argTypes := #[22, 22] }, type := 4, pos := "skip.go:94", after := #[{ on := 8, ground := Go.Ground.data }, { on := 11, ground := Go.Ground.data }, { on := 11, ground := Go.Ground.chain }, { on := 3, ground := Go.Ground.guard }], guard := some (3, true) }) rfl (fun K hK => ?_) AllReadyH.nil
    go_simp
    refine (equal_any _ _ l H _ (hl.later b5) hh5).mono ?_
    rintro x wz ⟨rfl, hwz⟩
    subst hwz
    refine hK.out _ _ ?_ (fun _ => ?_)
    · exact hHeld
    clear hK K
    try simp only [Act.put, List.setIfInBounds_toArray, List.set_cons_zero, List.set_cons_succ]
    refine wpAnyH_take (i := 13) (oi := { dst := some 27, op := Go.Op.pick (Go.Operand.tmp 17) (Go.Operand.tmp 26) (Go.Operand.const (Go.Value.bool false)), type := 4, pos := "skip.go:94", after := #[{ on := 3, ground := Go.Ground.data }, { on := 12, ground := Go.Ground.data }], guard := none }) (v := ?v13z16) rfl (by kernel_rfl) (by kernel_rfl) (by kernel_rfl) (fun _ _ _ h => h) (Or.inl ⟨by rfl, ?y13z16⟩) hHeld ?r13z16
    case y13z16 => (intro w hSw; (try dsimp only at hSw); go_simp) <;> with_reducible rfl
    try simp only [Act.put, List.setIfInBounds_toArray, List.set_cons_zero, List.set_cons_succ]
    refine wpAnyH_take (i := 14) (oi := { dst := some 6, op := Go.Op.assign (Go.Operand.tmp 27), type := 4, pos := "skip.go:94", after := #[{ on := 13, ground := Go.Ground.data }, { on := 12, ground := Go.Ground.chain }, { on := 0, ground := Go.Ground.phase }, { on := 1, ground := Go.Ground.phase }, { on := 2, ground := Go.Ground.phase }, { on := 3, ground := Go.Ground.phase }, { on := 4, ground := Go.Ground.phase }, { on := 5, ground := Go.Ground.phase }, { on := 6, ground := Go.Ground.phase }, { on := 7, ground := Go.Ground.phase }, { on := 8, ground := Go.Ground.phase }, { on := 9, ground := Go.Ground.phase }, { on := 10, ground := Go.Ground.phase }, { on := 11, ground := Go.Ground.phase }, { on := 12, ground := Go.Ground.phase }, { on := 13, ground := Go.Ground.phase }], guard := none }) (v := ?v14z17) rfl (by kernel_rfl) (by kernel_rfl) (by kernel_rfl) (fun _ _ _ h => h) (Or.inl ⟨by rfl, ?y14z17⟩) hHeld ?r14z17
    case y14z17 => (intro w hSw; (try dsimp only at hSw); go_simp) <;> with_reducible rfl
    try simp only [Act.put, List.setIfInBounds_toArray, List.set_cons_zero, List.set_cons_succ]
    refine wpAnyH_done (by kernel_rfl) ?_ _
    have bF := bX.trans (b5.mono bX.size)
    clear hHeld hcells
    go_wp2
    go_ret
    rw [HT.out (by trivial)]
    exact ⟨rfl, bF⟩
  | false =>
    refine hK.out _ _ ?_ (fun _ => ?_)
    · exact hHeld
    clear hK K
    try simp only [Act.put, List.setIfInBounds_toArray, List.set_cons_zero, List.set_cons_succ]
    refine wpAnyH_take (i := 3) (oi := { dst := some 17, op := Go.Op.move (Go.Operand.tmp 16), type := 4, pos := "skip.go:94", after := #[{ on := 2, ground := Go.Ground.data }, { on := 2, ground := Go.Ground.chain }], guard := none }) (v := ?v3z18) rfl (by kernel_rfl) (by kernel_rfl) (by kernel_rfl) (fun _ _ _ h => h) (Or.inl ⟨by rfl, ?y3z18⟩) hHeld ?r3z18
    case y3z18 => (intro w hSw; (try dsimp only at hSw); go_simp) <;> with_reducible rfl
    try simp only [Act.put, List.setIfInBounds_toArray, List.set_cons_zero, List.set_cons_succ]
    refine wpAnyH_take (i := 4) (oi := { dst := some 18, op := Go.Op.fieldAddr 25 (Go.Operand.tmp 4) 5, type := 0, pos := "skip.go:94", after := #[{ on := 3, ground := Go.Ground.guard }], guard := some (3, true) }) (v := undef) rfl (by kernel_rfl) (by kernel_rfl) (by kernel_rfl) (fun _ _ _ h => h) (Or.inr ⟨by rfl, rfl⟩) hHeld ?_
    try simp only [Act.put, List.setIfInBounds_toArray, List.set_cons_zero, List.set_cons_succ]
    refine wpAnyH_take (i := 5) (oi := { dst := some 19, op := Go.Op.load 23 (Go.Operand.tmp 18), type := 23, pos := "skip.go:94", after := #[{ on := 4, ground := Go.Ground.data }, { on := 3, ground := Go.Ground.guard }], guard := some (3, true) }) (v := undef) rfl (by kernel_rfl) (by kernel_rfl) (by kernel_rfl) (fun _ _ _ h => h) (Or.inr ⟨by rfl, rfl⟩) hHeld ?_
    try simp only [Act.put, List.setIfInBounds_toArray, List.set_cons_zero, List.set_cons_succ]
    refine wpAnyH_take (i := 6) (oi := { dst := some 20, op := Go.Op.move (Go.Operand.tmp 7), type := 3, pos := "skip.go:94", after := #[{ on := 3, ground := Go.Ground.guard }], guard := some (3, true) }) (v := undef) rfl (by kernel_rfl) (by kernel_rfl) (by kernel_rfl) (fun _ _ _ h => h) (Or.inr ⟨by rfl, rfl⟩) hHeld ?_
    try simp only [Act.put, List.setIfInBounds_toArray, List.set_cons_zero, List.set_cons_succ]
    refine wpAnyH_take (i := 7) (oi := { dst := some 21, op := Go.Op.indexAddr 23 (Go.Operand.tmp 19) (Go.Operand.tmp 20), type := 0, pos := "skip.go:94", after := #[{ on := 5, ground := Go.Ground.data }, { on := 6, ground := Go.Ground.data }, { on := 3, ground := Go.Ground.guard }], guard := some (3, true) }) (v := undef) rfl (by kernel_rfl) (by kernel_rfl) (by kernel_rfl) (fun _ _ _ h => h) (Or.inr ⟨by rfl, rfl⟩) hHeld ?_
    try simp only [Act.put, List.setIfInBounds_toArray, List.set_cons_zero, List.set_cons_succ]
    refine wpAnyH_take (i := 8) (oi := { dst := some 22, op := Go.Op.load 22 (Go.Operand.tmp 21), type := 22, pos := "skip.go:94", after := #[{ on := 7, ground := Go.Ground.data }, { on := 3, ground := Go.Ground.guard }], guard := some (3, true) }) (v := undef) rfl (by kernel_rfl) (by kernel_rfl) (by kernel_rfl) (fun _ _ _ h => h) (Or.inr ⟨by rfl, rfl⟩) hHeld ?_
    try simp only [Act.put, List.setIfInBounds_toArray, List.set_cons_zero, List.set_cons_succ]
    refine wpAnyH_take (i := 9) (oi := { dst := some 23, op := Go.Op.move (Go.Operand.tmp 0), type := 3, pos := "skip.go:94", after := #[{ on := 3, ground := Go.Ground.guard }], guard := some (3, true) }) (v := undef) rfl (by kernel_rfl) (by kernel_rfl) (by kernel_rfl) (fun _ _ _ h => h) (Or.inr ⟨by rfl, rfl⟩) hHeld ?_
    try simp only [Act.put, List.setIfInBounds_toArray, List.set_cons_zero, List.set_cons_succ]
    refine wpAnyH_take (i := 10) (oi := { dst := some 24, op := Go.Op.load 25 (Go.Operand.tmp 5), type := 25, pos := "skip.go:94", after := #[{ on := 3, ground := Go.Ground.guard }], guard := some (3, true) }) (v := undef) rfl (by kernel_rfl) (by kernel_rfl) (by kernel_rfl) (fun _ _ _ h => h) (Or.inr ⟨by rfl, rfl⟩) hHeld ?_
    try simp only [Act.put, List.setIfInBounds_toArray, List.set_cons_zero, List.set_cons_succ]
    refine wpAnyH_take (i := 11) (oi := { dst := some 25, op := Go.Op.call { callee := Go.Callee.value (Go.Operand.func 15), args := #[Go.Operand.tmp 23, Go.Operand.tmp 24], argTypes := #[3, 25] }, type := 22, pos := "skip.go:94", after := #[{ on := 9, ground := Go.Ground.data }, { on := 10, ground := Go.Ground.data }, { on := 3, ground := Go.Ground.chain }, { on := 3, ground := Go.Ground.guard }], guard := some (3, true) }) (v := undef) rfl (by kernel_rfl) (by kernel_rfl) (by kernel_rfl) (fun _ _ _ h => h) (Or.inr ⟨by rfl, rfl⟩) hHeld ?_
    try simp only [Act.put, List.setIfInBounds_toArray, List.set_cons_zero, List.set_cons_succ]
    refine wpAnyH_take (i := 12) (oi := { dst := some 26, op := Go.Op.call { callee := Go.Callee.value (Go.Operand.func 13), args := #[Go.Operand.tmp 22, Go.Operand.tmp 25], argTypes := #[22, 22] }, type := 4, pos := "skip.go:94", after := #[{ on := 8, ground := Go.Ground.data }, { on := 11, ground := Go.Ground.data }, { on := 11, ground := Go.Ground.chain }, { on := 3, ground := Go.Ground.guard }], guard := some (3, true) }) (v := undef) rfl (by kernel_rfl) (by kernel_rfl) (by kernel_rfl) (fun _ _ _ h => h) (Or.inr ⟨by rfl, rfl⟩) hHeld ?_
    try simp only [Act.put, List.setIfInBounds_toArray, List.set_cons_zero, List.set_cons_succ]
    refine wpAnyH_take (i := 13) (oi := { dst := some 27, op := Go.Op.pick (Go.Operand.tmp 17) (Go.Operand.tmp 26) (Go.Operand.const (Go.Value.bool false)), type := 4, pos := "skip.go:94", after := #[{ on := 3, ground := Go.Ground.data }, { on := 12, ground := Go.Ground.data }], guard := none }) (v := ?v13z19) rfl (by kernel_rfl) (by kernel_rfl) (by kernel_rfl) (fun _ _ _ h => h) (Or.inl ⟨by rfl, ?y13z19⟩) hHeld ?r13z19
    case y13z19 => (intro w hSw; (try dsimp only at hSw); go_simp) <;> with_reducible rfl
    try simp only [Act.put, List.setIfInBounds_toArray, List.set_cons_zero, List.set_cons_succ]
    refine wpAnyH_take (i := 14) (oi := { dst := some 6, op := Go.Op.assign (Go.Operand.tmp 27), type := 4, pos := "skip.go:94", after := #[{ on := 13, ground := Go.Ground.data }, { on := 12, ground := Go.Ground.chain }, { on := 0, ground := Go.Ground.phase }, { on := 1, ground := Go.Ground.phase }, { on := 2, ground := Go.Ground.phase }, { on := 3, ground := Go.Ground.phase }, { on := 4, ground := Go.Ground.phase }, { on := 5, ground := Go.Ground.phase }, { on := 6, ground := Go.Ground.phase }, { on := 7, ground := Go.Ground.phase }, { on := 8, ground := Go.Ground.phase }, { on := 9, ground := Go.Ground.phase }, { on := 10, ground := Go.Ground.phase }, { on := 11, ground := Go.Ground.phase }, { on := 12, ground := Go.Ground.phase }, { on := 13, ground := Go.Ground.phase }], guard := none }) (v := ?v14z20) rfl (by kernel_rfl) (by kernel_rfl) (by kernel_rfl) (fun _ _ _ h => h) (Or.inl ⟨by rfl, ?y14z20⟩) hHeld ?r14z20
    case y14z20 => (intro w hSw; (try dsimp only at hSw); go_simp) <;> with_reducible rfl
    try simp only [Act.put, List.setIfInBounds_toArray, List.set_cons_zero, List.set_cons_succ]
    refine wpAnyH_done (by kernel_rfl) ?_ _
    have bF := bX.trans (b4.mono bX.size)
    clear hHeld hcells
    go_wp2
    go_ret
    rw [HF.out (by trivial)]
    exact ⟨rfl, bF⟩

end Go.Proofs.YtgfddabccjfhiaaDoor
