/- What this text proves: the walk of skip.linked over this program: whether a record may be, and its hash stands at its link in another one. (By program: held.py, mklinked.py.) -/
import Derived.Test.YtpndpmkoegmbkaaDoorJFv
import Derived.Test.YtpndpmkoegmbkaaDoorRegHeld
namespace Go.Proofs.YtpndpmkoegmbkaaDoor
open Go.RowKit

set_option maxRecDepth 100000 in
set_option maxHeartbeats 8000000 in
theorem linked_any (size : Int) (f r : Rc) (ftv flv fkv rtv rlv rkv : Value) (w : World) (hf1 : HB w ftv f.tr) (hf2 : HB w flv f.li) (hf3 : PA w fkv f.lk) (hr1 : HB w rtv r.tr) (hr2 : HB w rlv r.li) (hr3 : PA w rkv r.lk) (hTD : TD w) (hT : Tabs w) (hcan : canB size f = true) (h0 : 0 ≤ r.e) (hmem : r.e.toNat ∈ linksL f.e.toNat) :
    Calls Tryd.prog 18 #[.int .i64 size, .agg #[.int .i64 f.e, .int .i64 f.t, ftv, .int .i64 f.c, flv, fkv], .agg #[.int .i64 r.e, .int .i64 r.t, rtv, .int .i64 r.c, rlv, rkv]] w fun x w' => x = .returned (.bool (lkB size f r)) ∧ Below w.heap.size w w' := by
  obtain ⟨ftp, ftc, rfl⟩ := hf1.shape
  obtain ⟨flp, flc, rfl⟩ := hf2.shape
  obtain ⟨fkp, fkc, rfl⟩ := hf3.shape
  obtain ⟨rtp, rtc, rfl⟩ := hr1.shape
  obtain ⟨rlp, rlc, rfl⟩ := hr2.shape
  obtain ⟨rkp, rkc, rfl⟩ := hr3.shape
  obtain ⟨q1, q2, q3, q4, _, _, _, _, q9, _, _, _⟩ := (canB_iff _ _).1 hcan
  have hK : lkI f r < f.lk.length := by rw [q9]; exact List.idxOf_lt_length_of_mem hmem
  have hm63 := hf3.len
  unfold maxLen at hm63
  obtain ⟨kb, ko, rfl⟩ := hf3.addr (by omega)
  obtain ⟨q, d, l, hl0, cl, hl⟩ := hf3.get (lkI f r) hK
  have HIx : Hid (∀ v W, IA W v (linksL f.e.toNat) → Calls Tryd.prog 35 #[v, .int .i64 r.e] W fun x w' => x = .returned (.int .i64 ((lkI f r : Nat) : Int)) ∧ w' = W) := fun v W h => by
    have := index_any v _ r.e.toNat W h
    rw [Int.toNat_of_nonneg h0] at this
    have e : ixI (linksL f.e.toNat) r.e.toNat = ((lkI f r : Nat) : Int) := by unfold ixI lkI; rw [if_pos hmem]
    rw [e] at this
    exact this
  have bA := (Below.refl w.heap.size w).alloc (Nat.le_refl _) (.cells #[.int .i64 f.e, .int .i64 f.t, .slice ftp f.tr.length ftc, .int .i64 f.c, .slice flp f.li.length flc, .slice (some ⟨kb, ko, none⟩) f.lk.length fkc] 25)
  have gA := heap_alloc_new w (.cells #[.int .i64 f.e, .int .i64 f.t, .slice ftp f.tr.length ftc, .int .i64 f.c, .slice flp f.li.length flc, .slice (some ⟨kb, ko, none⟩) f.lk.length fkc] 25)
  have sA : (w.alloc (.cells #[.int .i64 f.e, .int .i64 f.t, .slice ftp f.tr.length ftc, .int .i64 f.c, .slice flp f.li.length flc, .slice (some ⟨kb, ko, none⟩) f.lk.length fkc] 25)).heap.size = w.heap.size + 1 := by simp
  have bB := (Below.refl (w.heap.size + 1) (w.alloc (.cells #[.int .i64 f.e, .int .i64 f.t, .slice ftp f.tr.length ftc, .int .i64 f.c, .slice flp f.li.length flc, .slice (some ⟨kb, ko, none⟩) f.lk.length fkc] 25))).alloc (by simp) (.cells #[.int .i64 r.e, .int .i64 r.t, .slice rtp r.tr.length rtc, .int .i64 r.c, .slice rlp r.li.length rlc, .slice rkp r.lk.length rkc] 25)
  have gB := heap_alloc_new (w.alloc (.cells #[.int .i64 f.e, .int .i64 f.t, .slice ftp f.tr.length ftc, .int .i64 f.c, .slice flp f.li.length flc, .slice (some ⟨kb, ko, none⟩) f.lk.length fkc] 25)) (.cells #[.int .i64 r.e, .int .i64 r.t, .slice rtp r.tr.length rtc, .int .i64 r.c, .slice rlp r.li.length rlc, .slice rkp r.lk.length rkc] 25)
  rw [sA] at gB
  have gC := (bB.block w.heap.size (by omega)).trans gA
  obtain ⟨X, hX⟩ : ∃ X, X = (w.alloc (.cells #[.int .i64 f.e, .int .i64 f.t, .slice ftp f.tr.length ftc, .int .i64 f.c, .slice flp f.li.length flc, .slice (some ⟨kb, ko, none⟩) f.lk.length fkc] 25)).alloc (.cells #[.int .i64 r.e, .int .i64 r.t, .slice rtp r.tr.length rtc, .int .i64 r.c, .slice rlp r.li.length rlc, .slice rkp r.lk.length rkc] 25) := ⟨_, rfl⟩
  rw [← hX] at bB gB gC
  have bX := bA.trans (bB.mono (by omega))
  have g0 : w.heap.size < X.heap.size := (Array.getElem?_eq_some_iff.1 gC).1
  have g1 : w.heap.size + 1 < X.heap.size := (Array.getElem?_eq_some_iff.1 gB).1
  have clX := cell_later bX cl
  have hlX := hl.later bX
  have HLk : Hid (∀ W, Below X.heap.size X W → Calls Tryd.prog 36 #[.int .i64 f.e] W fun x w' => ∃ v', x = .returned v' ∧ w'.ownsRow W.heap.size 3 1 v' (linksL f.e.toNat).length (ics (linksL f.e.toNat)) ∧ Below W.heap.size W w') := fun W hB => links_any f.e W (by omega) ((hTD.later bX).later hB)
  have HCn : Hid (∀ W, Below X.heap.size X W → Calls Tryd.prog 16 #[.int .i64 size, .agg #[.int .i64 r.e, .int .i64 r.t, .slice rtp r.tr.length rtc, .int .i64 r.c, .slice rlp r.li.length rlc, .slice rkp r.lk.length rkc]] W fun x w' => x = .returned (.bool (canB size r)) ∧ Below W.heap.size W w') := fun W hB => can_any size r.e r.t r.c _ _ _ r.tr r.li r.lk W ((hr1.later bX).later hB) ((hr2.later bX).later hB) ((hr3.later bX).later hB) ((hTD.later bX).later hB)
  have HHs : Hid (∀ W, Below X.heap.size X W → Calls Tryd.prog 37 #[.int .i64 size, .agg #[.int .i64 r.e, .int .i64 r.t, .slice rtp r.tr.length rtc, .int .i64 r.c, .slice rlp r.li.length rlc, .slice rkp r.lk.length rkc]] W fun x w' => ∃ v, x = .returned v ∧ HB w' v (hshF size r) ∧ Below W.heap.size W w') := fun W hB => hash13_any size r.e r.t r.c _ _ _ r.tr r.li r.lk W ((hr1.later bX).later hB) ((hr2.later bX).later hB) ((hr3.later bX).later hB) ((hTD.later bX).later hB) ((hT.later bX).later hB)
  have HT : Hid (canB size r = true → lkB size f r = (l == hshF size r)) := fun h => by
    unfold lkB
    rw [h, hl0.out]
    by_cases e : l = hshF size r <;> simp [e]
  have HF : Hid (canB size r = false → lkB size f r = false) := fun h => by
    unfold lkB
    rw [h]
    rfl
  generalize linksL f.e.toNat = LL at *
  generalize hshF size r = H at *
  generalize canB size r = CB at *
  generalize lkI f r = K at *
  have hlt2 : (K : Int) < (f.lk.length : Int) := by omega
  clear hf1 hf2 hf3 hr1 hr2 hr3 hTD hT hcan hmem gA sA bA bB hl0 cl q9
  have hcells : ∀ W, Below X.heap.size X W → W.cell? ⟨w.heap.size, 0, none⟩ = some (.int .i64 f.e) ∧ W.cell? ⟨w.heap.size, 1, none⟩ = some (.int .i64 f.t) ∧ W.cell? ⟨w.heap.size, 2, none⟩ = some (.slice ftp f.tr.length ftc) ∧ W.cell? ⟨w.heap.size, 3, none⟩ = some (.int .i64 f.c) ∧ W.cell? ⟨w.heap.size, 4, none⟩ = some (.slice flp f.li.length flc) ∧ W.cell? ⟨w.heap.size, 5, none⟩ = some (.slice (some ⟨kb, ko, none⟩) f.lk.length fkc) ∧ W.cell? ⟨w.heap.size + 1, 0, none⟩ = some (.int .i64 r.e) ∧ W.cell? ⟨w.heap.size + 1, 1, none⟩ = some (.int .i64 r.t) ∧ W.cell? ⟨w.heap.size + 1, 2, none⟩ = some (.slice rtp r.tr.length rtc) ∧ W.cell? ⟨w.heap.size + 1, 3, none⟩ = some (.int .i64 r.c) ∧ W.cell? ⟨w.heap.size + 1, 4, none⟩ = some (.slice rlp r.li.length rlc) ∧ W.cell? ⟨w.heap.size + 1, 5, none⟩ = some (.slice rkp r.lk.length rkc) ∧ W.cell? ⟨kb, ko + K, none⟩ = some (.slice q l.length d) := by
    intro W hB
    have k0 := (hB.block _ g0).trans gC
    have k1 := (hB.block _ g1).trans gB
    refine ⟨?_, ?_, ?_, ?_, ?_, ?_, ?_, ?_, ?_, ?_, ?_, ?_, cell_later hB clX⟩
    all_goals first | (rw [cell_of_row _ _ _ _ _ _ k0]; rfl) | (rw [cell_of_row _ _ _ _ _ _ k1]; rfl)
  replace hl := hlX
  clear hlX clX gB gC
  go_enter Tryd.func18, Tryd.ntmps18
  go_wp2
  rw [← hX]
  clear hX
  have bD : Below X.heap.size X X.drew := (Below.refl _ X).drew
  have hHeld := hcells X.drew bD
  refine wp_region_heldN (by kernel_rfl) (fun W => W.cell? ⟨w.heap.size, 0, none⟩ = some (.int .i64 f.e) ∧ W.cell? ⟨w.heap.size, 1, none⟩ = some (.int .i64 f.t) ∧ W.cell? ⟨w.heap.size, 2, none⟩ = some (.slice ftp f.tr.length ftc) ∧ W.cell? ⟨w.heap.size, 3, none⟩ = some (.int .i64 f.c) ∧ W.cell? ⟨w.heap.size, 4, none⟩ = some (.slice flp f.li.length flc) ∧ W.cell? ⟨w.heap.size, 5, none⟩ = some (.slice (some ⟨kb, ko, none⟩) f.lk.length fkc) ∧ W.cell? ⟨w.heap.size + 1, 0, none⟩ = some (.int .i64 r.e) ∧ W.cell? ⟨w.heap.size + 1, 1, none⟩ = some (.int .i64 r.t) ∧ W.cell? ⟨w.heap.size + 1, 2, none⟩ = some (.slice rtp r.tr.length rtc) ∧ W.cell? ⟨w.heap.size + 1, 3, none⟩ = some (.int .i64 r.c) ∧ W.cell? ⟨w.heap.size + 1, 4, none⟩ = some (.slice rlp r.li.length rlc) ∧ W.cell? ⟨w.heap.size + 1, 5, none⟩ = some (.slice rkp r.lk.length rkc) ∧ W.cell? ⟨kb, ko + K, none⟩ = some (.slice q l.length d)) 7 rfl ?_
  refine tkY 0 ⟨some 8, .fieldAddr 25 (.tmp 4) 0, 0, "skip.go:94", #[], none⟩ ?v0z1 hHeld ?y0z1 ?r0z1
  case y0z1 => (intro w hSw; (try dsimp only at hSw); go_simp) <;> with_reducible rfl
  try simp only [Act.put, List.setIfInBounds_toArray, List.set_cons_zero, List.set_cons_succ]
  refine tkY 1 ⟨some 9, .load 3 (.tmp 8), 3, "skip.go:94", #[⟨0, .data⟩], none⟩ ?v1z2 hHeld ?y1z2 ?r1z2
  case y1z2 => (intro w hSw; (try dsimp only at hSw); go_simp) <;> with_reducible rfl
  try simp only [Act.put, List.setIfInBounds_toArray, List.set_cons_zero, List.set_cons_succ]
  refine tkY 3 ⟨some 11, .fieldAddr 25 (.tmp 5) 0, 0, "skip.go:94", #[], none⟩ ?v3z3 hHeld ?y3z3 ?r3z3
  case y3z3 => (intro w hSw; (try dsimp only at hSw); go_simp) <;> with_reducible rfl
  try simp only [Act.put, List.setIfInBounds_toArray, List.set_cons_zero, List.set_cons_succ]
  refine tkY 4 ⟨some 12, .load 3 (.tmp 11), 3, "skip.go:94", #[⟨3, .data⟩], none⟩ ?v4z4 hHeld ?y4z4 ?r4z4
  case y4z4 => (intro w hSw; (try dsimp only at hSw); go_simp) <;> with_reducible rfl
  try simp only [Act.put, List.setIfInBounds_toArray, List.set_cons_zero, List.set_cons_succ]
  refine wpAnyH_ready (rs := [2]) (by kernel_rfl) (by simp) ?_
  refine AllReadyH.cons (o := ⟨some 10, .call { callee := .value (.func 36), args := #[.tmp 9], argTypes := #[3] }, 42, "skip.go:94", #[⟨1, .data⟩], none⟩) rfl (fun K hK => ?_) AllReadyH.nil
  go_simp
  refine (HLk.out _ bD).mono ?_
  rintro x w2 ⟨v2, rfl, o2', b2'⟩
  have i2 := IA.of_owns o2'
  have b2 := bD.trans (b2'.mono bD.size)
  replace hHeld := hcells w2 b2
  obtain ⟨p2, c2, rfl⟩ := i2.shape
  refine hK.out _ _ ?_ (fun _ => ?_)
  · exact hHeld
  clear hK K
  try simp only [Act.put, List.setIfInBounds_toArray, List.set_cons_zero, List.set_cons_succ]
  refine wpAnyH_ready (rs := [5]) (by kernel_rfl) (by simp) ?_
  refine AllReadyH.cons (o := ⟨some 13, .call { callee := .value (.func 35), args := #[.tmp 10, .tmp 12], argTypes := #[42, 3] }, 3, "skip.go:94", #[⟨2, .data⟩, ⟨4, .data⟩, ⟨2, .chain⟩], none⟩) rfl (fun K hK => ?_) AllReadyH.nil
  go_simp
  refine (HIx.out _ _ i2).mono ?_
  rintro x wz ⟨rfl, hwz⟩
  subst hwz
  refine hK.out _ _ ?_ (fun _ => ?_)
  · exact hHeld
  clear hK K
  try simp only [Act.put, List.setIfInBounds_toArray, List.set_cons_zero, List.set_cons_succ]
  refine tkY 6 ⟨some 7, .assign (.tmp 13), 3, "skip.go:94", #[⟨5, .data⟩, ⟨5, .chain⟩, ⟨0, .phase⟩, ⟨1, .phase⟩, ⟨2, .phase⟩, ⟨3, .phase⟩, ⟨4, .phase⟩, ⟨5, .phase⟩], none⟩ ?v6z5 hHeld ?y6z5 ?r6z5
  case y6z5 => (intro w hSw; (try dsimp only at hSw); go_simp) <;> with_reducible rfl
  try simp only [Act.put, List.setIfInBounds_toArray, List.set_cons_zero, List.set_cons_succ]
  refine wpAnyH_done (by kernel_rfl) ?_ _
  clear HLk HIx i2
  go_wp2
  have bE : Below X.heap.size X wz.drew := b2.drew
  replace hHeld := hcells wz.drew bE
  refine wp_region_heldN (by kernel_rfl) (fun W => W.cell? ⟨w.heap.size, 0, none⟩ = some (.int .i64 f.e) ∧ W.cell? ⟨w.heap.size, 1, none⟩ = some (.int .i64 f.t) ∧ W.cell? ⟨w.heap.size, 2, none⟩ = some (.slice ftp f.tr.length ftc) ∧ W.cell? ⟨w.heap.size, 3, none⟩ = some (.int .i64 f.c) ∧ W.cell? ⟨w.heap.size, 4, none⟩ = some (.slice flp f.li.length flc) ∧ W.cell? ⟨w.heap.size, 5, none⟩ = some (.slice (some ⟨kb, ko, none⟩) f.lk.length fkc) ∧ W.cell? ⟨w.heap.size + 1, 0, none⟩ = some (.int .i64 r.e) ∧ W.cell? ⟨w.heap.size + 1, 1, none⟩ = some (.int .i64 r.t) ∧ W.cell? ⟨w.heap.size + 1, 2, none⟩ = some (.slice rtp r.tr.length rtc) ∧ W.cell? ⟨w.heap.size + 1, 3, none⟩ = some (.int .i64 r.c) ∧ W.cell? ⟨w.heap.size + 1, 4, none⟩ = some (.slice rlp r.li.length rlc) ∧ W.cell? ⟨w.heap.size + 1, 5, none⟩ = some (.slice rkp r.lk.length rkc) ∧ W.cell? ⟨kb, ko + K, none⟩ = some (.slice q l.length d)) 15 rfl ?_
  refine tkY 0 ⟨some 14, .move (.tmp 0), 3, "skip.go:95", #[], none⟩ ?v0z6 hHeld ?y0z6 ?r0z6
  case y0z6 => (intro w hSw; (try dsimp only at hSw); go_simp) <;> with_reducible rfl
  try simp only [Act.put, List.setIfInBounds_toArray, List.set_cons_zero, List.set_cons_succ]
  refine tkY 1 ⟨some 15, .load 25 (.tmp 5), 25, "skip.go:95", #[], none⟩ ?v1z7 hHeld ?y1z7 ?r1z7
  case y1z7 => (intro w hSw; (try dsimp only at hSw); go_simp) <;> with_reducible rfl
  try simp only [Act.put, List.setIfInBounds_toArray, List.set_cons_zero, List.set_cons_succ]
  refine wpAnyH_ready (rs := [2]) (by kernel_rfl) (by simp) ?_
  refine AllReadyH.cons (o := ⟨some 16, .call { callee := .value (.func 16), args := #[.tmp 14, .tmp 15], argTypes := #[3, 25] }, 4, "skip.go:95", #[⟨0, .data⟩, ⟨1, .data⟩], none⟩) rfl (fun K hK => ?_) AllReadyH.nil
  go_simp
  refine (HCn.out _ bE).mono ?_
  rintro x w4 ⟨rfl, b4'⟩
  have b4 := bE.trans (b4'.mono bE.size)
  replace hHeld := hcells w4 b4
  cases CB with
  | true =>
    refine hK.out _ _ ?_ (fun _ => ?_)
    · exact hHeld
    clear hK K
    try simp only [Act.put, List.setIfInBounds_toArray, List.set_cons_zero, List.set_cons_succ]
    refine tkY 3 ⟨some 17, .move (.tmp 16), 4, "skip.go:95", #[⟨2, .data⟩, ⟨2, .chain⟩], none⟩ ?v3z8 hHeld ?y3z8 ?r3z8
    case y3z8 => (intro w hSw; (try dsimp only at hSw); go_simp) <;> with_reducible rfl
    try simp only [Act.put, List.setIfInBounds_toArray, List.set_cons_zero, List.set_cons_succ]
    refine tkY 4 ⟨some 18, .fieldAddr 25 (.tmp 4) 5, 0, "skip.go:95", #[⟨3, .guard⟩], some (3, true)⟩ ?v4z9 hHeld ?y4z9 ?r4z9
    case y4z9 => (intro w hSw; (try dsimp only at hSw); go_simp) <;> with_reducible rfl
    try simp only [Act.put, List.setIfInBounds_toArray, List.set_cons_zero, List.set_cons_succ]
    refine tkY 5 ⟨some 19, .load 23 (.tmp 18), 23, "skip.go:95", #[⟨4, .data⟩, ⟨3, .guard⟩], some (3, true)⟩ ?v5z10 hHeld ?y5z10 ?r5z10
    case y5z10 => (intro w hSw; (try dsimp only at hSw); go_simp) <;> with_reducible rfl
    try simp only [Act.put, List.setIfInBounds_toArray, List.set_cons_zero, List.set_cons_succ]
    refine tkY 6 ⟨some 20, .move (.tmp 7), 3, "skip.go:95", #[⟨3, .guard⟩], some (3, true)⟩ ?v6z11 hHeld ?y6z11 ?r6z11
    case y6z11 => (intro w hSw; (try dsimp only at hSw); go_simp) <;> with_reducible rfl
    try simp only [Act.put, List.setIfInBounds_toArray, List.set_cons_zero, List.set_cons_succ]
    refine tkY 7 ⟨some 21, .indexAddr 23 (.tmp 19) (.tmp 20), 0, "skip.go:95", #[⟨5, .data⟩, ⟨6, .data⟩, ⟨3, .guard⟩], some (3, true)⟩ ?v7z12 hHeld ?y7z12 ?r7z12
    case y7z12 => (intro w hSw; (try dsimp only at hSw); go_simp) <;> with_reducible rfl
    try simp only [Act.put, List.setIfInBounds_toArray, List.set_cons_zero, List.set_cons_succ]
    refine tkY 8 ⟨some 22, .load 22 (.tmp 21), 22, "skip.go:95", #[⟨7, .data⟩, ⟨3, .guard⟩], some (3, true)⟩ ?v8z13 hHeld ?y8z13 ?r8z13
    case y8z13 => (intro w hSw; (try dsimp only at hSw); go_simp) <;> with_reducible rfl
    try simp only [Act.put, List.setIfInBounds_toArray, List.set_cons_zero, List.set_cons_succ]
    refine tkY 9 ⟨some 23, .move (.tmp 0), 3, "skip.go:95", #[⟨3, .guard⟩], some (3, true)⟩ ?v9z14 hHeld ?y9z14 ?r9z14
    case y9z14 => (intro w hSw; (try dsimp only at hSw); go_simp) <;> with_reducible rfl
    try simp only [Act.put, List.setIfInBounds_toArray, List.set_cons_zero, List.set_cons_succ]
    refine tkY 10 ⟨some 24, .load 25 (.tmp 5), 25, "skip.go:95", #[⟨3, .guard⟩], some (3, true)⟩ ?v10z15 hHeld ?y10z15 ?r10z15
    case y10z15 => (intro w hSw; (try dsimp only at hSw); go_simp) <;> with_reducible rfl
    try simp only [Act.put, List.setIfInBounds_toArray, List.set_cons_zero, List.set_cons_succ]
    refine wpAnyH_ready (rs := [11]) (by kernel_rfl) (by simp) ?_
    refine AllReadyH.cons (o := ⟨some 25, .call { callee := .value (.func 37), args := #[.tmp 23, .tmp 24], argTypes := #[3, 25] }, 22, "skip.go:95", #[⟨9, .data⟩, ⟨10, .data⟩, ⟨3, .chain⟩, ⟨3, .guard⟩], some (3, true)⟩) rfl (fun K hK => ?_) AllReadyH.nil
    go_simp
    refine (HHs.out _ b4).mono ?_
    rintro x w5 ⟨v5, rfl, hh5, b5'⟩
    have b5 := b4.trans (b5'.mono b4.size)
    replace hHeld := hcells w5 b5
    refine hK.out _ _ ?_ (fun _ => ?_)
    · exact hHeld
    clear hK K
    try simp only [Act.put, List.setIfInBounds_toArray, List.set_cons_zero, List.set_cons_succ]
    refine wpAnyH_ready (rs := [12]) (by kernel_rfl) (by simp) ?_
    refine AllReadyH.cons (o := ⟨some 26, .call { callee := .value (.func 11), args := #[.tmp 22, .tmp 25], argTypes := #[22, 22] }, 4, "skip.go:95", #[⟨8, .data⟩, ⟨11, .data⟩, ⟨11, .chain⟩, ⟨3, .guard⟩], some (3, true)⟩) rfl (fun K hK => ?_) AllReadyH.nil
    go_simp
    refine (equal_any _ _ l H _ (hl.later b5) hh5).mono ?_
    rintro x wz ⟨rfl, hwz⟩
    subst hwz
    refine hK.out _ _ ?_ (fun _ => ?_)
    · exact hHeld
    clear hK K
    try simp only [Act.put, List.setIfInBounds_toArray, List.set_cons_zero, List.set_cons_succ]
    refine tkY 13 ⟨some 27, .pick (.tmp 17) (.tmp 26) (.const (.bool false)), 4, "skip.go:95", #[⟨3, .data⟩, ⟨12, .data⟩], none⟩ ?v13z16 hHeld ?y13z16 ?r13z16
    case y13z16 => (intro w hSw; (try dsimp only at hSw); go_simp) <;> with_reducible rfl
    try simp only [Act.put, List.setIfInBounds_toArray, List.set_cons_zero, List.set_cons_succ]
    refine tkY 14 ⟨some 6, .assign (.tmp 27), 4, "skip.go:95", #[⟨13, .data⟩, ⟨12, .chain⟩, ⟨0, .phase⟩, ⟨1, .phase⟩, ⟨2, .phase⟩, ⟨3, .phase⟩, ⟨4, .phase⟩, ⟨5, .phase⟩, ⟨6, .phase⟩, ⟨7, .phase⟩, ⟨8, .phase⟩, ⟨9, .phase⟩, ⟨10, .phase⟩, ⟨11, .phase⟩, ⟨12, .phase⟩, ⟨13, .phase⟩], none⟩ ?v14z17 hHeld ?y14z17 ?r14z17
    case y14z17 => (intro w hSw; (try dsimp only at hSw); go_simp) <;> with_reducible rfl
    try simp only [Act.put, List.setIfInBounds_toArray, List.set_cons_zero, List.set_cons_succ]
    refine wpAnyH_done (by kernel_rfl) ?_ _
    have bF := bX.trans (b5.mono bX.size)
    clear hHeld hcells
    go_wp2
    go_ret
    rw [HT.out (by trivial)]
    exact ⟨rfl, bF⟩
  | false =>
    refine hK.out _ _ ?_ (fun _ => ?_)
    · exact hHeld
    clear hK K
    try simp only [Act.put, List.setIfInBounds_toArray, List.set_cons_zero, List.set_cons_succ]
    refine tkY 3 ⟨some 17, .move (.tmp 16), 4, "skip.go:95", #[⟨2, .data⟩, ⟨2, .chain⟩], none⟩ ?v3z18 hHeld ?y3z18 ?r3z18
    case y3z18 => (intro w hSw; (try dsimp only at hSw); go_simp) <;> with_reducible rfl
    try simp only [Act.put, List.setIfInBounds_toArray, List.set_cons_zero, List.set_cons_succ]
    refine tkN 4 ⟨some 18, .fieldAddr 25 (.tmp 4) 5, 0, "skip.go:95", #[⟨3, .guard⟩], some (3, true)⟩ hHeld ?_
    try simp only [Act.put, List.setIfInBounds_toArray, List.set_cons_zero, List.set_cons_succ]
    refine tkN 5 ⟨some 19, .load 23 (.tmp 18), 23, "skip.go:95", #[⟨4, .data⟩, ⟨3, .guard⟩], some (3, true)⟩ hHeld ?_
    try simp only [Act.put, List.setIfInBounds_toArray, List.set_cons_zero, List.set_cons_succ]
    refine tkN 6 ⟨some 20, .move (.tmp 7), 3, "skip.go:95", #[⟨3, .guard⟩], some (3, true)⟩ hHeld ?_
    try simp only [Act.put, List.setIfInBounds_toArray, List.set_cons_zero, List.set_cons_succ]
    refine tkN 7 ⟨some 21, .indexAddr 23 (.tmp 19) (.tmp 20), 0, "skip.go:95", #[⟨5, .data⟩, ⟨6, .data⟩, ⟨3, .guard⟩], some (3, true)⟩ hHeld ?_
    try simp only [Act.put, List.setIfInBounds_toArray, List.set_cons_zero, List.set_cons_succ]
    refine tkN 8 ⟨some 22, .load 22 (.tmp 21), 22, "skip.go:95", #[⟨7, .data⟩, ⟨3, .guard⟩], some (3, true)⟩ hHeld ?_
    try simp only [Act.put, List.setIfInBounds_toArray, List.set_cons_zero, List.set_cons_succ]
    refine tkN 9 ⟨some 23, .move (.tmp 0), 3, "skip.go:95", #[⟨3, .guard⟩], some (3, true)⟩ hHeld ?_
    try simp only [Act.put, List.setIfInBounds_toArray, List.set_cons_zero, List.set_cons_succ]
    refine tkN 10 ⟨some 24, .load 25 (.tmp 5), 25, "skip.go:95", #[⟨3, .guard⟩], some (3, true)⟩ hHeld ?_
    try simp only [Act.put, List.setIfInBounds_toArray, List.set_cons_zero, List.set_cons_succ]
    refine tkN 11 ⟨some 25, .call { callee := .value (.func 37), args := #[.tmp 23, .tmp 24], argTypes := #[3, 25] }, 22, "skip.go:95", #[⟨9, .data⟩, ⟨10, .data⟩, ⟨3, .chain⟩, ⟨3, .guard⟩], some (3, true)⟩ hHeld ?_
    try simp only [Act.put, List.setIfInBounds_toArray, List.set_cons_zero, List.set_cons_succ]
    refine tkN 12 ⟨some 26, .call { callee := .value (.func 11), args := #[.tmp 22, .tmp 25], argTypes := #[22, 22] }, 4, "skip.go:95", #[⟨8, .data⟩, ⟨11, .data⟩, ⟨11, .chain⟩, ⟨3, .guard⟩], some (3, true)⟩ hHeld ?_
    try simp only [Act.put, List.setIfInBounds_toArray, List.set_cons_zero, List.set_cons_succ]
    refine tkY 13 ⟨some 27, .pick (.tmp 17) (.tmp 26) (.const (.bool false)), 4, "skip.go:95", #[⟨3, .data⟩, ⟨12, .data⟩], none⟩ ?v13z19 hHeld ?y13z19 ?r13z19
    case y13z19 => (intro w hSw; (try dsimp only at hSw); go_simp) <;> with_reducible rfl
    try simp only [Act.put, List.setIfInBounds_toArray, List.set_cons_zero, List.set_cons_succ]
    refine tkY 14 ⟨some 6, .assign (.tmp 27), 4, "skip.go:95", #[⟨13, .data⟩, ⟨12, .chain⟩, ⟨0, .phase⟩, ⟨1, .phase⟩, ⟨2, .phase⟩, ⟨3, .phase⟩, ⟨4, .phase⟩, ⟨5, .phase⟩, ⟨6, .phase⟩, ⟨7, .phase⟩, ⟨8, .phase⟩, ⟨9, .phase⟩, ⟨10, .phase⟩, ⟨11, .phase⟩, ⟨12, .phase⟩, ⟨13, .phase⟩], none⟩ ?v14z20 hHeld ?y14z20 ?r14z20
    case y14z20 => (intro w hSw; (try dsimp only at hSw); go_simp) <;> with_reducible rfl
    try simp only [Act.put, List.setIfInBounds_toArray, List.set_cons_zero, List.set_cons_succ]
    refine wpAnyH_done (by kernel_rfl) ?_ _
    have bF := bX.trans (b4.mono bX.size)
    clear hHeld hcells
    go_wp2
    go_ret
    rw [HF.out (by trivial)]
    exact ⟨rfl, bF⟩

end Go.Proofs.YtpndpmkoegmbkaaDoor
