/- What this text proves: the walk of the document's linked (annalsref14) over this program: whether a record's hash stands at its link in another one. (By program: held.py, mkrlinked.py.) What this text proves: the walk of the document's Follow (annalsref14) over this program: the record at a way's end, if all on the way are linked. (By program: held.py, mkrfollow.py.) -/
import Derived.Test.YtpndpmkoegmbkaaDoorJFv
import Derived.Test.YtpndpmkoegmbkaaDoorRegHeld
import Derived.Test.YtpndpmkoegmbkaaDoorJFf
namespace Go.Proofs.YtpndpmkoegmbkaaDoor
open Go.RowKit

set_option maxRecDepth 100000 in
set_option maxHeartbeats 8000000 in
theorem rlinked_any (size : Int) (f r : Rc) (ftv flv fkv rtv rlv rkv : Value) (w : World) (hf1 : HB w ftv f.tr) (hf2 : HB w flv f.li) (hf3 : PA w fkv f.lk) (hr1 : HB w rtv r.tr) (hr2 : HB w rlv r.li) (hr3 : PA w rkv r.lk) (hcan : canB size f = true) (h0 : 0 ≤ r.e) (hmem : r.e.toNat ∈ linksL f.e.toNat) :
    Calls Tryd.prog 22 #[.int .i64 size, .agg #[.int .i64 f.e, .int .i64 f.t, ftv, .int .i64 f.c, flv, fkv], .agg #[.int .i64 r.e, .int .i64 r.t, rtv, .int .i64 r.c, rlv, rkv]] w fun x w' => x = .returned (.bool (decide (f.lk[lkI f r]? = some (hshF size r)))) ∧ Below w.heap.size w w' := by
  obtain ⟨ftp, ftc, rfl⟩ := hf1.shape
  obtain ⟨flp, flc, rfl⟩ := hf2.shape
  obtain ⟨fkp, fkc, rfl⟩ := hf3.shape
  obtain ⟨rtp, rtc, rfl⟩ := hr1.shape
  obtain ⟨rlp, rlc, rfl⟩ := hr2.shape
  obtain ⟨rkp, rkc, rfl⟩ := hr3.shape
  have q4 := ((canB_iff _ _).1 hcan).2.2.2.1
  have q9 := ((canB_iff _ _).1 hcan).2.2.2.2.2.2.2.2.1
  have hKL : lkI f r < (linksL f.e.toNat).length := List.idxOf_lt_length_of_mem hmem
  have hK : lkI f r < f.lk.length := by rw [q9]; exact hKL
  have hm63 := hf3.len.2
  unfold maxLen at hm63
  obtain ⟨kb, ko, rfl⟩ := hf3.addr (by omega)
  obtain ⟨q, d, l, hl0, cl, hl⟩ := hf3.get (lkI f r) hK
  have HAt : Hid (∀ j, j < lkI f r → (linksL f.e.toNat)[j]? ≠ some r.e.toNat) := fun j hj h => by
    obtain ⟨hj2, e⟩ := List.getElem?_eq_some_iff.1 h
    have := List.not_of_lt_findIdx (p := (· == r.e.toNat)) (xs := linksL f.e.toNat) (i := j) hj
    simp [e] at this
  have HAk : Hid ((linksL f.e.toNat)[lkI f r]? = some r.e.toNat) := by
    show _ = _
    rw [List.getElem?_eq_getElem hKL]
    exact congrArg some (List.getElem_idxOf hKL)
  have HT : Hid (decide (f.lk[lkI f r]? = some (hshF size r)) = decide (l = hshF size r)) := by
    show _ = _
    rw [hl0.out]
    simp
  have bA := (Below.refl w.heap.size w).alloc (Nat.le_refl _) (.cells #[.int .i64 f.e, .int .i64 f.t, .slice ftp f.tr.length ftc, .int .i64 f.c, .slice flp f.li.length flc, .slice (some ⟨kb, ko, none⟩) f.lk.length fkc] 25)
  have gA := heap_alloc_new w (.cells #[.int .i64 f.e, .int .i64 f.t, .slice ftp f.tr.length ftc, .int .i64 f.c, .slice flp f.li.length flc, .slice (some ⟨kb, ko, none⟩) f.lk.length fkc] 25)
  have sA : (w.alloc (.cells #[.int .i64 f.e, .int .i64 f.t, .slice ftp f.tr.length ftc, .int .i64 f.c, .slice flp f.li.length flc, .slice (some ⟨kb, ko, none⟩) f.lk.length fkc] 25)).heap.size = w.heap.size + 1 := by simp
  have bB := (Below.refl (w.heap.size + 1) (w.alloc (.cells #[.int .i64 f.e, .int .i64 f.t, .slice ftp f.tr.length ftc, .int .i64 f.c, .slice flp f.li.length flc, .slice (some ⟨kb, ko, none⟩) f.lk.length fkc] 25))).alloc (by simp) (.cells #[.int .i64 r.e, .int .i64 r.t, .slice rtp r.tr.length rtc, .int .i64 r.c, .slice rlp r.li.length rlc, .slice rkp r.lk.length rkc] 25)
  have gB := heap_alloc_new (w.alloc (.cells #[.int .i64 f.e, .int .i64 f.t, .slice ftp f.tr.length ftc, .int .i64 f.c, .slice flp f.li.length flc, .slice (some ⟨kb, ko, none⟩) f.lk.length fkc] 25)) (.cells #[.int .i64 r.e, .int .i64 r.t, .slice rtp r.tr.length rtc, .int .i64 r.c, .slice rlp r.li.length rlc, .slice rkp r.lk.length rkc] 25)
  rw [sA] at gB
  have gC := (bB.block w.heap.size (by omega)).trans gA
  obtain ⟨X, hX⟩ : ∃ X, X = (w.alloc (.cells #[.int .i64 f.e, .int .i64 f.t, .slice ftp f.tr.length ftc, .int .i64 f.c, .slice flp f.li.length flc, .slice (some ⟨kb, ko, none⟩) f.lk.length fkc] 25)).alloc (.cells #[.int .i64 r.e, .int .i64 r.t, .slice rtp r.tr.length rtc, .int .i64 r.c, .slice rlp r.li.length rlc, .slice rkp r.lk.length rkc] 25) := ⟨_, rfl⟩
  rw [← hX] at bB gB gC
  have bX := bA.trans (bB.mono (by omega))
  have g0 : w.heap.size < X.heap.size := (Array.getElem?_eq_some_iff.1 gC).1
  have g1 : w.heap.size + 1 < X.heap.size := (Array.getElem?_eq_some_iff.1 gB).1
  have y0 : X.cell? ⟨w.heap.size, 0, none⟩ = some (.int .i64 f.e) := by rw [cell_of_row _ _ _ _ _ _ gC]; rfl
  have hLk := rlinks_any f.e X (by omega)
  have HHs0 : Hid (∀ W, Below X.heap.size X W → Calls Tryd.prog 12 #[.int .i64 size, .agg #[.int .i64 r.e, .int .i64 r.t, .slice rtp r.tr.length rtc, .int .i64 r.c, .slice rlp r.li.length rlc, .slice rkp r.lk.length rkc]] W fun x w' => ∃ v, x = .returned v ∧ HB w' v (hshF size r) ∧ Below W.heap.size W w') := fun W hB => rhash13_any size r.e r.t r.c _ _ _ r.tr r.li r.lk W ((hr1.later bX).later hB) ((hr2.later bX).later hB) ((hr3.later bX).later hB)
  generalize linksL f.e.toNat = LL at *
  generalize hshF size r = H at *
  generalize lkI f r = K at *
  have hre : ((r.e.toNat : Nat) : Int) = r.e := by omega
  clear bA gA sA bB hmem hcan q9
  go_enter Tryd.func22, Tryd.ntmps22
  go_wp2_with fail
  rw [← hX]
  refine hLk.mono ?_
  rintro x w2 ⟨v2, rfl, o2, b2⟩
  have i2 := IA.of_owns o2
  obtain ⟨p2, c2, rfl⟩ := i2.shape
  have hLm := i2.len_le
  unfold maxLen at hLm
  clear hLk hX o2 y0
  go_wp2
  go_loopw [13] (fun i wr => ∃ k : Nat, k ≤ K ∧ i = .int .i64 k ∧ Below w2.heap.size w2 wr) (fun i _ => K - (intOf i).toNat)
  case atStart => exact ⟨0, Nat.zero_le _, rfl, Below.refl _ _⟩
  case round =>
    obtain ⟨k, hk, rfl, hbw⟩ := hrel
    have bXr := b2.trans (hbw.mono b2.size)
    have bw := bX.trans (bXr.mono bX.size)
    obtain ⟨eb, eo, rfl, fe⟩ := i2.addr (by omega)
    have Gf := (bXr.block _ g0).trans gC
    have Gr := (bXr.block _ g1).trans gB
    have s0 : wr.cell? ⟨w.heap.size + 1, 0, none⟩ = some (.int .i64 r.e) := by rw [cell_of_row _ _ _ _ _ _ Gr]; rfl
    have s5 : wr.cell? ⟨w.heap.size, 5, none⟩ = some (.slice (some ⟨kb, ko, none⟩) f.lk.length fkc) := by rw [cell_of_row _ _ _ _ _ _ Gf]; rfl
    have hlt2 : (k : Int) < (LL.length : Int) := by omega
    have hlt3 : (k : Int) < (f.lk.length : Int) := by omega
    by_cases hkK : k < K
    · obtain ⟨ep, hep⟩ : ∃ ep, LL[k]? = some ep := ⟨_, List.getElem?_eq_getElem (by omega)⟩
      have ce := cell_later hbw (fe k ep hep)
      have hne : ¬ (ep : Int) = r.e := fun h => HAt.out k hkK (by rw [hep]; congr 1; omega)
      have n1 : ((ep : Int) == r.e) = false := by simpa using hne
      have n2 : decide ((ep : Int) = r.e) = false := by simpa using hne
      clear hep fe hne HAt HAk HT HHs0 Gf Gr gB gC hre
      go_wp2
      go_roundw
      case rel => first | exact ⟨k + 1, by omega, by go_num, hbw⟩ | ((repeat apply Exists.intro); exact ⟨⟨k + 1, by omega, by go_num, hbw⟩, rfl⟩)
      case measure => simp [intOf]; omega
    · obtain rfl : k = K := by omega
      have ce := cell_later hbw (fe k _ HAk.out)
      rw [hre] at ce
      have HHs : Hid (∀ W, Below wr.heap.size wr W → Calls Tryd.prog 12 #[.int .i64 size, .agg #[.int .i64 r.e, .int .i64 r.t, .slice rtp r.tr.length rtc, .int .i64 r.c, .slice rlp r.li.length rlc, .slice rkp r.lk.length rkc]] W fun x w' => ∃ v, x = .returned v ∧ HB w' v H ∧ Below W.heap.size W w') := fun W hB => HHs0.out W (bXr.trans (hB.mono bXr.size))
      have ltf : w.heap.size < wr.heap.size := (Array.getElem?_eq_some_iff.1 Gf).1
      have ltr : w.heap.size + 1 < wr.heap.size := (Array.getElem?_eq_some_iff.1 Gr).1
      have hcells : ∀ W, Below wr.heap.size wr W → W.cell? ⟨w.heap.size, 5, none⟩ = some (.slice (some ⟨kb, ko, none⟩) f.lk.length fkc) ∧ W.cell? ⟨w.heap.size + 1, 0, none⟩ = some (.int .i64 r.e) ∧ W.cell? ⟨w.heap.size + 1, 1, none⟩ = some (.int .i64 r.t) ∧ W.cell? ⟨w.heap.size + 1, 2, none⟩ = some (.slice rtp r.tr.length rtc) ∧ W.cell? ⟨w.heap.size + 1, 3, none⟩ = some (.int .i64 r.c) ∧ W.cell? ⟨w.heap.size + 1, 4, none⟩ = some (.slice rlp r.li.length rlc) ∧ W.cell? ⟨w.heap.size + 1, 5, none⟩ = some (.slice rkp r.lk.length rkc) ∧ W.cell? ⟨kb, ko + k, none⟩ = some (.slice q l.length d) ∧ HB W (.slice q l.length d) l := by
        intro W hB
        have G1 := (hB.block _ ltf).trans Gf
        have G2 := (hB.block _ ltr).trans Gr
        refine ⟨?_, ?_, ?_, ?_, ?_, ?_, ?_, cell_later (bw.trans (hB.mono bw.size)) cl, hl.later (bw.trans (hB.mono bw.size))⟩
        · rw [cell_of_row _ _ _ _ _ _ G1]; rfl
        all_goals (rw [cell_of_row _ _ _ _ _ _ G2]; rfl)
      have bD : Below wr.heap.size wr wr.drew := (Below.refl _ wr).drew
      have hHeld := hcells _ bD
      clear fe HAt HAk HHs0 Gf Gr gB gC hre hl0 cl hl hf1 hf2 hf3 hr1 hr2 hr3
      go_wp2_with fail
      refine wp_region_heldN (by kernel_rfl) (fun W => W.cell? ⟨w.heap.size, 5, none⟩ = some (.slice (some ⟨kb, ko, none⟩) f.lk.length fkc) ∧ W.cell? ⟨w.heap.size + 1, 0, none⟩ = some (.int .i64 r.e) ∧ W.cell? ⟨w.heap.size + 1, 1, none⟩ = some (.int .i64 r.t) ∧ W.cell? ⟨w.heap.size + 1, 2, none⟩ = some (.slice rtp r.tr.length rtc) ∧ W.cell? ⟨w.heap.size + 1, 3, none⟩ = some (.int .i64 r.c) ∧ W.cell? ⟨w.heap.size + 1, 4, none⟩ = some (.slice rlp r.li.length rlc) ∧ W.cell? ⟨w.heap.size + 1, 5, none⟩ = some (.slice rkp r.lk.length rkc) ∧ W.cell? ⟨kb, ko + k, none⟩ = some (.slice q l.length d) ∧ HB W (.slice q l.length d) l) 12 rfl ?_
      refine tkY 0 ⟨some 29, .fieldAddr 25 (.tmp 4) 5, 0, "ref.go:61", #[], none⟩ ?v0z1 hHeld ?y0z1 ?r0z1
      case y0z1 => (intro w hSw; (try dsimp only at hSw); go_simp) <;> with_reducible rfl
      try simp only [Act.put, List.setIfInBounds_toArray, List.set_cons_zero, List.set_cons_succ]
      refine tkY 1 ⟨some 30, .load 23 (.tmp 29), 23, "ref.go:61", #[⟨0, .data⟩], none⟩ ?v1z2 hHeld ?y1z2 ?r1z2
      case y1z2 => (intro w hSw; (try dsimp only at hSw); go_simp) <;> with_reducible rfl
      try simp only [Act.put, List.setIfInBounds_toArray, List.set_cons_zero, List.set_cons_succ]
      refine tkY 2 ⟨some 31, .move (.tmp 7), 3, "ref.go:61", #[], none⟩ ?v2z3 hHeld ?y2z3 ?r2z3
      case y2z3 => (intro w hSw; (try dsimp only at hSw); go_simp) <;> with_reducible rfl
      try simp only [Act.put, List.setIfInBounds_toArray, List.set_cons_zero, List.set_cons_succ]
      refine tkY 3 ⟨some 32, .indexAddr 23 (.tmp 30) (.tmp 31), 0, "ref.go:61", #[⟨1, .data⟩, ⟨2, .data⟩], none⟩ ?v3z4 hHeld ?y3z4 ?r3z4
      case y3z4 => (intro w hSw; (try dsimp only at hSw); go_simp) <;> with_reducible rfl
      try simp only [Act.put, List.setIfInBounds_toArray, List.set_cons_zero, List.set_cons_succ]
      refine tkY 4 ⟨some 33, .load 22 (.tmp 32), 22, "ref.go:61", #[⟨3, .data⟩], none⟩ ?v4z5 hHeld ?y4z5 ?r4z5
      case y4z5 => (intro w hSw; (try dsimp only at hSw); go_simp) <;> with_reducible rfl
      try simp only [Act.put, List.setIfInBounds_toArray, List.set_cons_zero, List.set_cons_succ]
      refine tkY 5 ⟨some 34, .convert 22 9 (.tmp 33), 9, "ref.go:61", #[⟨4, .data⟩], none⟩ ?v5z6 hHeld ?y5z6 ?r5z6
      case y5z6 => (intro w hSw; (try dsimp only at hSw); obtain ⟨_, _, _, _, _, _, _, _, qq⟩ := hSw; have qs := qq.str (P := Tryd.prog) 22 5 9 Tryd.underlying22 Tryd.underlying5 Tryd.underlying9; go_simp) <;> with_reducible rfl
      try simp only [Act.put, List.setIfInBounds_toArray, List.set_cons_zero, List.set_cons_succ]
      refine tkY 6 ⟨some 35, .move (.tmp 0), 3, "ref.go:61", #[], none⟩ ?v6z7 hHeld ?y6z7 ?r6z7
      case y6z7 => (intro w hSw; (try dsimp only at hSw); go_simp) <;> with_reducible rfl
      try simp only [Act.put, List.setIfInBounds_toArray, List.set_cons_zero, List.set_cons_succ]
      refine tkY 7 ⟨some 36, .load 25 (.tmp 5), 25, "ref.go:61", #[], none⟩ ?v7z8 hHeld ?y7z8 ?r7z8
      case y7z8 => (intro w hSw; (try dsimp only at hSw); go_simp) <;> with_reducible rfl
      try simp only [Act.put, List.setIfInBounds_toArray, List.set_cons_zero, List.set_cons_succ]
      refine wpAnyH_ready (rs := [8]) (by kernel_rfl) (by simp) ?_
      refine AllReadyH.cons (o := ⟨some 37, .call { callee := .value (.func 12), args := #[.tmp 35, .tmp 36], argTypes := #[3, 25] }, 22, "ref.go:61", #[⟨6, .data⟩, ⟨7, .data⟩], none⟩) rfl (fun K hK => ?_) AllReadyH.nil
      go_simp
      refine (HHs.out _ bD).mono ?_
      rintro x w5 ⟨v5, rfl, hh5, b5'⟩
      obtain ⟨p5, c5, rfl⟩ := hh5.shape
      have b5 := bD.trans (b5'.mono bD.size)
      replace hHeld := hcells w5 b5
      have qs5 := hh5.str (P := Tryd.prog) 22 5 9 Tryd.underlying22 Tryd.underlying5 Tryd.underlying9
      refine hK.out _ _ ?_ (fun _ => ?_)
      · exact hHeld
      clear hK K
      try simp only [Act.put, List.setIfInBounds_toArray, List.set_cons_zero, List.set_cons_succ]
      refine wpAnyH_ready (rs := [9]) (by kernel_rfl) (by simp) ?_
      refine AllReadyH.cons (o := ⟨some 38, .convert 22 9 (.tmp 37), 9, "ref.go:61", #[⟨8, .data⟩], none⟩) rfl (fun K hK => ?_) AllReadyH.nil
      go_simp
      refine hK.out _ _ ?_ (fun _ => ?_)
      · exact hHeld
      clear hK K
      try simp only [Act.put, List.setIfInBounds_toArray, List.set_cons_zero, List.set_cons_succ]
      by_cases hc10 : l = H
      · have n1 : (l == H) = true := by simpa using hc10
        have n2 : decide (l = H) = true := by simpa using hc10
        have HQ : Hid (l = H) := hc10
        clear hc10
        refine tkY 10 ⟨some 39, .binOp .eql 9 (.tmp 34) (.tmp 38) 9, 4, "ref.go:61", #[⟨5, .data⟩, ⟨9, .data⟩], none⟩ ?v10z9 hHeld ?y10z9 ?r10z9
        case y10z9 => (intro w hSw; (try dsimp only at hSw); go_simp) <;> with_reducible rfl
        try simp only [Act.put, List.setIfInBounds_toArray, List.set_cons_zero, List.set_cons_succ]
        refine tkY 11 ⟨some 6, .assign (.tmp 39), 4, "ref.go:61", #[⟨10, .data⟩, ⟨8, .chain⟩, ⟨0, .phase⟩, ⟨1, .phase⟩, ⟨2, .phase⟩, ⟨3, .phase⟩, ⟨4, .phase⟩, ⟨5, .phase⟩, ⟨6, .phase⟩, ⟨7, .phase⟩, ⟨8, .phase⟩, ⟨9, .phase⟩, ⟨10, .phase⟩], none⟩ ?v11z10 hHeld ?y11z10 ?r11z10
        case y11z10 => (intro w hSw; (try dsimp only at hSw); go_simp) <;> with_reducible rfl
        try simp only [Act.put, List.setIfInBounds_toArray, List.set_cons_zero, List.set_cons_succ]
        refine wpAnyH_done (by kernel_rfl) ?_ _
        have bF := bw.trans (b5.mono bw.size)
        clear hHeld hcells hh5 qs5 b5'
        go_wp2
        go_ret
        rw [HT.out]
        exact ⟨by simp [HQ.out], bF⟩
      · have n1 : (l == H) = false := by simpa using hc10
        have n2 : decide (l = H) = false := by simpa using hc10
        have HQ : Hid (¬ l = H) := hc10
        clear hc10
        refine tkY 10 ⟨some 39, .binOp .eql 9 (.tmp 34) (.tmp 38) 9, 4, "ref.go:61", #[⟨5, .data⟩, ⟨9, .data⟩], none⟩ ?v10z11 hHeld ?y10z11 ?r10z11
        case y10z11 => (intro w hSw; (try dsimp only at hSw); go_simp) <;> with_reducible rfl
        try simp only [Act.put, List.setIfInBounds_toArray, List.set_cons_zero, List.set_cons_succ]
        refine tkY 11 ⟨some 6, .assign (.tmp 39), 4, "ref.go:61", #[⟨10, .data⟩, ⟨8, .chain⟩, ⟨0, .phase⟩, ⟨1, .phase⟩, ⟨2, .phase⟩, ⟨3, .phase⟩, ⟨4, .phase⟩, ⟨5, .phase⟩, ⟨6, .phase⟩, ⟨7, .phase⟩, ⟨8, .phase⟩, ⟨9, .phase⟩, ⟨10, .phase⟩], none⟩ ?v11z12 hHeld ?y11z12 ?r11z12
        case y11z12 => (intro w hSw; (try dsimp only at hSw); go_simp) <;> with_reducible rfl
        try simp only [Act.put, List.setIfInBounds_toArray, List.set_cons_zero, List.set_cons_succ]
        refine wpAnyH_done (by kernel_rfl) ?_ _
        have bF := bw.trans (b5.mono bw.size)
        clear hHeld hcells hh5 qs5 b5'
        go_wp2
        go_ret
        rw [HT.out]
        exact ⟨by simp [HQ.out], bF⟩

end Go.Proofs.YtpndpmkoegmbkaaDoor

namespace Go.Proofs.YtpndpmkoegmbkaaDoor
open Go.RowKit

/-- What the document's Follow answers: it lies where it lay. -/
def FolO (R : Option Rc) (w0 w : World) (x : Ending) (w' : World) : Prop :=
  (R = none → x = .returned (.tuple #[.agg #[.int .i64 0, .int .i64 0, .slice none 0 0, .int .i64 0, .slice none 0 0, .slice none 0 0], .bool false])) ∧
  (∀ r, R = some r → ∃ tp tc lp lc kp kc, x = .returned (.tuple #[.agg #[.int .i64 r.e, .int .i64 r.t, .slice tp r.tr.length tc, .int .i64 r.c, .slice lp r.li.length lc, .slice kp r.lk.length kc], .bool true]) ∧ HB w0 (.slice tp r.tr.length tc) r.tr ∧ HB w0 (.slice lp r.li.length lc) r.li ∧ PA w0 (.slice kp r.lk.length kc) r.lk) ∧ Below w.heap.size w w'

set_option maxRecDepth 100000 in
set_option maxHeartbeats 8000000 in
theorem rfollowO_any (size : Int) (hd : Rc) (tv lv kv vv : Value) (way : List Rc) (to : Int) (w0 w : World) (hB0 : Below w0.heap.size w0 w) (h1 : HB w0 tv hd.tr) (h2 : HB w0 lv hd.li) (h3 : PA w0 kv hd.lk) (hW : RA w0 vv way) :
    Calls Tryd.prog 8 #[.int .i64 size, .agg #[.int .i64 hd.e, .int .i64 hd.t, tv, .int .i64 hd.c, lv, kv], vv, .int .i64 to] w (FolO (folR size hd way to) w0 w) := by
  obtain ⟨htp, htc, rfl⟩ := h1.shape
  obtain ⟨hlp, hlc, rfl⟩ := h2.shape
  obtain ⟨hkp, hkc, rfl⟩ := h3.shape
  obtain ⟨vp, vc, rfl⟩ := hW.shape
  have hWl := hW.len
  unfold maxLen at hWl
  have bA := (Below.refl w.heap.size w).alloc (Nat.le_refl _) (.cells #[.int .i64 hd.e, .int .i64 hd.t, .slice htp hd.tr.length htc, .int .i64 hd.c, .slice hlp hd.li.length hlc, .slice hkp hd.lk.length hkc] 25)
  have gA := heap_alloc_new w (.cells #[.int .i64 hd.e, .int .i64 hd.t, .slice htp hd.tr.length htc, .int .i64 hd.c, .slice hlp hd.li.length hlc, .slice hkp hd.lk.length hkc] 25)
  have sA : (w.alloc (.cells #[.int .i64 hd.e, .int .i64 hd.t, .slice htp hd.tr.length htc, .int .i64 hd.c, .slice hlp hd.li.length hlc, .slice hkp hd.lk.length hkc] 25)).heap.size = w.heap.size + 1 := by simp
  have bB := (Below.refl (w.heap.size + 1) (w.alloc (.cells #[.int .i64 hd.e, .int .i64 hd.t, .slice htp hd.tr.length htc, .int .i64 hd.c, .slice hlp hd.li.length hlc, .slice hkp hd.lk.length hkc] 25))).alloc (by simp) (.cells #[.int .i64 0, .int .i64 0, .slice none 0 0, .int .i64 0, .slice none 0 0, .slice none 0 0] 25)
  have gB := heap_alloc_new (w.alloc (.cells #[.int .i64 hd.e, .int .i64 hd.t, .slice htp hd.tr.length htc, .int .i64 hd.c, .slice hlp hd.li.length hlc, .slice hkp hd.lk.length hkc] 25)) (.cells #[.int .i64 0, .int .i64 0, .slice none 0 0, .int .i64 0, .slice none 0 0, .slice none 0 0] 25)
  rw [sA] at gB
  have gC := (bB.block w.heap.size (by omega)).trans gA
  obtain ⟨X, hX⟩ : ∃ X, X = (w.alloc (.cells #[.int .i64 hd.e, .int .i64 hd.t, .slice htp hd.tr.length htc, .int .i64 hd.c, .slice hlp hd.li.length hlc, .slice hkp hd.lk.length hkc] 25)).alloc (.cells #[.int .i64 0, .int .i64 0, .slice none 0 0, .int .i64 0, .slice none 0 0, .slice none 0 0] 25) := ⟨_, rfl⟩
  rw [← hX] at bB gB gC
  have bX := bA.trans (bB.mono (by omega))
  have g0 : w.heap.size < X.heap.size := (Array.getElem?_eq_some_iff.1 gC).1
  have g1 : w.heap.size + 1 < X.heap.size := (Array.getElem?_eq_some_iff.1 gB).1
  have y0 : X.cell? ⟨w.heap.size, 0, none⟩ = some (.int .i64 hd.e) := by rw [cell_of_row _ _ _ _ _ _ gC]; rfl
  have y1 : X.cell? ⟨w.heap.size, 1, none⟩ = some (.int .i64 hd.t) := by rw [cell_of_row _ _ _ _ _ _ gC]; rfl
  have y2 : X.cell? ⟨w.heap.size, 2, none⟩ = some (.slice htp hd.tr.length htc) := by rw [cell_of_row _ _ _ _ _ _ gC]; rfl
  have y3 : X.cell? ⟨w.heap.size, 3, none⟩ = some (.int .i64 hd.c) := by rw [cell_of_row _ _ _ _ _ _ gC]; rfl
  have y4 : X.cell? ⟨w.heap.size, 4, none⟩ = some (.slice hlp hd.li.length hlc) := by rw [cell_of_row _ _ _ _ _ _ gC]; rfl
  have y5 : X.cell? ⟨w.heap.size, 5, none⟩ = some (.slice hkp hd.lk.length hkc) := by rw [cell_of_row _ _ _ _ _ _ gC]; rfl
  have hCan : Calls Tryd.prog 20 #[.int .i64 size, .agg #[.int .i64 hd.e, .int .i64 hd.t, .slice htp hd.tr.length htc, .int .i64 hd.c, .slice hlp hd.li.length hlc, .slice hkp hd.lk.length hkc]] X fun x w' => x = .returned (.bool (canB size hd)) ∧ Below X.heap.size X w' := rcan_any size hd.e hd.t hd.c _ _ _ hd.tr hd.li hd.lk X ((h1.later hB0).later bX) ((h2.later hB0).later bX) ((h3.later hB0).later bX)
  have HF0 : Hid (canB size hd = false → folR size hd way to = none) := fun h => if_neg (fun q => by rw [h] at q; cases q.1)
  have HF1 : Hid (to < 0 → folR size hd way to = none) := fun h => if_neg (fun q => by omega)
  have HF2 : Hid (hd.e < to → folR size hd way to = none) := fun h => if_neg (fun q => by omega)
  have HF3 : Hid (canB size hd = true → 0 ≤ to → to ≤ hd.e → folR size hd way to = folP size hd way (wayI hd.e to)) := fun h1 h2 h3 => if_pos ⟨h1, h2, h3⟩
  generalize folR size hd way to = R at *
  obtain ⟨CB, hCB⟩ : ∃ CB, CB = canB size hd := ⟨_, rfl⟩
  have HCB : Hid (canB size hd = CB) := hCB.symm
  rw [← hCB] at hCan
  clear hCB bA gA sA bB
  go_enter Tryd.func8, Tryd.ntmps8
  go_wp2_with fail
  rw [← hX]
  refine hCan.mono ?_
  rintro x w2 ⟨rfl, b2⟩
  have G2 := (b2.block _ g0).trans gC
  have Z2 := (b2.block _ g1).trans gB
  have bw2 := bX.trans (b2.mono bX.size)
  have l2 : w.heap.size + 1 < w2.heap.size := (Array.getElem?_eq_some_iff.1 Z2).1
  have y0 : w2.cell? ⟨w.heap.size, 0, none⟩ = some (.int .i64 hd.e) := by rw [cell_of_row _ _ _ _ _ _ G2]; rfl
  clear hCan hX gB gC b2 bX g0 g1 y1 y2 y3 y4 y5
  cases CB with
  | false =>
    have HR : Hid (R = none) := HF0.out HCB.out
    clear HF0 HF1 HF2 HF3
    have x0 : w2.cell? ⟨w.heap.size + 1, 0, none⟩ = some (.int .i64 0) := by rw [cell_of_row _ _ _ _ _ _ Z2]; rfl
    have x1 : w2.cell? ⟨w.heap.size + 1, 1, none⟩ = some (.int .i64 0) := by rw [cell_of_row _ _ _ _ _ _ Z2]; rfl
    have x2 : w2.cell? ⟨w.heap.size + 1, 2, none⟩ = some (.slice none 0 0) := by rw [cell_of_row _ _ _ _ _ _ Z2]; rfl
    have x3 : w2.cell? ⟨w.heap.size + 1, 3, none⟩ = some (.int .i64 0) := by rw [cell_of_row _ _ _ _ _ _ Z2]; rfl
    have x4 : w2.cell? ⟨w.heap.size + 1, 4, none⟩ = some (.slice none 0 0) := by rw [cell_of_row _ _ _ _ _ _ Z2]; rfl
    have x5 : w2.cell? ⟨w.heap.size + 1, 5, none⟩ = some (.slice none 0 0) := by rw [cell_of_row _ _ _ _ _ _ Z2]; rfl
    have f0 : w2.frozen? ⟨w.heap.size + 1, 0, none⟩ = false := frz_of Z2
    have f1 : w2.frozen? ⟨w.heap.size + 1, 1, none⟩ = false := frz_of Z2
    have f2 : w2.frozen? ⟨w.heap.size + 1, 2, none⟩ = false := frz_of Z2
    have f3 : w2.frozen? ⟨w.heap.size + 1, 3, none⟩ = false := frz_of Z2
    have f4 : w2.frozen? ⟨w.heap.size + 1, 4, none⟩ = false := frz_of Z2
    have f5 : w2.frozen? ⟨w.heap.size + 1, 5, none⟩ = false := frz_of Z2
    have hon : Only (w.heap.size + 1) w2 (((((((w2).setCell ⟨w.heap.size + 1, 0, none⟩ (.int .i64 0)).setCell ⟨w.heap.size + 1, 1, none⟩ (.int .i64 0)).setCell ⟨w.heap.size + 1, 2, none⟩ (.slice none 0 0)).setCell ⟨w.heap.size + 1, 3, none⟩ (.int .i64 0)).setCell ⟨w.heap.size + 1, 4, none⟩ (.slice none 0 0)).setCell ⟨w.heap.size + 1, 5, none⟩ (.slice none 0 0)) := ((((((Only.refl _ _).setCell 0 _).setCell 1 _).setCell 2 _).setCell 3 _).setCell 4 _).setCell 5 _
    have bf : Below w.heap.size w (((((((w2).setCell ⟨w.heap.size + 1, 0, none⟩ (.int .i64 0)).setCell ⟨w.heap.size + 1, 1, none⟩ (.int .i64 0)).setCell ⟨w.heap.size + 1, 2, none⟩ (.slice none 0 0)).setCell ⟨w.heap.size + 1, 3, none⟩ (.int .i64 0)).setCell ⟨w.heap.size + 1, 4, none⟩ (.slice none 0 0)).setCell ⟨w.heap.size + 1, 5, none⟩ (.slice none 0 0)) := bw2.trans (hon.below (by omega))
    clear hon bw2 Z2 G2
    go_wp2
    refine bodyPost_ret (v := .tuple #[.agg #[.int .i64 0, .int .i64 0, .slice none 0 0, .int .i64 0, .slice none 0 0, .slice none 0 0], .bool false]) ?_ rfl ?_
    · simp only [results, Tryd.results8]
      go_simp
    · exact ⟨fun _ => rfl, fun r h => (by rw [HR.out] at h; cases h), bf⟩
  | true =>
    by_cases ht0 : to < 0
    · have HR : Hid (R = none) := HF1.out ht0
      clear HF0 HF1 HF2 HF3
      have x0 : w2.cell? ⟨w.heap.size + 1, 0, none⟩ = some (.int .i64 0) := by rw [cell_of_row _ _ _ _ _ _ Z2]; rfl
      have x1 : w2.cell? ⟨w.heap.size + 1, 1, none⟩ = some (.int .i64 0) := by rw [cell_of_row _ _ _ _ _ _ Z2]; rfl
      have x2 : w2.cell? ⟨w.heap.size + 1, 2, none⟩ = some (.slice none 0 0) := by rw [cell_of_row _ _ _ _ _ _ Z2]; rfl
      have x3 : w2.cell? ⟨w.heap.size + 1, 3, none⟩ = some (.int .i64 0) := by rw [cell_of_row _ _ _ _ _ _ Z2]; rfl
      have x4 : w2.cell? ⟨w.heap.size + 1, 4, none⟩ = some (.slice none 0 0) := by rw [cell_of_row _ _ _ _ _ _ Z2]; rfl
      have x5 : w2.cell? ⟨w.heap.size + 1, 5, none⟩ = some (.slice none 0 0) := by rw [cell_of_row _ _ _ _ _ _ Z2]; rfl
      have f0 : w2.frozen? ⟨w.heap.size + 1, 0, none⟩ = false := frz_of Z2
      have f1 : w2.frozen? ⟨w.heap.size + 1, 1, none⟩ = false := frz_of Z2
      have f2 : w2.frozen? ⟨w.heap.size + 1, 2, none⟩ = false := frz_of Z2
      have f3 : w2.frozen? ⟨w.heap.size + 1, 3, none⟩ = false := frz_of Z2
      have f4 : w2.frozen? ⟨w.heap.size + 1, 4, none⟩ = false := frz_of Z2
      have f5 : w2.frozen? ⟨w.heap.size + 1, 5, none⟩ = false := frz_of Z2
      have hon : Only (w.heap.size + 1) w2 (((((((w2).setCell ⟨w.heap.size + 1, 0, none⟩ (.int .i64 0)).setCell ⟨w.heap.size + 1, 1, none⟩ (.int .i64 0)).setCell ⟨w.heap.size + 1, 2, none⟩ (.slice none 0 0)).setCell ⟨w.heap.size + 1, 3, none⟩ (.int .i64 0)).setCell ⟨w.heap.size + 1, 4, none⟩ (.slice none 0 0)).setCell ⟨w.heap.size + 1, 5, none⟩ (.slice none 0 0)) := ((((((Only.refl _ _).setCell 0 _).setCell 1 _).setCell 2 _).setCell 3 _).setCell 4 _).setCell 5 _
      have bf : Below w.heap.size w (((((((w2).setCell ⟨w.heap.size + 1, 0, none⟩ (.int .i64 0)).setCell ⟨w.heap.size + 1, 1, none⟩ (.int .i64 0)).setCell ⟨w.heap.size + 1, 2, none⟩ (.slice none 0 0)).setCell ⟨w.heap.size + 1, 3, none⟩ (.int .i64 0)).setCell ⟨w.heap.size + 1, 4, none⟩ (.slice none 0 0)).setCell ⟨w.heap.size + 1, 5, none⟩ (.slice none 0 0)) := bw2.trans (hon.below (by omega))
      clear hon bw2 Z2 G2
      go_wp2
      refine bodyPost_ret (v := .tuple #[.agg #[.int .i64 0, .int .i64 0, .slice none 0 0, .int .i64 0, .slice none 0 0, .slice none 0 0], .bool false]) ?_ rfl ?_
      · simp only [results, Tryd.results8]
        go_simp
      · exact ⟨fun _ => rfl, fun r h => (by rw [HR.out] at h; cases h), bf⟩
    · by_cases ht1 : hd.e < to
      · have HR : Hid (R = none) := HF2.out ht1
        clear HF0 HF1 HF2 HF3
        have x0 : w2.cell? ⟨w.heap.size + 1, 0, none⟩ = some (.int .i64 0) := by rw [cell_of_row _ _ _ _ _ _ Z2]; rfl
        have x1 : w2.cell? ⟨w.heap.size + 1, 1, none⟩ = some (.int .i64 0) := by rw [cell_of_row _ _ _ _ _ _ Z2]; rfl
        have x2 : w2.cell? ⟨w.heap.size + 1, 2, none⟩ = some (.slice none 0 0) := by rw [cell_of_row _ _ _ _ _ _ Z2]; rfl
        have x3 : w2.cell? ⟨w.heap.size + 1, 3, none⟩ = some (.int .i64 0) := by rw [cell_of_row _ _ _ _ _ _ Z2]; rfl
        have x4 : w2.cell? ⟨w.heap.size + 1, 4, none⟩ = some (.slice none 0 0) := by rw [cell_of_row _ _ _ _ _ _ Z2]; rfl
        have x5 : w2.cell? ⟨w.heap.size + 1, 5, none⟩ = some (.slice none 0 0) := by rw [cell_of_row _ _ _ _ _ _ Z2]; rfl
        have f0 : w2.frozen? ⟨w.heap.size + 1, 0, none⟩ = false := frz_of Z2
        have f1 : w2.frozen? ⟨w.heap.size + 1, 1, none⟩ = false := frz_of Z2
        have f2 : w2.frozen? ⟨w.heap.size + 1, 2, none⟩ = false := frz_of Z2
        have f3 : w2.frozen? ⟨w.heap.size + 1, 3, none⟩ = false := frz_of Z2
        have f4 : w2.frozen? ⟨w.heap.size + 1, 4, none⟩ = false := frz_of Z2
        have f5 : w2.frozen? ⟨w.heap.size + 1, 5, none⟩ = false := frz_of Z2
        have hon : Only (w.heap.size + 1) w2 (((((((w2).setCell ⟨w.heap.size + 1, 0, none⟩ (.int .i64 0)).setCell ⟨w.heap.size + 1, 1, none⟩ (.int .i64 0)).setCell ⟨w.heap.size + 1, 2, none⟩ (.slice none 0 0)).setCell ⟨w.heap.size + 1, 3, none⟩ (.int .i64 0)).setCell ⟨w.heap.size + 1, 4, none⟩ (.slice none 0 0)).setCell ⟨w.heap.size + 1, 5, none⟩ (.slice none 0 0)) := ((((((Only.refl _ _).setCell 0 _).setCell 1 _).setCell 2 _).setCell 3 _).setCell 4 _).setCell 5 _
        have bf : Below w.heap.size w (((((((w2).setCell ⟨w.heap.size + 1, 0, none⟩ (.int .i64 0)).setCell ⟨w.heap.size + 1, 1, none⟩ (.int .i64 0)).setCell ⟨w.heap.size + 1, 2, none⟩ (.slice none 0 0)).setCell ⟨w.heap.size + 1, 3, none⟩ (.int .i64 0)).setCell ⟨w.heap.size + 1, 4, none⟩ (.slice none 0 0)).setCell ⟨w.heap.size + 1, 5, none⟩ (.slice none 0 0)) := bw2.trans (hon.below (by omega))
        clear hon bw2 Z2 G2
        go_wp2
        refine bodyPost_ret (v := .tuple #[.agg #[.int .i64 0, .int .i64 0, .slice none 0 0, .int .i64 0, .slice none 0 0, .slice none 0 0], .bool false]) ?_ rfl ?_
        · simp only [results, Tryd.results8]
          go_simp
        · exact ⟨fun _ => rfl, fun r h => (by rw [HR.out] at h; cases h), bf⟩
      · have HF : Hid (R = folP size hd way (wayI hd.e to)) := HF3.out HCB.out (by omega) (by omega)
        have q3 := ((canB_iff _ _).1 HCB.out).2.2.1
        have q4 := ((canB_iff _ _).1 HCB.out).2.2.2.1
        have HE : Hid (wayI hd.e to = wayN hd.e.toNat to.toNat) := by
          show wayI _ _ = _
          unfold wayI
          split
          · rw [wayN_at _ _ (by omega)]
          · rfl
        have hWay := rway_any hd.e to w2
        clear HF0 HF1 HF2 HF3
        generalize wayI hd.e to = E at *
        go_wp2_with fail
        refine hWay.mono ?_
        rintro x w3 ⟨v3, rfl, o3, b3⟩
        have i3 := IA.of_owns o3
        obtain ⟨p3, c3, rfl⟩ := i3.shape
        have hE3 := i3.len_le
        unfold maxLen at hE3
        have G3 := (b3.block _ (by omega)).trans G2
        have Z3 := (b3.block _ l2).trans Z2
        have bw3 := bw2.trans (b3.mono bw2.size)
        have l3 : w.heap.size + 1 < w3.heap.size := (Array.getElem?_eq_some_iff.1 Z3).1
        clear hWay o3 b3 G2 Z2 l2 bw2 y0
        by_cases hlen : way.length = E.length
        · have e3 : ((E.length : Int) != (way.length : Int)) = false := by simp; omega
          have HL : Hid (way.length = E.length) := hlen
          clear hlen
          have y0 : w3.cell? ⟨w.heap.size, 0, none⟩ = some (.int .i64 hd.e) := by rw [cell_of_row _ _ _ _ _ _ G3]; rfl
          have y1 : w3.cell? ⟨w.heap.size, 1, none⟩ = some (.int .i64 hd.t) := by rw [cell_of_row _ _ _ _ _ _ G3]; rfl
          have y2 : w3.cell? ⟨w.heap.size, 2, none⟩ = some (.slice htp hd.tr.length htc) := by rw [cell_of_row _ _ _ _ _ _ G3]; rfl
          have y3 : w3.cell? ⟨w.heap.size, 3, none⟩ = some (.int .i64 hd.c) := by rw [cell_of_row _ _ _ _ _ _ G3]; rfl
          have y4 : w3.cell? ⟨w.heap.size, 4, none⟩ = some (.slice hlp hd.li.length hlc) := by rw [cell_of_row _ _ _ _ _ _ G3]; rfl
          have y5 : w3.cell? ⟨w.heap.size, 5, none⟩ = some (.slice hkp hd.lk.length hkc) := by rw [cell_of_row _ _ _ _ _ _ G3]; rfl
          have GA := heap_alloc_new w3 (.cells #[.int .i64 hd.e, .int .i64 hd.t, .slice htp hd.tr.length htc, .int .i64 hd.c, .slice hlp hd.li.length hlc, .slice hkp hd.lk.length hkc] 25)
          have bA := (Below.refl w3.heap.size w3).alloc (Nat.le_refl _) (.cells #[.int .i64 hd.e, .int .i64 hd.t, .slice htp hd.tr.length htc, .int .i64 hd.c, .slice hlp hd.li.length hlc, .slice hkp hd.lk.length hkc] 25)
          have hq1 := h1
          have hq2 := h2
          have hq3 := h3
          go_wp2
          go_loopw [42] (fun i wr => ∃ (k : Nat) (last : Rc) (ltp : Option Addr) (ltc : Nat) (llp : Option Addr) (llc : Nat) (lkp : Option Addr) (lkc : Nat), k ≤ E.length ∧ i = .int .i64 k ∧ wr.heap[w3.heap.size]? = some (.cells #[.int .i64 last.e, .int .i64 last.t, .slice ltp last.tr.length ltc, .int .i64 last.c, .slice llp last.li.length llc, .slice lkp last.lk.length lkc] 25 (0, 0)) ∧ HB w0 (.slice ltp last.tr.length ltc) last.tr ∧ HB w0 (.slice llp last.li.length llc) last.li ∧ PA w0 (.slice lkp last.lk.length lkc) last.lk ∧ Below w3.heap.size w3 wr ∧ Hid (folP size last (way.drop k) (E.drop k) = R) ∧ Hid (canB size last = true) ∧ Hid (to ≤ last.e ∧ E.drop k = wayN last.e.toNat to.toNat)) (fun i _ => way.length - (intOf i).toNat)
          case atStart => exact ⟨0, hd, htp, htc, hlp, hlc, hkp, hkc, Nat.zero_le _, rfl, GA, hq1, hq2, hq3, bA, HF.out.symm, HCB, ⟨by omega, HE.out⟩⟩
          case round =>
            clear GA bA hq1 hq2 hq3 HF HE HCB G3 y0 y1 y2 y3 y4 y5
            obtain ⟨k, last, ltp, ltc, llp, llc, lkp, lkc, hk, rfl, GL, q1, q2, q3', hbw, HFk, HCk, HEk⟩ := hrel
            have hsz := hbw.size
            obtain ⟨s1, s2, s3, s4, _, _, _, _, s9, s10, s11, s12⟩ := (canB_iff _ _).1 HCk.out
            have ltz : w.heap.size + 1 < wr.heap.size := by omega
            have Zr := (hbw.block _ l3).trans Z3
            have bw := bw3.trans (hbw.mono bw3.size)
            have ltg : w3.heap.size < wr.heap.size := (Array.getElem?_eq_some_iff.1 GL).1
            by_cases hlt : k < E.length
            · clear s9 s10 s11 s12
              have hltw : k < way.length := by have := HL.out; omega
              obtain ⟨eb, eo, rfl, fe⟩ := i3.addr (by omega)
              obtain ⟨ep, hep⟩ : ∃ ep, E[k]? = some ep := ⟨_, List.getElem?_eq_getElem hlt⟩
              have ce := cell_later hbw (fe k ep hep)
              have HWA : Hid (ep ∈ linksL last.e.toNat ∧ to.toNat ≤ ep ∧ E.drop (k + 1) = wayN ep to.toNat) := way_at E k ep _ _ (by omega) hep HEk.out.2
              have HEP : Hid (E[k]? = some ep) := hep
              clear hep fe
              obtain ⟨vb, vo, rfl⟩ := hW.addr (by omega)
              obtain ⟨r, rtp, rtc, rlp, rlc, rkp, rkc, HRK, hrc⟩ := hW.get k hltw
              have hrc3 := (hrc.later hB0).later bw3
              obtain ⟨⟨j0, j1, j2, j3, j4, j5⟩, _, _, _⟩ := hrc3
              obtain ⟨_, n1, n2, n3⟩ := hrc
              have hlt2 : (k : Int) < (E.length : Int) := by omega
              have hlt3 : (k : Int) < (way.length : Int) := by omega
              have bV := (Below.refl wr.heap.size wr).alloc (Nat.le_refl _) (.cells #[.int .i64 r.e, .int .i64 r.t, .slice rtp r.tr.length rtc, .int .i64 r.c, .slice rlp r.li.length rlc, .slice rkp r.lk.length rkc] 25)
              have gV := heap_alloc_new wr (.cells #[.int .i64 r.e, .int .i64 r.t, .slice rtp r.tr.length rtc, .int .i64 r.c, .slice rlp r.li.length rlc, .slice rkp r.lk.length rkc] 25)
              have hjw := hbw
              have c0 := cell_later hjw j0
              have c1 := cell_later hjw j1
              have c2 := cell_later hjw j2
              have c3 := cell_later hjw j3
              have c4 := cell_later hjw j4
              have c5 := cell_later hjw j5
              obtain ⟨V, hV⟩ : ∃ V, V = wr.alloc (.cells #[.int .i64 r.e, .int .i64 r.t, .slice rtp r.tr.length rtc, .int .i64 r.c, .slice rlp r.li.length rlc, .slice rkp r.lk.length rkc] 25) := ⟨_, rfl⟩
              rw [← hV] at bV gV
              have bV3 := hbw.trans (bV.mono hbw.size)
              have GLV := (bV.block _ ltg).trans GL
              have ZrV := (bV.block _ ltz).trans Zr
              have bwV := bw.trans (bV.mono bw.size)
              have ltgV : w3.heap.size < V.heap.size := (Array.getElem?_eq_some_iff.1 GLV).1
              have ltzV : w.heap.size + 1 < V.heap.size := (Array.getElem?_eq_some_iff.1 ZrV).1
              have ltvV : wr.heap.size < V.heap.size := (Array.getElem?_eq_some_iff.1 gV).1
              have ceV := cell_later bV ce
              have bD : Below V.heap.size V V.drew := (Below.refl _ V).drew
              have HLk : Hid (canB size r = true → lkB size last r = decide (last.lk[lkI last r]? = some (hshF size r))) := fun h => by
                unfold lkB
                rw [h, Bool.true_and]
              have HCn : Hid (∀ W, Below V.heap.size V W → Calls Tryd.prog 20 #[.int .i64 size, .agg #[.int .i64 r.e, .int .i64 r.t, .slice rtp r.tr.length rtc, .int .i64 r.c, .slice rlp r.li.length rlc, .slice rkp r.lk.length rkc]] W fun x w' => x = .returned (.bool (canB size r)) ∧ Below W.heap.size W w') := fun W hB => rcan_any size r.e r.t r.c _ _ _ r.tr r.li r.lk W (((n1.later hB0).later bwV).later hB) (((n2.later hB0).later bwV).later hB) (((n3.later hB0).later bwV).later hB)
              have HLi : Hid (r.e = (ep : Int) → ∀ W, Below V.heap.size V W → Calls Tryd.prog 22 #[.int .i64 size, .agg #[.int .i64 last.e, .int .i64 last.t, .slice ltp last.tr.length ltc, .int .i64 last.c, .slice llp last.li.length llc, .slice lkp last.lk.length lkc], .agg #[.int .i64 r.e, .int .i64 r.t, .slice rtp r.tr.length rtc, .int .i64 r.c, .slice rlp r.li.length rlc, .slice rkp r.lk.length rkc]] W fun x w' => x = .returned (.bool (decide (last.lk[lkI last r]? = some (hshF size r)))) ∧ Below W.heap.size W w') := fun he W hB => rlinked_any size last r _ _ _ _ _ _ W (((q1.later hB0).later bwV).later hB) (((q2.later hB0).later bwV).later hB) (((q3'.later hB0).later bwV).later hB) (((n1.later hB0).later bwV).later hB) (((n2.later hB0).later bwV).later hB) (((n3.later hB0).later bwV).later hB) HCk.out (by omega) (by rw [he, Int.toNat_natCast]; exact HWA.out.1)
              have HS0 : Hid (R = if r.e = (ep : Int) ∧ lkB size last r = true then folP size r (way.drop (k + 1)) (E.drop (k + 1)) else none) := by
                show R = _
                rw [← HFk.out, folP_step size last r way E k ep HRK.out HEP.out]
              have HS : Hid (R = if r.e = (ep : Int) ∧ (canB size r = true ∧ decide (last.lk[lkI last r]? = some (hshF size r)) = true) then folP size r (way.drop (k + 1)) (E.drop (k + 1)) else none) := by
                show R = _
                rw [HS0.out]
                unfold lkB
                simp only [Bool.and_eq_true]
              clear HS0 HLk
              generalize decide (last.lk[lkI last r]? = some (hshF size r)) = LB at *
              obtain ⟨CB, hCB⟩ : ∃ CB, CB = canB size r := ⟨_, rfl⟩
              have HCR : Hid (CB = true → canB size r = true) := fun h => by rw [← hCB]; exact h
              rw [← hCB] at HCn HS
              clear hCB
              have HNx : Hid (r.e = (ep : Int) → to ≤ r.e ∧ E.drop (k + 1) = wayN r.e.toNat to.toNat) := fun he => by
                have := HWA.out
                rw [he, Int.toNat_natCast]
                exact ⟨by omega, this.2.2⟩
              have hcells : ∀ W, Below V.heap.size V W → W.cell? ⟨w3.heap.size, 0, none⟩ = some (.int .i64 last.e) ∧ W.cell? ⟨w3.heap.size, 1, none⟩ = some (.int .i64 last.t) ∧ W.cell? ⟨w3.heap.size, 2, none⟩ = some (.slice ltp last.tr.length ltc) ∧ W.cell? ⟨w3.heap.size, 3, none⟩ = some (.int .i64 last.c) ∧ W.cell? ⟨w3.heap.size, 4, none⟩ = some (.slice llp last.li.length llc) ∧ W.cell? ⟨w3.heap.size, 5, none⟩ = some (.slice lkp last.lk.length lkc) ∧ W.cell? ⟨wr.heap.size, 0, none⟩ = some (.int .i64 r.e) ∧ W.cell? ⟨wr.heap.size, 1, none⟩ = some (.int .i64 r.t) ∧ W.cell? ⟨wr.heap.size, 2, none⟩ = some (.slice rtp r.tr.length rtc) ∧ W.cell? ⟨wr.heap.size, 3, none⟩ = some (.int .i64 r.c) ∧ W.cell? ⟨wr.heap.size, 4, none⟩ = some (.slice rlp r.li.length rlc) ∧ W.cell? ⟨wr.heap.size, 5, none⟩ = some (.slice rkp r.lk.length rkc) ∧ W.cell? ⟨eb, eo + k, none⟩ = some (.int .i64 (ep : Int)) := by
                intro W hB
                have GW := (hB.block _ ltgV).trans GLV
                have GV := (hB.block _ ltvV).trans gV
                refine ⟨?_, ?_, ?_, ?_, ?_, ?_, ?_, ?_, ?_, ?_, ?_, ?_, cell_later hB ceV⟩
                iterate 6 (rw [cell_of_row _ _ _ _ _ _ GW]; rfl)
                iterate 6 (rw [cell_of_row _ _ _ _ _ _ GV]; rfl)
              have hHeld := hcells _ bD
              clear HWA HEP HRK HFk HCk HEk j0 j1 j2 j3 j4 j5 q1 q2 q3' i3 hW h1 h2 h3 bV gV hjw bw Zr ltz
              have bw := bwV
              have Zr := ZrV
              have ltz := ltzV
              clear bwV ZrV ltzV
              go_wp2_with fail
              subst hV
              refine wp_region_heldN (by kernel_rfl) (fun W => W.cell? ⟨w3.heap.size, 0, none⟩ = some (.int .i64 last.e) ∧ W.cell? ⟨w3.heap.size, 1, none⟩ = some (.int .i64 last.t) ∧ W.cell? ⟨w3.heap.size, 2, none⟩ = some (.slice ltp last.tr.length ltc) ∧ W.cell? ⟨w3.heap.size, 3, none⟩ = some (.int .i64 last.c) ∧ W.cell? ⟨w3.heap.size, 4, none⟩ = some (.slice llp last.li.length llc) ∧ W.cell? ⟨w3.heap.size, 5, none⟩ = some (.slice lkp last.lk.length lkc) ∧ W.cell? ⟨wr.heap.size, 0, none⟩ = some (.int .i64 r.e) ∧ W.cell? ⟨wr.heap.size, 1, none⟩ = some (.int .i64 r.t) ∧ W.cell? ⟨wr.heap.size, 2, none⟩ = some (.slice rtp r.tr.length rtc) ∧ W.cell? ⟨wr.heap.size, 3, none⟩ = some (.int .i64 r.c) ∧ W.cell? ⟨wr.heap.size, 4, none⟩ = some (.slice rlp r.li.length rlc) ∧ W.cell? ⟨wr.heap.size, 5, none⟩ = some (.slice rkp r.lk.length rkc) ∧ W.cell? ⟨eb, eo + k, none⟩ = some (.int .i64 (ep : Int))) 20 rfl ?_
              refine tkY 0 ⟨some 47, .move (.tmp 0), 3, "ref.go:78", #[], none⟩ ?v0z1 hHeld ?y0z1 ?r0z1
              case y0z1 => (intro w hSw; (try dsimp only at hSw); go_simp) <;> with_reducible rfl
              try simp only [Act.put, List.setIfInBounds_toArray, List.set_cons_zero, List.set_cons_succ]
              refine tkY 1 ⟨some 48, .load 25 (.tmp 13), 25, "ref.go:78", #[], none⟩ ?v1z2 hHeld ?y1z2 ?r1z2
              case y1z2 => (intro w hSw; (try dsimp only at hSw); go_simp) <;> with_reducible rfl
              try simp only [Act.put, List.setIfInBounds_toArray, List.set_cons_zero, List.set_cons_succ]
              refine wpAnyH_ready (rs := [2]) (by kernel_rfl) (by simp) ?_
              refine AllReadyH.cons (o := ⟨some 49, .call { callee := .value (.func 20), args := #[.tmp 47, .tmp 48], argTypes := #[3, 25] }, 4, "ref.go:78", #[⟨0, .data⟩, ⟨1, .data⟩], none⟩) rfl (fun K hK => ?_) AllReadyH.nil
              go_simp
              refine (HCn.out _ bD).mono ?_
              rintro x w4 ⟨rfl, b4'⟩
              have b4 := bD.trans (b4'.mono bD.size)
              replace hHeld := hcells w4 b4
              cases CB with
              | true =>
                refine hK.out _ _ ?_ (fun _ => ?_)
                · exact hHeld
                clear hK K
                try simp only [Act.put, List.setIfInBounds_toArray, List.set_cons_zero, List.set_cons_succ]
                refine tkY 3 ⟨some 50, .unOp .not 4 (.tmp 49), 4, "ref.go:78", #[⟨2, .data⟩], none⟩ ?v3z3 hHeld ?y3z3 ?r3z3
                case y3z3 => (intro w hSw; (try dsimp only at hSw); go_simp) <;> with_reducible rfl
                try simp only [Act.put, List.setIfInBounds_toArray, List.set_cons_zero, List.set_cons_succ]
                refine tkY 4 ⟨some 51, .move (.tmp 50), 4, "ref.go:78", #[⟨3, .data⟩, ⟨2, .chain⟩], none⟩ ?v4z4 hHeld ?y4z4 ?r4z4
                case y4z4 => (intro w hSw; (try dsimp only at hSw); go_simp) <;> with_reducible rfl
                try simp only [Act.put, List.setIfInBounds_toArray, List.set_cons_zero, List.set_cons_succ]
                refine tkY 5 ⟨some 52, .fieldAddr 25 (.tmp 13) 0, 0, "ref.go:78", #[⟨4, .guard⟩], some (4, false)⟩ ?v5z5 hHeld ?y5z5 ?r5z5
                case y5z5 => (intro w hSw; (try dsimp only at hSw); go_simp) <;> with_reducible rfl
                try simp only [Act.put, List.setIfInBounds_toArray, List.set_cons_zero, List.set_cons_succ]
                refine tkY 6 ⟨some 53, .load 3 (.tmp 52), 3, "ref.go:78", #[⟨5, .data⟩, ⟨4, .guard⟩], some (4, false)⟩ ?v6z6 hHeld ?y6z6 ?r6z6
                case y6z6 => (intro w hSw; (try dsimp only at hSw); go_simp) <;> with_reducible rfl
                try simp only [Act.put, List.setIfInBounds_toArray, List.set_cons_zero, List.set_cons_succ]
                refine tkY 7 ⟨some 54, .move (.tmp 10), 42, "ref.go:78", #[⟨4, .guard⟩], some (4, false)⟩ ?v7z7 hHeld ?y7z7 ?r7z7
                case y7z7 => (intro w hSw; (try dsimp only at hSw); go_simp) <;> with_reducible rfl
                try simp only [Act.put, List.setIfInBounds_toArray, List.set_cons_zero, List.set_cons_succ]
                refine tkY 8 ⟨some 55, .move (.tmp 12), 3, "ref.go:78", #[⟨4, .guard⟩], some (4, false)⟩ ?v8z8 hHeld ?y8z8 ?r8z8
                case y8z8 => (intro w hSw; (try dsimp only at hSw); go_simp) <;> with_reducible rfl
                try simp only [Act.put, List.setIfInBounds_toArray, List.set_cons_zero, List.set_cons_succ]
                refine tkY 9 ⟨some 56, .indexAddr 42 (.tmp 54) (.tmp 55), 0, "ref.go:78", #[⟨7, .data⟩, ⟨8, .data⟩, ⟨4, .guard⟩], some (4, false)⟩ ?v9z9 hHeld ?y9z9 ?r9z9
                case y9z9 => (intro w hSw; (try dsimp only at hSw); go_simp) <;> with_reducible rfl
                try simp only [Act.put, List.setIfInBounds_toArray, List.set_cons_zero, List.set_cons_succ]
                refine tkY 10 ⟨some 57, .load 3 (.tmp 56), 3, "ref.go:78", #[⟨9, .data⟩, ⟨4, .guard⟩], some (4, false)⟩ ?v10z10 hHeld ?y10z10 ?r10z10
                case y10z10 => (intro w hSw; (try dsimp only at hSw); go_simp) <;> with_reducible rfl
                try simp only [Act.put, List.setIfInBounds_toArray, List.set_cons_zero, List.set_cons_succ]
                by_cases hc11 : r.e = (ep : Int)
                · have n6 : (r.e != (ep : Int)) = false := by simpa using hc11
                  have HQ : Hid (r.e = (ep : Int)) := hc11
                  clear hc11
                  refine tkY 11 ⟨some 58, .binOp .neq 3 (.tmp 53) (.tmp 57) 3, 4, "ref.go:78", #[⟨6, .data⟩, ⟨10, .data⟩, ⟨4, .guard⟩], some (4, false)⟩ ?v11z11 hHeld ?y11z11 ?r11z11
                  case y11z11 => (intro w hSw; (try dsimp only at hSw); go_simp) <;> with_reducible rfl
                  try simp only [Act.put, List.setIfInBounds_toArray, List.set_cons_zero, List.set_cons_succ]
                  refine tkY 12 ⟨some 59, .pick (.tmp 51) (.const (.bool true)) (.tmp 58), 4, "ref.go:78", #[⟨4, .data⟩, ⟨11, .data⟩], none⟩ ?v12z12 hHeld ?y12z12 ?r12z12
                  case y12z12 => (intro w hSw; (try dsimp only at hSw); go_simp) <;> with_reducible rfl
                  try simp only [Act.put, List.setIfInBounds_toArray, List.set_cons_zero, List.set_cons_succ]
                  refine tkY 13 ⟨some 60, .move (.tmp 59), 4, "ref.go:78", #[⟨12, .data⟩, ⟨4, .chain⟩], none⟩ ?v13z13 hHeld ?y13z13 ?r13z13
                  case y13z13 => (intro w hSw; (try dsimp only at hSw); go_simp) <;> with_reducible rfl
                  try simp only [Act.put, List.setIfInBounds_toArray, List.set_cons_zero, List.set_cons_succ]
                  refine tkY 14 ⟨some 61, .move (.tmp 0), 3, "ref.go:78", #[⟨13, .guard⟩], some (13, false)⟩ ?v14z14 hHeld ?y14z14 ?r14z14
                  case y14z14 => (intro w hSw; (try dsimp only at hSw); go_simp) <;> with_reducible rfl
                  try simp only [Act.put, List.setIfInBounds_toArray, List.set_cons_zero, List.set_cons_succ]
                  refine tkY 15 ⟨some 62, .load 25 (.tmp 11), 25, "ref.go:78", #[⟨13, .guard⟩], some (13, false)⟩ ?v15z15 hHeld ?y15z15 ?r15z15
                  case y15z15 => (intro w hSw; (try dsimp only at hSw); go_simp) <;> with_reducible rfl
                  try simp only [Act.put, List.setIfInBounds_toArray, List.set_cons_zero, List.set_cons_succ]
                  refine tkY 16 ⟨some 63, .load 25 (.tmp 13), 25, "ref.go:78", #[⟨13, .guard⟩], some (13, false)⟩ ?v16z16 hHeld ?y16z16 ?r16z16
                  case y16z16 => (intro w hSw; (try dsimp only at hSw); go_simp) <;> with_reducible rfl
                  try simp only [Act.put, List.setIfInBounds_toArray, List.set_cons_zero, List.set_cons_succ]
                  refine wpAnyH_ready (rs := [17]) (by kernel_rfl) (by simp) ?_
                  refine AllReadyH.cons (o := ⟨some 64, .call { callee := .value (.func 22), args := #[.tmp 61, .tmp 62, .tmp 63], argTypes := #[3, 25, 25] }, 4, "ref.go:78", #[⟨14, .data⟩, ⟨15, .data⟩, ⟨16, .data⟩, ⟨13, .chain⟩, ⟨13, .guard⟩], some (13, false)⟩) rfl (fun K hK => ?_) AllReadyH.nil
                  go_simp
                  refine (HLi.out HQ.out _ b4).mono ?_
                  rintro x w5 ⟨rfl, b5'⟩
                  have b5 := b4.trans (b5'.mono b4.size)
                  replace hHeld := hcells w5 b5
                  cases LB with
                  | true =>
                    refine hK.out _ _ ?_ (fun _ => ?_)
                    · exact hHeld
                    clear hK K
                    try simp only [Act.put, List.setIfInBounds_toArray, List.set_cons_zero, List.set_cons_succ]
                    refine tkY 18 ⟨some 65, .unOp .not 4 (.tmp 64), 4, "ref.go:78", #[⟨17, .data⟩, ⟨13, .guard⟩], some (13, false)⟩ ?v18z17 hHeld ?y18z17 ?r18z17
                    case y18z17 => (intro w hSw; (try dsimp only at hSw); go_simp) <;> with_reducible rfl
                    try simp only [Act.put, List.setIfInBounds_toArray, List.set_cons_zero, List.set_cons_succ]
                    refine tkY 19 ⟨some 66, .pick (.tmp 60) (.const (.bool true)) (.tmp 65), 4, "ref.go:78", #[⟨13, .data⟩, ⟨18, .data⟩], none⟩ ?v19z18 hHeld ?y19z18 ?r19z18
                    case y19z18 => (intro w hSw; (try dsimp only at hSw); go_simp) <;> with_reducible rfl
                    try simp only [Act.put, List.setIfInBounds_toArray, List.set_cons_zero, List.set_cons_succ]
                    refine wpAnyH_done (by kernel_rfl) ?_ _
                    have HR : Hid (folP size r (way.drop (k + 1)) (E.drop (k + 1)) = R) := (HS.out.trans (if_pos ⟨HQ.out, by trivial⟩)).symm
                    have HC5 : Hid (canB size r = true) := HCR.out (by trivial)
                    have HE5 : Hid (to ≤ r.e ∧ E.drop (k + 1) = wayN r.e.toNat to.toNat) := HNx.out HQ.out
                    have G5 := (b5.block _ ltgV).trans GLV
                    obtain ⟨d0, d1, d2, d3, d4, d5, e0, e1, e2, e3, e4, e5, _⟩ := hHeld
                    have f0 : w5.frozen? ⟨w3.heap.size, 0, none⟩ = false := frz_of G5
                    have f1 : w5.frozen? ⟨w3.heap.size, 1, none⟩ = false := frz_of G5
                    have f2 : w5.frozen? ⟨w3.heap.size, 2, none⟩ = false := frz_of G5
                    have f3 : w5.frozen? ⟨w3.heap.size, 3, none⟩ = false := frz_of G5
                    have f4 : w5.frozen? ⟨w3.heap.size, 4, none⟩ = false := frz_of G5
                    have f5 : w5.frozen? ⟨w3.heap.size, 5, none⟩ = false := frz_of G5
                    have hon : Only w3.heap.size w5 (((((((w5).setCell ⟨w3.heap.size, 0, none⟩ (.int .i64 r.e)).setCell ⟨w3.heap.size, 1, none⟩ (.int .i64 r.t)).setCell ⟨w3.heap.size, 2, none⟩ (.slice rtp r.tr.length rtc)).setCell ⟨w3.heap.size, 3, none⟩ (.int .i64 r.c)).setCell ⟨w3.heap.size, 4, none⟩ (.slice rlp r.li.length rlc)).setCell ⟨w3.heap.size, 5, none⟩ (.slice rkp r.lk.length rkc)) := ((((((Only.refl _ _).setCell 0 _).setCell 1 _).setCell 2 _).setCell 3 _).setCell 4 _).setCell 5 _
                    have G6 : (((((((w5).setCell ⟨w3.heap.size, 0, none⟩ (.int .i64 r.e)).setCell ⟨w3.heap.size, 1, none⟩ (.int .i64 r.t)).setCell ⟨w3.heap.size, 2, none⟩ (.slice rtp r.tr.length rtc)).setCell ⟨w3.heap.size, 3, none⟩ (.int .i64 r.c)).setCell ⟨w3.heap.size, 4, none⟩ (.slice rlp r.li.length rlc)).setCell ⟨w3.heap.size, 5, none⟩ (.slice rkp r.lk.length rkc)).heap[w3.heap.size]? = some (.cells #[.int .i64 r.e, .int .i64 r.t, .slice rtp r.tr.length rtc, .int .i64 r.c, .slice rlp r.li.length rlc, .slice rkp r.lk.length rkc] 25 (0, 0)) := set6 _ _ _ _ _ _ _ _ _ _ _ _ _ _ _ G5
                    have b6 : Below w3.heap.size w3 (((((((w5).setCell ⟨w3.heap.size, 0, none⟩ (.int .i64 r.e)).setCell ⟨w3.heap.size, 1, none⟩ (.int .i64 r.t)).setCell ⟨w3.heap.size, 2, none⟩ (.slice rtp r.tr.length rtc)).setCell ⟨w3.heap.size, 3, none⟩ (.int .i64 r.c)).setCell ⟨w3.heap.size, 4, none⟩ (.slice rlp r.li.length rlc)).setCell ⟨w3.heap.size, 5, none⟩ (.slice rkp r.lk.length rkc)) := (bV3.trans (b5.mono bV3.size)).trans (hon.below (Nat.le_refl _))
                    clear hcells HLi HCn b5' b4' hon G5 b5 b4 HS HCR HNx HQ n6
                    go_wp2
                    go_roundw
                    case rel => first | exact ⟨k + 1, r, rtp, rtc, rlp, rlc, rkp, rkc, by omega, by go_num, G6, n1, n2, n3, b6, HR, HC5, HE5⟩ | ((repeat apply Exists.intro); exact ⟨⟨k + 1, r, rtp, rtc, rlp, rlc, rkp, rkc, by omega, by go_num, G6, n1, n2, n3, b6, HR, HC5, HE5⟩, rfl⟩)
                    case measure => simp [intOf]; omega
                  | false =>
                    refine hK.out _ _ ?_ (fun _ => ?_)
                    · exact hHeld
                    clear hK K
                    try simp only [Act.put, List.setIfInBounds_toArray, List.set_cons_zero, List.set_cons_succ]
                    refine tkY 18 ⟨some 65, .unOp .not 4 (.tmp 64), 4, "ref.go:78", #[⟨17, .data⟩, ⟨13, .guard⟩], some (13, false)⟩ ?v18z19 hHeld ?y18z19 ?r18z19
                    case y18z19 => (intro w hSw; (try dsimp only at hSw); go_simp) <;> with_reducible rfl
                    try simp only [Act.put, List.setIfInBounds_toArray, List.set_cons_zero, List.set_cons_succ]
                    refine tkY 19 ⟨some 66, .pick (.tmp 60) (.const (.bool true)) (.tmp 65), 4, "ref.go:78", #[⟨13, .data⟩, ⟨18, .data⟩], none⟩ ?v19z20 hHeld ?y19z20 ?r19z20
                    case y19z20 => (intro w hSw; (try dsimp only at hSw); go_simp) <;> with_reducible rfl
                    try simp only [Act.put, List.setIfInBounds_toArray, List.set_cons_zero, List.set_cons_succ]
                    refine wpAnyH_done (by kernel_rfl) ?_ _
                    have HR : Hid (R = none) := HS.out.trans (if_neg (fun h => by have := h.2; simp at this))
                    have ZF := (b5.block _ ltz).trans Zr
                    have bF := bw.trans (b5.mono bw.size)
                    clear hHeld hcells HLi HCn b5' b4'
                    have x0 : w5.cell? ⟨w.heap.size + 1, 0, none⟩ = some (.int .i64 0) := by rw [cell_of_row _ _ _ _ _ _ ZF]; rfl
                    have x1 : w5.cell? ⟨w.heap.size + 1, 1, none⟩ = some (.int .i64 0) := by rw [cell_of_row _ _ _ _ _ _ ZF]; rfl
                    have x2 : w5.cell? ⟨w.heap.size + 1, 2, none⟩ = some (.slice none 0 0) := by rw [cell_of_row _ _ _ _ _ _ ZF]; rfl
                    have x3 : w5.cell? ⟨w.heap.size + 1, 3, none⟩ = some (.int .i64 0) := by rw [cell_of_row _ _ _ _ _ _ ZF]; rfl
                    have x4 : w5.cell? ⟨w.heap.size + 1, 4, none⟩ = some (.slice none 0 0) := by rw [cell_of_row _ _ _ _ _ _ ZF]; rfl
                    have x5 : w5.cell? ⟨w.heap.size + 1, 5, none⟩ = some (.slice none 0 0) := by rw [cell_of_row _ _ _ _ _ _ ZF]; rfl
                    have f0 : w5.frozen? ⟨w.heap.size + 1, 0, none⟩ = false := frz_of ZF
                    have f1 : w5.frozen? ⟨w.heap.size + 1, 1, none⟩ = false := frz_of ZF
                    have f2 : w5.frozen? ⟨w.heap.size + 1, 2, none⟩ = false := frz_of ZF
                    have f3 : w5.frozen? ⟨w.heap.size + 1, 3, none⟩ = false := frz_of ZF
                    have f4 : w5.frozen? ⟨w.heap.size + 1, 4, none⟩ = false := frz_of ZF
                    have f5 : w5.frozen? ⟨w.heap.size + 1, 5, none⟩ = false := frz_of ZF
                    have hon : Only (w.heap.size + 1) w5 (((((((w5).setCell ⟨w.heap.size + 1, 0, none⟩ (.int .i64 0)).setCell ⟨w.heap.size + 1, 1, none⟩ (.int .i64 0)).setCell ⟨w.heap.size + 1, 2, none⟩ (.slice none 0 0)).setCell ⟨w.heap.size + 1, 3, none⟩ (.int .i64 0)).setCell ⟨w.heap.size + 1, 4, none⟩ (.slice none 0 0)).setCell ⟨w.heap.size + 1, 5, none⟩ (.slice none 0 0)) := ((((((Only.refl _ _).setCell 0 _).setCell 1 _).setCell 2 _).setCell 3 _).setCell 4 _).setCell 5 _
                    have bf : Below w.heap.size w (((((((w5).setCell ⟨w.heap.size + 1, 0, none⟩ (.int .i64 0)).setCell ⟨w.heap.size + 1, 1, none⟩ (.int .i64 0)).setCell ⟨w.heap.size + 1, 2, none⟩ (.slice none 0 0)).setCell ⟨w.heap.size + 1, 3, none⟩ (.int .i64 0)).setCell ⟨w.heap.size + 1, 4, none⟩ (.slice none 0 0)).setCell ⟨w.heap.size + 1, 5, none⟩ (.slice none 0 0)) := bF.trans (hon.below (by omega))
                    clear hon ZF bF b5
                    go_wp2
                    refine bodyPost_ret (v := .tuple #[.agg #[.int .i64 0, .int .i64 0, .slice none 0 0, .int .i64 0, .slice none 0 0, .slice none 0 0], .bool false]) ?_ rfl ?_
                    · simp only [results, Tryd.results8]
                      go_simp
                    · exact ⟨fun _ => rfl, fun r h => (by rw [HR.out] at h; cases h), bf⟩
                · have n6 : (r.e != (ep : Int)) = true := by simpa using hc11
                  have HQ : Hid (¬ r.e = (ep : Int)) := hc11
                  clear hc11
                  refine tkY 11 ⟨some 58, .binOp .neq 3 (.tmp 53) (.tmp 57) 3, 4, "ref.go:78", #[⟨6, .data⟩, ⟨10, .data⟩, ⟨4, .guard⟩], some (4, false)⟩ ?v11z21 hHeld ?y11z21 ?r11z21
                  case y11z21 => (intro w hSw; (try dsimp only at hSw); go_simp) <;> with_reducible rfl
                  try simp only [Act.put, List.setIfInBounds_toArray, List.set_cons_zero, List.set_cons_succ]
                  refine tkY 12 ⟨some 59, .pick (.tmp 51) (.const (.bool true)) (.tmp 58), 4, "ref.go:78", #[⟨4, .data⟩, ⟨11, .data⟩], none⟩ ?v12z22 hHeld ?y12z22 ?r12z22
                  case y12z22 => (intro w hSw; (try dsimp only at hSw); go_simp) <;> with_reducible rfl
                  try simp only [Act.put, List.setIfInBounds_toArray, List.set_cons_zero, List.set_cons_succ]
                  refine tkY 13 ⟨some 60, .move (.tmp 59), 4, "ref.go:78", #[⟨12, .data⟩, ⟨4, .chain⟩], none⟩ ?v13z23 hHeld ?y13z23 ?r13z23
                  case y13z23 => (intro w hSw; (try dsimp only at hSw); go_simp) <;> with_reducible rfl
                  try simp only [Act.put, List.setIfInBounds_toArray, List.set_cons_zero, List.set_cons_succ]
                  refine tkN 14 ⟨some 61, .move (.tmp 0), 3, "ref.go:78", #[⟨13, .guard⟩], some (13, false)⟩ hHeld ?_
                  try simp only [Act.put, List.setIfInBounds_toArray, List.set_cons_zero, List.set_cons_succ]
                  refine tkN 15 ⟨some 62, .load 25 (.tmp 11), 25, "ref.go:78", #[⟨13, .guard⟩], some (13, false)⟩ hHeld ?_
                  try simp only [Act.put, List.setIfInBounds_toArray, List.set_cons_zero, List.set_cons_succ]
                  refine tkN 16 ⟨some 63, .load 25 (.tmp 13), 25, "ref.go:78", #[⟨13, .guard⟩], some (13, false)⟩ hHeld ?_
                  try simp only [Act.put, List.setIfInBounds_toArray, List.set_cons_zero, List.set_cons_succ]
                  refine tkN 17 ⟨some 64, .call { callee := .value (.func 22), args := #[.tmp 61, .tmp 62, .tmp 63], argTypes := #[3, 25, 25] }, 4, "ref.go:78", #[⟨14, .data⟩, ⟨15, .data⟩, ⟨16, .data⟩, ⟨13, .chain⟩, ⟨13, .guard⟩], some (13, false)⟩ hHeld ?_
                  try simp only [Act.put, List.setIfInBounds_toArray, List.set_cons_zero, List.set_cons_succ]
                  refine tkN 18 ⟨some 65, .unOp .not 4 (.tmp 64), 4, "ref.go:78", #[⟨17, .data⟩, ⟨13, .guard⟩], some (13, false)⟩ hHeld ?_
                  try simp only [Act.put, List.setIfInBounds_toArray, List.set_cons_zero, List.set_cons_succ]
                  refine tkY 19 ⟨some 66, .pick (.tmp 60) (.const (.bool true)) (.tmp 65), 4, "ref.go:78", #[⟨13, .data⟩, ⟨18, .data⟩], none⟩ ?v19z24 hHeld ?y19z24 ?r19z24
                  case y19z24 => (intro w hSw; (try dsimp only at hSw); go_simp) <;> with_reducible rfl
                  try simp only [Act.put, List.setIfInBounds_toArray, List.set_cons_zero, List.set_cons_succ]
                  refine wpAnyH_done (by kernel_rfl) ?_ _
                  have HR : Hid (R = none) := HS.out.trans (if_neg (fun h => HQ.out h.1))
                  have ZF := (b4.block _ ltz).trans Zr
                  have bF := bw.trans (b4.mono bw.size)
                  clear hHeld hcells HLi HCn b4'
                  have x0 : w4.cell? ⟨w.heap.size + 1, 0, none⟩ = some (.int .i64 0) := by rw [cell_of_row _ _ _ _ _ _ ZF]; rfl
                  have x1 : w4.cell? ⟨w.heap.size + 1, 1, none⟩ = some (.int .i64 0) := by rw [cell_of_row _ _ _ _ _ _ ZF]; rfl
                  have x2 : w4.cell? ⟨w.heap.size + 1, 2, none⟩ = some (.slice none 0 0) := by rw [cell_of_row _ _ _ _ _ _ ZF]; rfl
                  have x3 : w4.cell? ⟨w.heap.size + 1, 3, none⟩ = some (.int .i64 0) := by rw [cell_of_row _ _ _ _ _ _ ZF]; rfl
                  have x4 : w4.cell? ⟨w.heap.size + 1, 4, none⟩ = some (.slice none 0 0) := by rw [cell_of_row _ _ _ _ _ _ ZF]; rfl
                  have x5 : w4.cell? ⟨w.heap.size + 1, 5, none⟩ = some (.slice none 0 0) := by rw [cell_of_row _ _ _ _ _ _ ZF]; rfl
                  have f0 : w4.frozen? ⟨w.heap.size + 1, 0, none⟩ = false := frz_of ZF
                  have f1 : w4.frozen? ⟨w.heap.size + 1, 1, none⟩ = false := frz_of ZF
                  have f2 : w4.frozen? ⟨w.heap.size + 1, 2, none⟩ = false := frz_of ZF
                  have f3 : w4.frozen? ⟨w.heap.size + 1, 3, none⟩ = false := frz_of ZF
                  have f4 : w4.frozen? ⟨w.heap.size + 1, 4, none⟩ = false := frz_of ZF
                  have f5 : w4.frozen? ⟨w.heap.size + 1, 5, none⟩ = false := frz_of ZF
                  have hon : Only (w.heap.size + 1) w4 (((((((w4).setCell ⟨w.heap.size + 1, 0, none⟩ (.int .i64 0)).setCell ⟨w.heap.size + 1, 1, none⟩ (.int .i64 0)).setCell ⟨w.heap.size + 1, 2, none⟩ (.slice none 0 0)).setCell ⟨w.heap.size + 1, 3, none⟩ (.int .i64 0)).setCell ⟨w.heap.size + 1, 4, none⟩ (.slice none 0 0)).setCell ⟨w.heap.size + 1, 5, none⟩ (.slice none 0 0)) := ((((((Only.refl _ _).setCell 0 _).setCell 1 _).setCell 2 _).setCell 3 _).setCell 4 _).setCell 5 _
                  have bf : Below w.heap.size w (((((((w4).setCell ⟨w.heap.size + 1, 0, none⟩ (.int .i64 0)).setCell ⟨w.heap.size + 1, 1, none⟩ (.int .i64 0)).setCell ⟨w.heap.size + 1, 2, none⟩ (.slice none 0 0)).setCell ⟨w.heap.size + 1, 3, none⟩ (.int .i64 0)).setCell ⟨w.heap.size + 1, 4, none⟩ (.slice none 0 0)).setCell ⟨w.heap.size + 1, 5, none⟩ (.slice none 0 0)) := bF.trans (hon.below (by omega))
                  clear hon ZF bF b4
                  go_wp2
                  refine bodyPost_ret (v := .tuple #[.agg #[.int .i64 0, .int .i64 0, .slice none 0 0, .int .i64 0, .slice none 0 0, .slice none 0 0], .bool false]) ?_ rfl ?_
                  · simp only [results, Tryd.results8]
                    go_simp
                  · exact ⟨fun _ => rfl, fun r h => (by rw [HR.out] at h; cases h), bf⟩
              | false =>
                refine hK.out _ _ ?_ (fun _ => ?_)
                · exact hHeld
                clear hK K
                try simp only [Act.put, List.setIfInBounds_toArray, List.set_cons_zero, List.set_cons_succ]
                refine tkY 3 ⟨some 50, .unOp .not 4 (.tmp 49), 4, "ref.go:78", #[⟨2, .data⟩], none⟩ ?v3z25 hHeld ?y3z25 ?r3z25
                case y3z25 => (intro w hSw; (try dsimp only at hSw); go_simp) <;> with_reducible rfl
                try simp only [Act.put, List.setIfInBounds_toArray, List.set_cons_zero, List.set_cons_succ]
                refine tkY 4 ⟨some 51, .move (.tmp 50), 4, "ref.go:78", #[⟨3, .data⟩, ⟨2, .chain⟩], none⟩ ?v4z26 hHeld ?y4z26 ?r4z26
                case y4z26 => (intro w hSw; (try dsimp only at hSw); go_simp) <;> with_reducible rfl
                try simp only [Act.put, List.setIfInBounds_toArray, List.set_cons_zero, List.set_cons_succ]
                refine tkN 5 ⟨some 52, .fieldAddr 25 (.tmp 13) 0, 0, "ref.go:78", #[⟨4, .guard⟩], some (4, false)⟩ hHeld ?_
                try simp only [Act.put, List.setIfInBounds_toArray, List.set_cons_zero, List.set_cons_succ]
                refine tkN 6 ⟨some 53, .load 3 (.tmp 52), 3, "ref.go:78", #[⟨5, .data⟩, ⟨4, .guard⟩], some (4, false)⟩ hHeld ?_
                try simp only [Act.put, List.setIfInBounds_toArray, List.set_cons_zero, List.set_cons_succ]
                refine tkN 7 ⟨some 54, .move (.tmp 10), 42, "ref.go:78", #[⟨4, .guard⟩], some (4, false)⟩ hHeld ?_
                try simp only [Act.put, List.setIfInBounds_toArray, List.set_cons_zero, List.set_cons_succ]
                refine tkN 8 ⟨some 55, .move (.tmp 12), 3, "ref.go:78", #[⟨4, .guard⟩], some (4, false)⟩ hHeld ?_
                try simp only [Act.put, List.setIfInBounds_toArray, List.set_cons_zero, List.set_cons_succ]
                refine tkN 9 ⟨some 56, .indexAddr 42 (.tmp 54) (.tmp 55), 0, "ref.go:78", #[⟨7, .data⟩, ⟨8, .data⟩, ⟨4, .guard⟩], some (4, false)⟩ hHeld ?_
                try simp only [Act.put, List.setIfInBounds_toArray, List.set_cons_zero, List.set_cons_succ]
                refine tkN 10 ⟨some 57, .load 3 (.tmp 56), 3, "ref.go:78", #[⟨9, .data⟩, ⟨4, .guard⟩], some (4, false)⟩ hHeld ?_
                try simp only [Act.put, List.setIfInBounds_toArray, List.set_cons_zero, List.set_cons_succ]
                refine tkN 11 ⟨some 58, .binOp .neq 3 (.tmp 53) (.tmp 57) 3, 4, "ref.go:78", #[⟨6, .data⟩, ⟨10, .data⟩, ⟨4, .guard⟩], some (4, false)⟩ hHeld ?_
                try simp only [Act.put, List.setIfInBounds_toArray, List.set_cons_zero, List.set_cons_succ]
                refine tkY 12 ⟨some 59, .pick (.tmp 51) (.const (.bool true)) (.tmp 58), 4, "ref.go:78", #[⟨4, .data⟩, ⟨11, .data⟩], none⟩ ?v12z27 hHeld ?y12z27 ?r12z27
                case y12z27 => (intro w hSw; (try dsimp only at hSw); go_simp) <;> with_reducible rfl
                try simp only [Act.put, List.setIfInBounds_toArray, List.set_cons_zero, List.set_cons_succ]
                refine tkY 13 ⟨some 60, .move (.tmp 59), 4, "ref.go:78", #[⟨12, .data⟩, ⟨4, .chain⟩], none⟩ ?v13z28 hHeld ?y13z28 ?r13z28
                case y13z28 => (intro w hSw; (try dsimp only at hSw); go_simp) <;> with_reducible rfl
                try simp only [Act.put, List.setIfInBounds_toArray, List.set_cons_zero, List.set_cons_succ]
                refine tkN 14 ⟨some 61, .move (.tmp 0), 3, "ref.go:78", #[⟨13, .guard⟩], some (13, false)⟩ hHeld ?_
                try simp only [Act.put, List.setIfInBounds_toArray, List.set_cons_zero, List.set_cons_succ]
                refine tkN 15 ⟨some 62, .load 25 (.tmp 11), 25, "ref.go:78", #[⟨13, .guard⟩], some (13, false)⟩ hHeld ?_
                try simp only [Act.put, List.setIfInBounds_toArray, List.set_cons_zero, List.set_cons_succ]
                refine tkN 16 ⟨some 63, .load 25 (.tmp 13), 25, "ref.go:78", #[⟨13, .guard⟩], some (13, false)⟩ hHeld ?_
                try simp only [Act.put, List.setIfInBounds_toArray, List.set_cons_zero, List.set_cons_succ]
                refine tkN 17 ⟨some 64, .call { callee := .value (.func 22), args := #[.tmp 61, .tmp 62, .tmp 63], argTypes := #[3, 25, 25] }, 4, "ref.go:78", #[⟨14, .data⟩, ⟨15, .data⟩, ⟨16, .data⟩, ⟨13, .chain⟩, ⟨13, .guard⟩], some (13, false)⟩ hHeld ?_
                try simp only [Act.put, List.setIfInBounds_toArray, List.set_cons_zero, List.set_cons_succ]
                refine tkN 18 ⟨some 65, .unOp .not 4 (.tmp 64), 4, "ref.go:78", #[⟨17, .data⟩, ⟨13, .guard⟩], some (13, false)⟩ hHeld ?_
                try simp only [Act.put, List.setIfInBounds_toArray, List.set_cons_zero, List.set_cons_succ]
                refine tkY 19 ⟨some 66, .pick (.tmp 60) (.const (.bool true)) (.tmp 65), 4, "ref.go:78", #[⟨13, .data⟩, ⟨18, .data⟩], none⟩ ?v19z29 hHeld ?y19z29 ?r19z29
                case y19z29 => (intro w hSw; (try dsimp only at hSw); go_simp) <;> with_reducible rfl
                try simp only [Act.put, List.setIfInBounds_toArray, List.set_cons_zero, List.set_cons_succ]
                refine wpAnyH_done (by kernel_rfl) ?_ _
                have HR : Hid (R = none) := HS.out.trans (if_neg (fun h => by have := h.2; simp at this))
                have ZF := (b4.block _ ltz).trans Zr
                have bF := bw.trans (b4.mono bw.size)
                clear hHeld hcells HLi HCn b4'
                have x0 : w4.cell? ⟨w.heap.size + 1, 0, none⟩ = some (.int .i64 0) := by rw [cell_of_row _ _ _ _ _ _ ZF]; rfl
                have x1 : w4.cell? ⟨w.heap.size + 1, 1, none⟩ = some (.int .i64 0) := by rw [cell_of_row _ _ _ _ _ _ ZF]; rfl
                have x2 : w4.cell? ⟨w.heap.size + 1, 2, none⟩ = some (.slice none 0 0) := by rw [cell_of_row _ _ _ _ _ _ ZF]; rfl
                have x3 : w4.cell? ⟨w.heap.size + 1, 3, none⟩ = some (.int .i64 0) := by rw [cell_of_row _ _ _ _ _ _ ZF]; rfl
                have x4 : w4.cell? ⟨w.heap.size + 1, 4, none⟩ = some (.slice none 0 0) := by rw [cell_of_row _ _ _ _ _ _ ZF]; rfl
                have x5 : w4.cell? ⟨w.heap.size + 1, 5, none⟩ = some (.slice none 0 0) := by rw [cell_of_row _ _ _ _ _ _ ZF]; rfl
                have f0 : w4.frozen? ⟨w.heap.size + 1, 0, none⟩ = false := frz_of ZF
                have f1 : w4.frozen? ⟨w.heap.size + 1, 1, none⟩ = false := frz_of ZF
                have f2 : w4.frozen? ⟨w.heap.size + 1, 2, none⟩ = false := frz_of ZF
                have f3 : w4.frozen? ⟨w.heap.size + 1, 3, none⟩ = false := frz_of ZF
                have f4 : w4.frozen? ⟨w.heap.size + 1, 4, none⟩ = false := frz_of ZF
                have f5 : w4.frozen? ⟨w.heap.size + 1, 5, none⟩ = false := frz_of ZF
                have hon : Only (w.heap.size + 1) w4 (((((((w4).setCell ⟨w.heap.size + 1, 0, none⟩ (.int .i64 0)).setCell ⟨w.heap.size + 1, 1, none⟩ (.int .i64 0)).setCell ⟨w.heap.size + 1, 2, none⟩ (.slice none 0 0)).setCell ⟨w.heap.size + 1, 3, none⟩ (.int .i64 0)).setCell ⟨w.heap.size + 1, 4, none⟩ (.slice none 0 0)).setCell ⟨w.heap.size + 1, 5, none⟩ (.slice none 0 0)) := ((((((Only.refl _ _).setCell 0 _).setCell 1 _).setCell 2 _).setCell 3 _).setCell 4 _).setCell 5 _
                have bf : Below w.heap.size w (((((((w4).setCell ⟨w.heap.size + 1, 0, none⟩ (.int .i64 0)).setCell ⟨w.heap.size + 1, 1, none⟩ (.int .i64 0)).setCell ⟨w.heap.size + 1, 2, none⟩ (.slice none 0 0)).setCell ⟨w.heap.size + 1, 3, none⟩ (.int .i64 0)).setCell ⟨w.heap.size + 1, 4, none⟩ (.slice none 0 0)).setCell ⟨w.heap.size + 1, 5, none⟩ (.slice none 0 0)) := bF.trans (hon.below (by omega))
                clear hon ZF bF b4
                go_wp2
                refine bodyPost_ret (v := .tuple #[.agg #[.int .i64 0, .int .i64 0, .slice none 0 0, .int .i64 0, .slice none 0 0, .slice none 0 0], .bool false]) ?_ rfl ?_
                · simp only [results, Tryd.results8]
                  go_simp
                · exact ⟨fun _ => rfl, fun r h => (by rw [HR.out] at h; cases h), bf⟩
            · have HRs : Hid (R = some last) := by
                have := HFk.out
                rw [List.drop_eq_nil_of_le (by have := HL.out; omega), List.drop_eq_nil_of_le (by have := HL.out; omega)] at this
                exact this.symm
              have d0 : wr.cell? ⟨w3.heap.size, 0, none⟩ = some (.int .i64 last.e) := by rw [cell_of_row _ _ _ _ _ _ GL]; rfl
              have d1 : wr.cell? ⟨w3.heap.size, 1, none⟩ = some (.int .i64 last.t) := by rw [cell_of_row _ _ _ _ _ _ GL]; rfl
              have d2 : wr.cell? ⟨w3.heap.size, 2, none⟩ = some (.slice ltp last.tr.length ltc) := by rw [cell_of_row _ _ _ _ _ _ GL]; rfl
              have d3 : wr.cell? ⟨w3.heap.size, 3, none⟩ = some (.int .i64 last.c) := by rw [cell_of_row _ _ _ _ _ _ GL]; rfl
              have d4 : wr.cell? ⟨w3.heap.size, 4, none⟩ = some (.slice llp last.li.length llc) := by rw [cell_of_row _ _ _ _ _ _ GL]; rfl
              have d5 : wr.cell? ⟨w3.heap.size, 5, none⟩ = some (.slice lkp last.lk.length lkc) := by rw [cell_of_row _ _ _ _ _ _ GL]; rfl
              clear HFk HCk HEk s9 s10 s11 s12
              have hltw : ¬ k < way.length := by have := HL.out; omega
              have Z6 := Zr
              have bw6 := bw
              have x0 : wr.cell? ⟨w.heap.size + 1, 0, none⟩ = some (.int .i64 0) := by rw [cell_of_row _ _ _ _ _ _ Z6]; rfl
              have x1 : wr.cell? ⟨w.heap.size + 1, 1, none⟩ = some (.int .i64 0) := by rw [cell_of_row _ _ _ _ _ _ Z6]; rfl
              have x2 : wr.cell? ⟨w.heap.size + 1, 2, none⟩ = some (.slice none 0 0) := by rw [cell_of_row _ _ _ _ _ _ Z6]; rfl
              have x3 : wr.cell? ⟨w.heap.size + 1, 3, none⟩ = some (.int .i64 0) := by rw [cell_of_row _ _ _ _ _ _ Z6]; rfl
              have x4 : wr.cell? ⟨w.heap.size + 1, 4, none⟩ = some (.slice none 0 0) := by rw [cell_of_row _ _ _ _ _ _ Z6]; rfl
              have x5 : wr.cell? ⟨w.heap.size + 1, 5, none⟩ = some (.slice none 0 0) := by rw [cell_of_row _ _ _ _ _ _ Z6]; rfl
              have f0 : wr.frozen? ⟨w.heap.size + 1, 0, none⟩ = false := frz_of Z6
              have f1 : wr.frozen? ⟨w.heap.size + 1, 1, none⟩ = false := frz_of Z6
              have f2 : wr.frozen? ⟨w.heap.size + 1, 2, none⟩ = false := frz_of Z6
              have f3 : wr.frozen? ⟨w.heap.size + 1, 3, none⟩ = false := frz_of Z6
              have f4 : wr.frozen? ⟨w.heap.size + 1, 4, none⟩ = false := frz_of Z6
              have f5 : wr.frozen? ⟨w.heap.size + 1, 5, none⟩ = false := frz_of Z6
              have hon : Only (w.heap.size + 1) wr (((((((wr).setCell ⟨w.heap.size + 1, 0, none⟩ (.int .i64 last.e)).setCell ⟨w.heap.size + 1, 1, none⟩ (.int .i64 last.t)).setCell ⟨w.heap.size + 1, 2, none⟩ (.slice ltp last.tr.length ltc)).setCell ⟨w.heap.size + 1, 3, none⟩ (.int .i64 last.c)).setCell ⟨w.heap.size + 1, 4, none⟩ (.slice llp last.li.length llc)).setCell ⟨w.heap.size + 1, 5, none⟩ (.slice lkp last.lk.length lkc)) := ((((((Only.refl _ _).setCell 0 _).setCell 1 _).setCell 2 _).setCell 3 _).setCell 4 _).setCell 5 _
              have bf : Below w.heap.size w (((((((wr).setCell ⟨w.heap.size + 1, 0, none⟩ (.int .i64 last.e)).setCell ⟨w.heap.size + 1, 1, none⟩ (.int .i64 last.t)).setCell ⟨w.heap.size + 1, 2, none⟩ (.slice ltp last.tr.length ltc)).setCell ⟨w.heap.size + 1, 3, none⟩ (.int .i64 last.c)).setCell ⟨w.heap.size + 1, 4, none⟩ (.slice llp last.li.length llc)).setCell ⟨w.heap.size + 1, 5, none⟩ (.slice lkp last.lk.length lkc)) := bw6.trans (hon.below (by omega))
              have v1 := q1
              have v2 := q2
              have v3 := q3'
              clear hon Z6 bw6 q1 q2 q3'
              go_wp2
              refine bodyPost_ret (v := .tuple #[.agg #[.int .i64 last.e, .int .i64 last.t, .slice ltp last.tr.length ltc, .int .i64 last.c, .slice llp last.li.length llc, .slice lkp last.lk.length lkc], .bool true]) ?_ rfl ?_
              · simp only [results, Tryd.results8]
                go_simp
              · refine ⟨fun h => (by rw [HRs.out] at h; cases h), fun r h => ?_, bf⟩
                rw [HRs.out] at h
                cases h
                exact ⟨_, _, _, _, _, _, rfl, v1, v2, v3⟩
        · have e3 : ((E.length : Int) != (way.length : Int)) = true := by simp; omega
          have HR : Hid (R = none) := HF.out.trans (folP_len size way E hd hlen)
          clear hlen HF HE HCB
          have x0 : w3.cell? ⟨w.heap.size + 1, 0, none⟩ = some (.int .i64 0) := by rw [cell_of_row _ _ _ _ _ _ Z3]; rfl
          have x1 : w3.cell? ⟨w.heap.size + 1, 1, none⟩ = some (.int .i64 0) := by rw [cell_of_row _ _ _ _ _ _ Z3]; rfl
          have x2 : w3.cell? ⟨w.heap.size + 1, 2, none⟩ = some (.slice none 0 0) := by rw [cell_of_row _ _ _ _ _ _ Z3]; rfl
          have x3 : w3.cell? ⟨w.heap.size + 1, 3, none⟩ = some (.int .i64 0) := by rw [cell_of_row _ _ _ _ _ _ Z3]; rfl
          have x4 : w3.cell? ⟨w.heap.size + 1, 4, none⟩ = some (.slice none 0 0) := by rw [cell_of_row _ _ _ _ _ _ Z3]; rfl
          have x5 : w3.cell? ⟨w.heap.size + 1, 5, none⟩ = some (.slice none 0 0) := by rw [cell_of_row _ _ _ _ _ _ Z3]; rfl
          have f0 : w3.frozen? ⟨w.heap.size + 1, 0, none⟩ = false := frz_of Z3
          have f1 : w3.frozen? ⟨w.heap.size + 1, 1, none⟩ = false := frz_of Z3
          have f2 : w3.frozen? ⟨w.heap.size + 1, 2, none⟩ = false := frz_of Z3
          have f3 : w3.frozen? ⟨w.heap.size + 1, 3, none⟩ = false := frz_of Z3
          have f4 : w3.frozen? ⟨w.heap.size + 1, 4, none⟩ = false := frz_of Z3
          have f5 : w3.frozen? ⟨w.heap.size + 1, 5, none⟩ = false := frz_of Z3
          have hon : Only (w.heap.size + 1) w3 (((((((w3).setCell ⟨w.heap.size + 1, 0, none⟩ (.int .i64 0)).setCell ⟨w.heap.size + 1, 1, none⟩ (.int .i64 0)).setCell ⟨w.heap.size + 1, 2, none⟩ (.slice none 0 0)).setCell ⟨w.heap.size + 1, 3, none⟩ (.int .i64 0)).setCell ⟨w.heap.size + 1, 4, none⟩ (.slice none 0 0)).setCell ⟨w.heap.size + 1, 5, none⟩ (.slice none 0 0)) := ((((((Only.refl _ _).setCell 0 _).setCell 1 _).setCell 2 _).setCell 3 _).setCell 4 _).setCell 5 _
          have bf : Below w.heap.size w (((((((w3).setCell ⟨w.heap.size + 1, 0, none⟩ (.int .i64 0)).setCell ⟨w.heap.size + 1, 1, none⟩ (.int .i64 0)).setCell ⟨w.heap.size + 1, 2, none⟩ (.slice none 0 0)).setCell ⟨w.heap.size + 1, 3, none⟩ (.int .i64 0)).setCell ⟨w.heap.size + 1, 4, none⟩ (.slice none 0 0)).setCell ⟨w.heap.size + 1, 5, none⟩ (.slice none 0 0)) := bw3.trans (hon.below (by omega))
          clear hon bw3 Z3 G3
          go_wp2
          refine bodyPost_ret (v := .tuple #[.agg #[.int .i64 0, .int .i64 0, .slice none 0 0, .int .i64 0, .slice none 0 0, .slice none 0 0], .bool false]) ?_ rfl ?_
          · simp only [results, Tryd.results8]
            go_simp
          · exact ⟨fun _ => rfl, fun r h => (by rw [HR.out] at h; cases h), bf⟩

theorem rfollow_any (size : Int) (hd : Rc) (tv lv kv vv : Value) (way : List Rc) (to : Int) (w : World) (h1 : HB w tv hd.tr) (h2 : HB w lv hd.li) (h3 : PA w kv hd.lk) (hW : RA w vv way) :
    Calls Tryd.prog 8 #[.int .i64 size, .agg #[.int .i64 hd.e, .int .i64 hd.t, tv, .int .i64 hd.c, lv, kv], vv, .int .i64 to] w (FolSaid (folR size hd way to) w) := by
  refine (rfollowO_any size hd tv lv kv vv way to w w (Below.refl _ _) h1 h2 h3 hW).mono ?_
  rintro x w' ⟨f1, f2, f3⟩
  refine ⟨f1, fun r hr => ?_, f3⟩
  obtain ⟨tp, tc, lp, lc, kp, kc, e, g1, g2, g3⟩ := f2 r hr
  exact ⟨tp, tc, lp, lc, kp, kc, e, g1.later f3, g2.later f3, g3.later f3⟩

end Go.Proofs.YtpndpmkoegmbkaaDoor
