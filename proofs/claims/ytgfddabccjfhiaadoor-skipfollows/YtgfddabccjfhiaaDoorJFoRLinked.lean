/- What this text proves: the walk of the document's linked (annalsref14) over this program: whether a record's hash stands at its link in another one. (By program: held.py, mkrlinked.py.) -/
import Derived.Test.YtgfddabccjfhiaaDoorJF8
import Derived.Test.YtgfddabccjfhiaaDoorRegHeld
namespace Go.Proofs.YtgfddabccjfhiaaDoor
open Go.RowKit

set_option maxRecDepth 100000 in
set_option maxHeartbeats 8000000 in
theorem rlinked_any (size : Int) (f r : Rc) (ftv flv fkv rtv rlv rkv : Value) (w : World) (hf1 : HB w ftv f.tr) (hf2 : HB w flv f.li) (hf3 : PA w fkv f.lk) (hr1 : HB w rtv r.tr) (hr2 : HB w rlv r.li) (hr3 : PA w rkv r.lk) (hcan : canB size f = true) (h0 : 0 ≤ r.e) (hmem : r.e.toNat ∈ linksL f.e.toNat) :
    Calls Tryd.prog 65 #[.int .i64 size, .agg #[.int .i64 f.e, .int .i64 f.t, ftv, .int .i64 f.c, flv, fkv], .agg #[.int .i64 r.e, .int .i64 r.t, rtv, .int .i64 r.c, rlv, rkv]] w fun x w' => x = .returned (.bool (decide (f.lk[lkI f r]? = some (hshF size r)))) ∧ Below w.heap.size w w' := by
  obtain ⟨ftp, ftc, rfl⟩ := hf1.shape
  obtain ⟨flp, flc, rfl⟩ := hf2.shape
  obtain ⟨fkp, fkc, rfl⟩ := hf3.shape
  obtain ⟨rtp, rtc, rfl⟩ := hr1.shape
  obtain ⟨rlp, rlc, rfl⟩ := hr2.shape
  obtain ⟨rkp, rkc, rfl⟩ := hr3.shape
  have q4 := ((canB_iff _ _).1 hcan).2.2.2.1
  have q9 := ((canB_iff _ _).1 hcan).2.2.2.2.2.2.2.2.1
  have hKL : lkI f r < (linksL f.e.toNat).length := List.idxOf_lt_length_of_mem hmem
  have hK : lkI f r < f.lk.length := by rw [q9]; exact hKL
  have hm63 := hf3.len.2
  unfold maxLen at hm63
  obtain ⟨kb, ko, rfl⟩ := hf3.addr (by omega)
  obtain ⟨q, d, l, hl0, cl, hl⟩ := hf3.get (lkI f r) hK
  have HAt : Hid (∀ j, j < lkI f r → (linksL f.e.toNat)[j]? ≠ some r.e.toNat) := fun j hj h => by
    obtain ⟨hj2, e⟩ := List.getElem?_eq_some_iff.1 h
    have := List.not_of_lt_findIdx (p := (· == r.e.toNat)) (xs := linksL f.e.toNat) (i := j) hj
    simp [e] at this
  have HAk : Hid ((linksL f.e.toNat)[lkI f r]? = some r.e.toNat) := by
    show _ = _
    rw [List.getElem?_eq_getElem hKL]
    exact congrArg some (List.getElem_idxOf hKL)
  have HT : Hid (decide (f.lk[lkI f r]? = some (hshF size r)) = decide (l = hshF size r)) := by
    show _ = _
    rw [hl0.out]
    simp
  have bA := (Below.refl w.heap.size w).alloc (Nat.le_refl _) (.cells #[.int .i64 f.e, .int .i64 f.t, .slice ftp f.tr.length ftc, .int .i64 f.c, .slice flp f.li.length flc, .slice (some ⟨kb, ko, none⟩) f.lk.length fkc] 25)
  have gA := heap_alloc_new w (.cells #[.int .i64 f.e, .int .i64 f.t, .slice ftp f.tr.length ftc, .int .i64 f.c, .slice flp f.li.length flc, .slice (some ⟨kb, ko, none⟩) f.lk.length fkc] 25)
  have sA : (w.alloc (.cells #[.int .i64 f.e, .int .i64 f.t, .slice ftp f.tr.length ftc, .int .i64 f.c, .slice flp f.li.length flc, .slice (some ⟨kb, ko, none⟩) f.lk.length fkc] 25)).heap.size = w.heap.size + 1 := by simp
  have bB := (Below.refl (w.heap.size + 1) (w.alloc (.cells #[.int .i64 f.e, .int .i64 f.t, .slice ftp f.tr.length ftc, .int .i64 f.c, .slice flp f.li.length flc, .slice (some ⟨kb, ko, none⟩) f.lk.length fkc] 25))).alloc (by simp) (.cells #[.int .i64 r.e, .int .i64 r.t, .slice rtp r.tr.length rtc, .int .i64 r.c, .slice rlp r.li.length rlc, .slice rkp r.lk.length rkc] 25)
  have gB := heap_alloc_new (w.alloc (.cells #[.int .i64 f.e, .int .i64 f.t, .slice ftp f.tr.length ftc, .int .i64 f.c, .slice flp f.li.length flc, .slice (some ⟨kb, ko, none⟩) f.lk.length fkc] 25)) (.cells #[.int .i64 r.e, .int .i64 r.t, .slice rtp r.tr.length rtc, .int .i64 r.c, .slice rlp r.li.length rlc, .slice rkp r.lk.length rkc] 25)
  rw [sA] at gB
  have gC := (bB.block w.heap.size (by omega)).trans gA
  obtain ⟨X, hX⟩ : ∃ X, X = (w.alloc (.cells #[.int .i64 f.e, .int .i64 f.t, .slice ftp f.tr.length ftc, .int .i64 f.c, .slice flp f.li.length flc, .slice (some ⟨kb, ko, none⟩) f.lk.length fkc] 25)).alloc (.cells #[.int .i64 r.e, .int .i64 r.t, .slice rtp r.tr.length rtc, .int .i64 r.c, .slice rlp r.li.length rlc, .slice rkp r.lk.length rkc] 25) := ⟨_, rfl⟩
  rw [← hX] at bB gB gC
  have bX := bA.trans (bB.mono (by omega))
  have g0 : w.heap.size < X.heap.size := (Array.getElem?_eq_some_iff.1 gC).1
  have g1 : w.heap.size + 1 < X.heap.size := (Array.getElem?_eq_some_iff.1 gB).1
  have y0 : X.cell? ⟨w.heap.size, 0, none⟩ = some (.int .i64 f.e) := by rw [cell_of_row _ _ _ _ _ _ gC]; rfl
  have hLk := rlinks_any f.e X (by omega)
  have HHs0 : Hid (∀ W, Below X.heap.size X W → Calls Tryd.prog 16 #[.int .i64 size, .agg #[.int .i64 r.e, .int .i64 r.t, .slice rtp r.tr.length rtc, .int .i64 r.c, .slice rlp r.li.length rlc, .slice rkp r.lk.length rkc]] W fun x w' => ∃ v, x = .returned v ∧ HB w' v (hshF size r) ∧ Below W.heap.size W w') := fun W hB => rhash13_any size r.e r.t r.c _ _ _ r.tr r.li r.lk W ((hr1.later bX).later hB) ((hr2.later bX).later hB) ((hr3.later bX).later hB)
  generalize linksL f.e.toNat = LL at *
  generalize hshF size r = H at *
  generalize lkI f r = K at *
  have hre : ((r.e.toNat : Nat) : Int) = r.e := by omega
  clear bA gA sA bB hmem hcan q9
  go_enter Tryd.func65, Tryd.ntmps65
  go_wp2_with fail
  rw [← hX]
  refine hLk.mono ?_
  rintro x w2 ⟨v2, rfl, o2, b2⟩
  have i2 := IA.of_owns o2
  obtain ⟨p2, c2, rfl⟩ := i2.shape
  have hLm := i2.len_le
  unfold maxLen at hLm
  clear hLk hX o2 y0
  go_wp2
  go_loopw [13] (fun i wr => ∃ k : Nat, k ≤ K ∧ i = .int .i64 k ∧ Below w2.heap.size w2 wr) (fun i _ => K - (intOf i).toNat)
  case atStart => exact ⟨0, Nat.zero_le _, rfl, Below.refl _ _⟩
  case round =>
    obtain ⟨k, hk, rfl, hbw⟩ := hrel
    have bXr := b2.trans (hbw.mono b2.size)
    have bw := bX.trans (bXr.mono bX.size)
    obtain ⟨eb, eo, rfl, fe⟩ := i2.addr (by omega)
    have Gf := (bXr.block _ g0).trans gC
    have Gr := (bXr.block _ g1).trans gB
    have s0 : wr.cell? ⟨w.heap.size + 1, 0, none⟩ = some (.int .i64 r.e) := by rw [cell_of_row _ _ _ _ _ _ Gr]; rfl
    have s5 : wr.cell? ⟨w.heap.size, 5, none⟩ = some (.slice (some ⟨kb, ko, none⟩) f.lk.length fkc) := by rw [cell_of_row _ _ _ _ _ _ Gf]; rfl
    have hlt2 : (k : Int) < (LL.length : Int) := by omega
    have hlt3 : (k : Int) < (f.lk.length : Int) := by omega
    by_cases hkK : k < K
    · obtain ⟨ep, hep⟩ : ∃ ep, LL[k]? = some ep := ⟨_, List.getElem?_eq_getElem (by omega)⟩
      have ce := cell_later hbw (fe k ep hep)
      have hne : ¬ (ep : Int) = r.e := fun h => HAt.out k hkK (by rw [hep]; congr 1; omega)
      have n1 : ((ep : Int) == r.e) = false := by simpa using hne
      have n2 : decide ((ep : Int) = r.e) = false := by simpa using hne
      clear hep fe hne HAt HAk HT HHs0 Gf Gr gB gC hre
      go_wp2
      go_roundw
      case rel => first | exact ⟨k + 1, by omega, by go_num, hbw⟩ | ((repeat apply Exists.intro); exact ⟨⟨k + 1, by omega, by go_num, hbw⟩, rfl⟩)
      case measure => simp [intOf]; omega
    · obtain rfl : k = K := by omega
      have ce := cell_later hbw (fe k _ HAk.out)
      rw [hre] at ce
      have HHs : Hid (∀ W, Below wr.heap.size wr W → Calls Tryd.prog 16 #[.int .i64 size, .agg #[.int .i64 r.e, .int .i64 r.t, .slice rtp r.tr.length rtc, .int .i64 r.c, .slice rlp r.li.length rlc, .slice rkp r.lk.length rkc]] W fun x w' => ∃ v, x = .returned v ∧ HB w' v H ∧ Below W.heap.size W w') := fun W hB => HHs0.out W (bXr.trans (hB.mono bXr.size))
      have ltf : w.heap.size < wr.heap.size := (Array.getElem?_eq_some_iff.1 Gf).1
      have ltr : w.heap.size + 1 < wr.heap.size := (Array.getElem?_eq_some_iff.1 Gr).1
      have hcells : ∀ W, Below wr.heap.size wr W → W.cell? ⟨w.heap.size, 5, none⟩ = some (.slice (some ⟨kb, ko, none⟩) f.lk.length fkc) ∧ W.cell? ⟨w.heap.size + 1, 0, none⟩ = some (.int .i64 r.e) ∧ W.cell? ⟨w.heap.size + 1, 1, none⟩ = some (.int .i64 r.t) ∧ W.cell? ⟨w.heap.size + 1, 2, none⟩ = some (.slice rtp r.tr.length rtc) ∧ W.cell? ⟨w.heap.size + 1, 3, none⟩ = some (.int .i64 r.c) ∧ W.cell? ⟨w.heap.size + 1, 4, none⟩ = some (.slice rlp r.li.length rlc) ∧ W.cell? ⟨w.heap.size + 1, 5, none⟩ = some (.slice rkp r.lk.length rkc) ∧ W.cell? ⟨kb, ko + k, none⟩ = some (.slice q l.length d) ∧ HB W (.slice q l.length d) l := by
        intro W hB
        have G1 := (hB.block _ ltf).trans Gf
        have G2 := (hB.block _ ltr).trans Gr
        refine ⟨?_, ?_, ?_, ?_, ?_, ?_, ?_, cell_later (bw.trans (hB.mono bw.size)) cl, hl.later (bw.trans (hB.mono bw.size))⟩
        · rw [cell_of_row _ _ _ _ _ _ G1]; rfl
        all_goals (rw [cell_of_row _ _ _ _ _ _ G2]; rfl)
      have bD : Below wr.heap.size wr wr.drew := (Below.refl _ wr).drew
      have hHeld := hcells _ bD
      clear fe HAt HAk HHs0 Gf Gr gB gC hre hl0 cl hl hf1 hf2 hf3 hr1 hr2 hr3
      go_wp2_with fail
      refine wp_region_heldN (by kernel_rfl) (fun W => W.cell? ⟨w.heap.size, 5, none⟩ = some (.slice (some ⟨kb, ko, none⟩) f.lk.length fkc) ∧ W.cell? ⟨w.heap.size + 1, 0, none⟩ = some (.int .i64 r.e) ∧ W.cell? ⟨w.heap.size + 1, 1, none⟩ = some (.int .i64 r.t) ∧ W.cell? ⟨w.heap.size + 1, 2, none⟩ = some (.slice rtp r.tr.length rtc) ∧ W.cell? ⟨w.heap.size + 1, 3, none⟩ = some (.int .i64 r.c) ∧ W.cell? ⟨w.heap.size + 1, 4, none⟩ = some (.slice rlp r.li.length rlc) ∧ W.cell? ⟨w.heap.size + 1, 5, none⟩ = some (.slice rkp r.lk.length rkc) ∧ W.cell? ⟨kb, ko + k, none⟩ = some (.slice q l.length d) ∧ HB W (.slice q l.length d) l) 12 rfl ?_
      refine wpAnyH_take (i := 0) (oi := { dst := some 29, op := Go.Op.fieldAddr 25 (Go.Operand.tmp 4) 5, type := 0, pos := "ref.go:61", after := #[], guard := none }) (v := ?v0z1) rfl (by kernel_rfl) (by kernel_rfl) (by kernel_rfl) (fun _ _ _ h => h) (Or.inl ⟨by rfl, ?y0z1⟩) hHeld ?r0z1
      case y0z1 => (intro w hSw; (try dsimp only at hSw); go_simp) <;> with_reducible rfl
      try simp only [Act.put, List.setIfInBounds_toArray, List.set_cons_zero, List.set_cons_succ]
      refine wpAnyH_take (i := 1) (oi := { dst := some 30, op := Go.Op.load 23 (Go.Operand.tmp 29), type := 23, pos := "ref.go:61", after := #[{ on := 0, ground := Go.Ground.data }], guard := none }) (v := ?v1z2) rfl (by kernel_rfl) (by kernel_rfl) (by kernel_rfl) (fun _ _ _ h => h) (Or.inl ⟨by rfl, ?y1z2⟩) hHeld ?r1z2
      case y1z2 => (intro w hSw; (try dsimp only at hSw); go_simp) <;> with_reducible rfl
      try simp only [Act.put, List.setIfInBounds_toArray, List.set_cons_zero, List.set_cons_succ]
      refine wpAnyH_take (i := 2) (oi := { dst := some 31, op := Go.Op.move (Go.Operand.tmp 7), type := 3, pos := "ref.go:61", after := #[], guard := none }) (v := ?v2z3) rfl (by kernel_rfl) (by kernel_rfl) (by kernel_rfl) (fun _ _ _ h => h) (Or.inl ⟨by rfl, ?y2z3⟩) hHeld ?r2z3
      case y2z3 => (intro w hSw; (try dsimp only at hSw); go_simp) <;> with_reducible rfl
      try simp only [Act.put, List.setIfInBounds_toArray, List.set_cons_zero, List.set_cons_succ]
      refine wpAnyH_take (i := 3) (oi := { dst := some 32, op := Go.Op.indexAddr 23 (Go.Operand.tmp 30) (Go.Operand.tmp 31), type := 0, pos := "ref.go:61", after := #[{ on := 1, ground := Go.Ground.data }, { on := 2, ground := Go.Ground.data }], guard := none }) (v := ?v3z4) rfl (by kernel_rfl) (by kernel_rfl) (by kernel_rfl) (fun _ _ _ h => h) (Or.inl ⟨by rfl, ?y3z4⟩) hHeld ?r3z4
      case y3z4 => (intro w hSw; (try dsimp only at hSw); go_simp) <;> with_reducible rfl
      try simp only [Act.put, List.setIfInBounds_toArray, List.set_cons_zero, List.set_cons_succ]
      refine wpAnyH_take (i := 4) (oi := { dst := some 33, op := Go.Op.load 22 (Go.Operand.tmp 32), type := 22, pos := "ref.go:61", after := #[{ on := 3, ground := Go.Ground.data }], guard := none }) (v := ?v4z5) rfl (by kernel_rfl) (by kernel_rfl) (by kernel_rfl) (fun _ _ _ h => h) (Or.inl ⟨by rfl, ?y4z5⟩) hHeld ?r4z5
      case y4z5 => (intro w hSw; (try dsimp only at hSw); go_simp) <;> with_reducible rfl
      try simp only [Act.put, List.setIfInBounds_toArray, List.set_cons_zero, List.set_cons_succ]
      refine wpAnyH_take (i := 5) (oi := { dst := some 34, op := Go.Op.convert 22 9 (Go.Operand.tmp 33), type := 9, pos := "ref.go:61", after := #[{ on := 4, ground := Go.Ground.data }], guard := none }) (v := ?v5z6) rfl (by kernel_rfl) (by kernel_rfl) (by kernel_rfl) (fun _ _ _ h => h) (Or.inl ⟨by rfl, ?y5z6⟩) hHeld ?r5z6
      case y5z6 => (intro w hSw; (try dsimp only at hSw); obtain ⟨_, _, _, _, _, _, _, _, qq⟩ := hSw; have qs := qq.str (P := Tryd.prog) 22 5 9 Tryd.underlying22 Tryd.underlying5 Tryd.underlying9; go_simp) <;> with_reducible rfl
      try simp only [Act.put, List.setIfInBounds_toArray, List.set_cons_zero, List.set_cons_succ]
      refine wpAnyH_take (i := 6) (oi := { dst := some 35, op := Go.Op.move (Go.Operand.tmp 0), type := 3, pos := "ref.go:61", after := #[], guard := none }) (v := ?v6z7) rfl (by kernel_rfl) (by kernel_rfl) (by kernel_rfl) (fun _ _ _ h => h) (Or.inl ⟨by rfl, ?y6z7⟩) hHeld ?r6z7
      case y6z7 => (intro w hSw; (try dsimp only at hSw); go_simp) <;> with_reducible rfl
      try simp only [Act.put, List.setIfInBounds_toArray, List.set_cons_zero, List.set_cons_succ]
      refine wpAnyH_take (i := 7) (oi := { dst := some 36, op := Go.Op.load 25 (Go.Operand.tmp 5), type := 25, pos := "ref.go:61", after := #[], guard := none }) (v := ?v7z8) rfl (by kernel_rfl) (by kernel_rfl) (by kernel_rfl) (fun _ _ _ h => h) (Or.inl ⟨by rfl, ?y7z8⟩) hHeld ?r7z8
      case y7z8 => (intro w hSw; (try dsimp only at hSw); go_simp) <;> with_reducible rfl
      try simp only [Act.put, List.setIfInBounds_toArray, List.set_cons_zero, List.set_cons_succ]
      refine wpAnyH_ready (rs := [8]) (by kernel_rfl) (by simp) ?_
      refine AllReadyH.cons (o := { dst := some 37, op := Go.Op.call { callee := Go.Callee.value (Go.Operand.func 16), args := #[Go.Operand.tmp 35, Go.Operand.tmp 36], argTypes := #[3, 25] }, type := 22, pos := "ref.go:61", after := #[{ on := 6, ground := Go.Ground.data }, { on := 7, ground := Go.Ground.data }], guard := none }) rfl (fun K hK => ?_) AllReadyH.nil
      go_simp
      refine (HHs.out _ bD).mono ?_
      rintro x w5 ⟨v5, rfl, hh5, b5'⟩
      obtain ⟨p5, c5, rfl⟩ := hh5.shape
      have b5 := bD.trans (b5'.mono bD.size)
      replace hHeld := hcells w5 b5
      have qs5 := hh5.str (P := Tryd.prog) 22 5 9 Tryd.underlying22 Tryd.underlying5 Tryd.underlying9
      refine hK.out _ _ ?_ (fun _ => ?_)
      · exact hHeld
      clear hK K
      try simp only [Act.put, List.setIfInBounds_toArray, List.set_cons_zero, List.set_cons_succ]
      refine wpAnyH_ready (rs := [9]) (by kernel_rfl) (by simp) ?_
      refine AllReadyH.cons (o := { dst := some 38, op := Go.Op.convert 22 9 (Go.Operand.tmp 37), type := 9, pos := "ref.go:61", after := #[{ on := 8, ground := Go.Ground.data }], guard := none }) rfl (fun K hK => ?_) AllReadyH.nil
      go_simp
      refine hK.out _ _ ?_ (fun _ => ?_)
      · exact hHeld
      clear hK K
      try simp only [Act.put, List.setIfInBounds_toArray, List.set_cons_zero, List.set_cons_succ]
      by_cases hc10 : l = H
      · have n1 : (l == H) = true := by simpa using hc10
        have n2 : decide (l = H) = true := by simpa using hc10
        have HQ : Hid (l = H) := hc10
        clear hc10
        refine wpAnyH_take (i := 10) (oi := { dst := some 39, op := Go.Op.binOp Go.BinOp.eql 9 (Go.Operand.tmp 34) (Go.Operand.tmp 38) 9, type := 4, pos := "ref.go:61", after := #[{ on := 5, ground := Go.Ground.data }, { on := 9, ground := Go.Ground.data }], guard := none }) (v := ?v10z9) rfl (by kernel_rfl) (by kernel_rfl) (by kernel_rfl) (fun _ _ _ h => h) (Or.inl ⟨by rfl, ?y10z9⟩) hHeld ?r10z9
        case y10z9 => (intro w hSw; (try dsimp only at hSw); go_simp) <;> with_reducible rfl
        try simp only [Act.put, List.setIfInBounds_toArray, List.set_cons_zero, List.set_cons_succ]
        refine wpAnyH_take (i := 11) (oi := { dst := some 6, op := Go.Op.assign (Go.Operand.tmp 39), type := 4, pos := "ref.go:61", after := #[{ on := 10, ground := Go.Ground.data }, { on := 8, ground := Go.Ground.chain }, { on := 0, ground := Go.Ground.phase }, { on := 1, ground := Go.Ground.phase }, { on := 2, ground := Go.Ground.phase }, { on := 3, ground := Go.Ground.phase }, { on := 4, ground := Go.Ground.phase }, { on := 5, ground := Go.Ground.phase }, { on := 6, ground := Go.Ground.phase }, { on := 7, ground := Go.Ground.phase }, { on := 8, ground := Go.Ground.phase }, { on := 9, ground := Go.Ground.phase }, { on := 10, ground := Go.Ground.phase }], guard := none }) (v := ?v11z10) rfl (by kernel_rfl) (by kernel_rfl) (by kernel_rfl) (fun _ _ _ h => h) (Or.inl ⟨by rfl, ?y11z10⟩) hHeld ?r11z10
        case y11z10 => (intro w hSw; (try dsimp only at hSw); go_simp) <;> with_reducible rfl
        try simp only [Act.put, List.setIfInBounds_toArray, List.set_cons_zero, List.set_cons_succ]
        refine wpAnyH_done (by kernel_rfl) ?_ _
        have bF := bw.trans (b5.mono bw.size)
        clear hHeld hcells hh5 qs5 b5'
        go_wp2
        go_ret
        rw [HT.out]
        exact ⟨by simp [HQ.out], bF⟩
      · have n1 : (l == H) = false := by simpa using hc10
        have n2 : decide (l = H) = false := by simpa using hc10
        have HQ : Hid (¬ l = H) := hc10
        clear hc10
        refine wpAnyH_take (i := 10) (oi := { dst := some 39, op := Go.Op.binOp Go.BinOp.eql 9 (Go.Operand.tmp 34) (Go.Operand.tmp 38) 9, type := 4, pos := "ref.go:61", after := #[{ on := 5, ground := Go.Ground.data }, { on := 9, ground := Go.Ground.data }], guard := none }) (v := ?v10z11) rfl (by kernel_rfl) (by kernel_rfl) (by kernel_rfl) (fun _ _ _ h => h) (Or.inl ⟨by rfl, ?y10z11⟩) hHeld ?r10z11
        case y10z11 => (intro w hSw; (try dsimp only at hSw); go_simp) <;> with_reducible rfl
        try simp only [Act.put, List.setIfInBounds_toArray, List.set_cons_zero, List.set_cons_succ]
        refine wpAnyH_take (i := 11) (oi := { dst := some 6, op := Go.Op.assign (Go.Operand.tmp 39), type := 4, pos := "ref.go:61", after := #[{ on := 10, ground := Go.Ground.data }, { on := 8, ground := Go.Ground.chain }, { on := 0, ground := Go.Ground.phase }, { on := 1, ground := Go.Ground.phase }, { on := 2, ground := Go.Ground.phase }, { on := 3, ground := Go.Ground.phase }, { on := 4, ground := Go.Ground.phase }, { on := 5, ground := Go.Ground.phase }, { on := 6, ground := Go.Ground.phase }, { on := 7, ground := Go.Ground.phase }, { on := 8, ground := Go.Ground.phase }, { on := 9, ground := Go.Ground.phase }, { on := 10, ground := Go.Ground.phase }], guard := none }) (v := ?v11z12) rfl (by kernel_rfl) (by kernel_rfl) (by kernel_rfl) (fun _ _ _ h => h) (Or.inl ⟨by rfl, ?y11z12⟩) hHeld ?r11z12
        case y11z12 => (intro w hSw; (try dsimp only at hSw); go_simp) <;> with_reducible rfl
        try simp only [Act.put, List.setIfInBounds_toArray, List.set_cons_zero, List.set_cons_succ]
        refine wpAnyH_done (by kernel_rfl) ?_ _
        have bF := bw.trans (b5.mono bw.size)
        clear hHeld hcells hh5 qs5 b5'
        go_wp2
        go_ret
        rw [HT.out]
        exact ⟨by simp [HQ.out], bF⟩

end Go.Proofs.YtgfddabccjfhiaaDoor
