/- What this text proves: the walk of feed.Prove over this program: what shows a page, epoch by epoch. (By program: held.py, mkfdprove.py.) -/
import Derived.Test.YtggficgmjbgmpaaDoorJFq
import Derived.Test.YtggficgmjbgmpaaDoorJRg
namespace Go.Proofs.YtggficgmjbgmpaaDoor
open Go.RowKit Go.Shelf

attribute [local go_sem] Oper.semAt_some

theorem GL.other {W W' : World} {B : Nat} {u : Value} {xs : List (List (List UInt8))} {row : Option Nat} (h : GL LR W B 33 u xs) (hg : W.grownBy W' row) (hr : ∀ r, row = some r → ∃ o : Obj, W.heap[r]? = some o ∧ o.isCells = false) : GL LR W' B 33 u xs := by
  obtain ⟨vs, ho, hq⟩ := h
  refine ⟨vs, ho.kept hg ?_, fun j u z h1 h2 => (hq j u z h1 h2).grown hg (odd_other hr)⟩
  rcases ho.2 with ⟨rfl, _⟩ | ⟨g, cap, cur, rfl, _, hgb, _⟩
  · exact .inl rfl
  · refine .inr fun e => ?_
    obtain ⟨o, ho', hc⟩ := hr g (by rw [← e]; rfl)
    rw [hgb] at ho'
    cases ho'
    cases hc

/-- What the rounds keep: the lists so far, in their box. -/
def prvI (size : Int) (bss : List (List (List UInt8 × List UInt8))) (X : List (Nat × Int × Int)) (B : Nat) (wL : World) (pre : List (Nat × Int × Int)) (W : World) : Prop :=
  (∃ u, Boxed W B 25 u ∧ GL LR W B 33 u (pre.map fun x => prv1 size bss (fixC X x))) ∧ Below wL.heap.size wL W

theorem prvI_own (size : Int) (bss : List (List (List UInt8 × List UInt8))) (X : List (Nat × Int × Int)) (B : Nat) (wL : World) (n : Nat) (hn : wL.heap.size ≤ n) : OwnFrom n (prvI size bss X B wL) := by
  refine OwnFrom.and ?_ (ownFrom_below (Nat.le_refl _) hn)
  intro s A A' row hs hg hr
  obtain ⟨u, hu, hgl⟩ := hs
  have hr' : ∀ r, row = some r → ∃ o : Obj, A.heap[r]? = some o ∧ o.isCells = false := fun r e => (hr r e).2
  refine ⟨u, hu.kept hg (fun e => ?_), hgl.other hg hr'⟩
  obtain ⟨o, ho', hc⟩ := hr' B e.symm
  rw [show A.heap[B]? = _ from hu] at ho'
  cases ho'
  cases hc

set_option maxRecDepth 100000 in
set_option maxHeartbeats 8000000 in
theorem prove_any (size ix lm : Int) (v : Value) (bss : List (List (List UInt8 × List UInt8))) (w : World) (h : GA BA w v bss) (hn : bss.length ≤ 1000) (he : ∀ b ∈ bss, b.length ≤ 1000) (hix : -9223372036854775808 ≤ ix ∧ ix ≤ 9223372036854775807) (hlm : -9223372036854775808 ≤ lm ∧ lm ≤ 9223372036854775807) (hT : Tabs w) :
    Calls Tryd.prog 7 #[.int .i64 size, v, .int .i64 ix, .int .i64 lm] w fun e w' => ∃ p c, e = .returned (.slice p (prvF size bss ix lm).length c) ∧ GA LR w' (.slice p (prvF size bss ix lm).length c) (prvF size bss ix lm) ∧ Below w.heap.size w w' := by
  obtain ⟨p, c, rfl⟩ := h.shape
  obtain ⟨i0, hi0, hz0, hz1, hz2⟩ := info_parts i_rows
  obtain ⟨j0, hj0, hy0, hy1, hy2⟩ := info_parts i_intF
  have HE : Hid (∀ b ∈ bss, b.length ≤ 1000) := he
  have HW : Hid (∀ x ∈ cntL bss, -9223372036854775808 ≤ x ∧ x ≤ 9223372036854775807) := cntL_w bss fun b hb => by have := he b hb; omega
  have HXl : Hid ((cutsG 0 (cntL bss) ix lm).length ≤ bss.length) := by show _ ≤ _; rw [← cntL_len bss]; exact cutsG_len _ _ _ _
  have HM : Hid (∀ x ∈ cutsG 0 (cntL bss) ix lm, x.1 < bss.length) := fun x hx => by have := cutsG_mem _ _ _ x hx; rwa [cntL_len] at this
  have HP : Hid (prvF size bss ix lm = (cutsG 0 (cntL bss) ix lm).map (prv1 size bss)) := rfl
  have hcl : (cntL bss).length = bss.length := cntL_len bss
  have HCL : Hid ((cntL bss).length = bss.length) := hcl
  clear he hcl
  have b1 := (Below.refl w.heap.size w).alloc (Nat.le_refl _) (.cells #[.int .i64 size] 3)
  have b2 := b1.alloc b1.size (.cells #[.slice p bss.length c] 23)
  have n1 := heap_alloc_new w (.cells #[.int .i64 size] 3)
  have n2 := heap_alloc_new (w.alloc (.cells #[.int .i64 size] 3)) (.cells #[.slice p bss.length c] 23)
  have s1 : (w.alloc (.cells #[.int .i64 size] 3)).heap.size = w.heap.size + 1 := by simp
  have s2 : ((w.alloc (.cells #[.int .i64 size] 3)).alloc (.cells #[.slice p bss.length c] 23)).heap.size = w.heap.size + 2 := by simp
  have m1 := (((Below.refl _ (w.alloc (.cells #[.int .i64 size] 3))).alloc (Nat.le_refl _) (.cells #[.slice p bss.length c] 23)).block _ (by rw [s1]; omega)).trans n1
  rw [s1] at n2
  obtain ⟨w2, hw2⟩ : ∃ w2, (w.alloc (.cells #[.int .i64 size] 3)).alloc (.cells #[.slice p bss.length c] 23) = w2 := ⟨_, rfl⟩
  rw [hw2] at n2 s2 m1 b2
  have c2 : w2.cell? ⟨w.heap.size + 1, 0, none⟩ = some (.slice p bss.length c) := by rw [cell_of_row _ _ _ _ _ _ n2]; rfl
  clear b1 n1
  refine (callsIn_wide (n := 6)).1 ?_
  refine callsIn_of_wp_marks Tryd.func7 rfl trivial ?_ rfl
  simp only [Tryd.ntmps7, List.size_toArray, List.length_cons, List.length_nil, Nat.reduceAdd, Nat.reduceSub, Array.replicate_succ, Array.replicate_zero, List.push_toArray, List.append_toArray, List.nil_append, List.cons_append]
  refine wpIn_wide.2 ?_
  go_wp2_with (first | (at_make; refine wpList_make_full _ rfl _ _ 22 rfl (w.heap.size + 2) 3 j0 (.int .i64 0) 1 Tryd.underlying22 hj0 hy0 hy1 .i64 .i64 _ _ bss.length rfl rfl ?_ ?_ ?_ ?_ ?_ ?_))
  all_goals (try (first | omega | (unfold maxLen; omega) | (rw [hy2]; omega) | (rw [s2]; omega)))
  intro w3 hown3 hgrow3
  (try rw [hw2] at hgrow3)
  have b3 : Below (w.heap.size + 2) w2 w3 := (Below.refl _ w2).grown hgrow3 (by rw [s2]; omega) (by intro k hk; cases hk)
  have q3 : ∃ vs : List Value, w3.ownsRow (w.heap.size + 2) 3 1 (.slice (some ⟨w.heap.size + 2, 0, none⟩) bss.length bss.length) bss.length vs ∧ ∀ j, j < 0 → vs[j]? = (izs (cntL bss))[j]? := ⟨_, hown3, fun j hj => by omega⟩
  have c3 : w3.cell? ⟨w.heap.size + 1, 0, none⟩ = some (.slice p bss.length c) := by rw [cell_of_row _ _ _ _ _ _ ((b3.block _ (by omega)).trans n2)]; rfl
  clear hown3 hgrow3
  go_wp2
  go_loopw [21] (fun i wr => ∃ k : Nat, k ≤ bss.length ∧ i = .int .i64 (k : Int) ∧ (∃ vs : List Value, wr.ownsRow (w.heap.size + 2) 3 1 (.slice (some ⟨w.heap.size + 2, 0, none⟩) bss.length bss.length) bss.length vs ∧ ∀ j, j < k → vs[j]? = (izs (cntL bss))[j]?) ∧ Below (w.heap.size + 2) w2 wr) (fun i _ => bss.length - (intOf i).toNat)
  case atStart => exact ⟨0, Nat.zero_le _, rfl, q3, b3⟩
  case round =>
    obtain ⟨k, hk, rfl, ⟨vs, oR, qR⟩, hbe⟩ := hrel
    by_cases hlt : k < bss.length
    · obtain ⟨bl, o, rfl⟩ := h.addr (by omega)
      obtain ⟨y, u, hy, c1, h1⟩ := h.get k hlt
      obtain ⟨q, kc, rfl⟩ := h1.shape
      have hlt2 : (k : Int) < (bss.length : Int) := by omega
      have e1 := cell_later (b2.trans (hbe.mono (by omega))) c1
      have hl := oR.1
      rw [Nat.mul_one] at hl
      have cy := oR.cellAt k (by omega)
      obtain ⟨z0, hz0'⟩ : ∃ z, vs[k]? = some z := ⟨_, List.getElem?_eq_getElem (by omega)⟩
      rw [hz0'] at cy
      have fy := oR.frozenAt k
      have hgt : (izs (cntL bss))[k]? = some (.int .i64 (y.length : Int)) := by
        unfold izs cntL
        rw [List.getElem?_map, List.getElem?_map, hy.out]
        rfl
      have oS := (oR.stored k (.int .i64 (y.length : Int))).1
      have qS : ∀ j, j < k + 1 → (vs.set k (.int .i64 (y.length : Int)))[j]? = (izs (cntL bss))[j]? := by
        intro j hj
        by_cases hjk : k = j
        · subst hjk
          rw [List.getElem?_set_self (by omega), hgt]
        · rw [List.getElem?_set_ne hjk]
          exact qR j (by omega)
      have QS : Hid (∀ j, j < k + 1 → (vs.set k (.int .i64 (y.length : Int)))[j]? = (izs (cntL bss))[j]?) := qS
      have hb6 : Below (w.heap.size + 2) w2 (wr.setCell ⟨w.heap.size + 2, k, none⟩ (.int .i64 (y.length : Int))) := hbe.setCell (Nat.le_refl _) _
      clear hy c1 h1 hgt qS qR hl q3 hz0'
      go_wp2
      go_roundw
      case rel => exact ⟨k + 1, by omega, by go_num, ⟨_, oS, QS.out⟩, hb6⟩
      case measure => simp [intOf]; omega
    · obtain rfl : k = bss.length := by omega
      have hl := oR.1
      rw [Nat.mul_one] at hl
      have evs : vs = izs (cntL bss) := by
        apply List.ext_getElem?
        intro i
        by_cases hi : i < bss.length
        · exact qR i hi
        · rw [List.getElem?_eq_none (by omega), List.getElem?_eq_none (by rw [izs_len, HCL.out]; omega)]
      rw [evs] at oR
      have hiz := IZ.of_owns oR
      have bL : Below w.heap.size w wr := b2.trans (hbe.mono (by omega))
      have hsz2 : w.heap.size + 2 ≤ wr.heap.size := by have := hbe.size; omega
      have g0 : wr.heap[w.heap.size]? = some (.cells #[.int .i64 size] 3 (0, 0)) := (hbe.block _ (by omega)).trans m1
      have g1 : wr.heap[w.heap.size + 1]? = some (.cells #[.slice p bss.length c] 23 (0, 0)) := (hbe.block _ (by omega)).trans n2
      clear oR qR evs hl q3 hbe b2 b3 n2 m1
      obtain ⟨wL, hwL⟩ : ∃ wL, wL = wr := ⟨_, rfl⟩
      subst hwL
      have bP := Boxed.new wL 25 (.slice none 0 0)
      have bb1 := (Below.refl wL.heap.size wL).alloc (Nat.le_refl _) (.cells #[.slice none 0 0] 25)
      have sP : (wL.alloc (.cells #[.slice none 0 0] 25)).heap.size = wL.heap.size + 1 := by simp
      obtain ⟨wP, hwP⟩ : ∃ wP, wL.alloc (.cells #[.slice none 0 0] 25) = wP := ⟨_, rfl⟩
      rw [hwP] at bP bb1 sP
      have hS := seq_any (.slice (some ⟨w.heap.size + 2, 0, none⟩) bss.length bss.length) ix lm wP (some ⟨w.heap.size + 2, 0, none⟩) bss.length bss.length rfl
      have bb2 := cuW_below wP (.slice (some ⟨w.heap.size + 2, 0, none⟩) bss.length bss.length) ix lm
      obtain ⟨k0, k1, k2⟩ := cuW_cells wP (.slice (some ⟨w.heap.size + 2, 0, none⟩) bss.length bss.length) ix lm
      have ss2 := cuW_size wP (.slice (some ⟨w.heap.size + 2, 0, none⟩) bss.length bss.length) ix lm
      rw [sP] at hS k0 k1 k2 ss2
      generalize cuW wP (.slice (some ⟨w.heap.size + 2, 0, none⟩) bss.length bss.length) ix lm = W0 at *
      have bP2 : Boxed W0 wL.heap.size 25 (.slice none 0 0) := (bb2.block _ (by omega)).trans bP
      have hB0 : Below wL.heap.size wL W0 := bb1.trans (bb2.mono (by omega))
      have hseq := cuts_stopsE (fun x => encC (fixC (cutsG 0 (cntL bss) ix lm) x)) 5 (wL.heap.size + 1) (.slice (some ⟨w.heap.size + 2, 0, none⟩) bss.length bss.length) (cntL bss) ix lm W0 (by omega) hix hlm HW.out k0 k1 k2 wL hiz hB0 (fun x hx => by rw [fixC_mem hx])
      have HN : Hid (prvF size bss ix lm = (cutsG 0 (cntL bss) ix lm).map (prv1 size bss)) := rfl
      generalize cutsG 0 (cntL bss) ix lm = X at *
      obtain ⟨B, hBB⟩ : ∃ B, B = wL.heap.size := ⟨_, rfl⟩
      have HBE : Hid (B = wL.heap.size) := hBB
      rw [← hBB] at hS bP2 hseq sP ss2 hsz2
      clear hiz bb1 bb2 k0 k1 k2 hix hlm bP HP
      go_wp2_with fail
      (try rw [hwP])
      (try rw [← hBB])
      refine hS.mono ?_
      rintro e5 w5 ⟨rfl, rfl⟩
      clear hBB hS hwP
      go_wp2
      refine (wpIn_wide (n := 6)).1 ?_
      refine wpIn_rangeFunc_ownH (F := Fence.wide) (n := 6) rfl (by omega) (gf := 32) (lb := #[.pointer (some ⟨B + 1 + 1, 0, none⟩), .pointer (some ⟨B + 1 + 2, 0, none⟩), .pointer (some ⟨B + 1, 0, none⟩)]) rfl trivial (enters_of Tryd.func32 (by kernel_rfl) rfl)
        hseq belowK_t (belowK_b (by omega)) (Below.refl _ _) (fun _ => rfl)
        (prvI size bss X B wL)
        (fun _ _ _ => False)
        (prvI_own size bss X B wL w5.heap.size (by have := HBE.out; omega))
        (fun _ _ _ _ _ hs _ _ => hs)
        ⟨⟨_, bP2, GL.nil _ _ _ _⟩, hB0⟩
        (fun x a' W => ∃ Bx, B < Bx ∧ W.heap[Bx]? = some (.cells #[.int .i64 (fixC X x).2.1, .int .i64 (fixC X x).2.2] 30 (0, 0)) ∧ a' = { tmps := #[.int .i64 size, .slice p bss.length c, .int .i64 ix, .int .i64 lm, .pointer (some ⟨w.heap.size, 0, none⟩), .pointer (some ⟨w.heap.size + 1, 0, none⟩), undef, undef, .slice none 0 0, .slice (some ⟨w.heap.size + 2, 0, none⟩) bss.length bss.length, u10, u11, .pointer (some ⟨B, 0, none⟩), .int .i64 ((fixC X x).1 : Int), .pointer (some ⟨Bx, 0, none⟩), undef, .slice p bss.length c, .int .i64 (bss.length : Int), .slice (some ⟨w.heap.size + 2, 0, none⟩) bss.length bss.length, .slice p bss.length c, .int .i64 (bss.length : Int), .int .i64 (bss.length : Int), .bool false, u23, u24, u25, u26, u27, u28, u29, u30, u31, .slice (some ⟨w.heap.size + 2, 0, none⟩) bss.length bss.length, .int .i64 ix, .int .i64 lm, .func (.func 32) #[] #[.pointer (some ⟨B + 1 + 1, 0, none⟩), .pointer (some ⟨B + 1 + 2, 0, none⟩), .pointer (some ⟨B + 1, 0, none⟩)], .int .i64 ((fixC X x).1 : Int), .agg #[.int .i64 (fixC X x).2.1, .int .i64 (fixC X x).2.2], undef, undef, undef, undef, undef, undef, undef, undef, undef, undef, undef, undef, undef, undef, undef, undef, undef], defers := [] })
        ?hax ?assign ?body ?done ?stop
      case hax =>
        rintro x a' s A A' row ⟨Bx, h1, h2, h3⟩ hg hr
        refine ⟨Bx, h1, ?_, h3⟩
        refine (hg.block Bx (Array.getElem?_eq_some_iff.1 h2).1 fun e => ?_).trans h2
        obtain ⟨_, o, ho, hc⟩ := hr Bx e.symm
        rw [h2] at ho
        cases ho
        cases hc
      case assign =>
        rintro l pre x W K ⟨⟨u, hu, hr⟩, hB⟩ hK
        have hsz := hB.size
        dsimp only at hK ⊢
        generalize fixC X x = z at *
        have hn := heap_alloc_new W (.cells #[.int .i64 z.2.1, .int .i64 z.2.2] 30)
        have hbx := (Below.refl W.heap.size W).alloc (Nat.le_refl _) (.cells #[.int .i64 z.2.1, .int .i64 z.2.2] 30)
        have hK' := hK { tmps := #[.int .i64 size, .slice p bss.length c, .int .i64 ix, .int .i64 lm, .pointer (some ⟨w.heap.size, 0, none⟩), .pointer (some ⟨w.heap.size + 1, 0, none⟩), undef, undef, .slice none 0 0, .slice (some ⟨w.heap.size + 2, 0, none⟩) bss.length bss.length, u10, u11, .pointer (some ⟨B, 0, none⟩), .int .i64 (z.1 : Int), .pointer (some ⟨W.heap.size, 0, none⟩), undef, .slice p bss.length c, .int .i64 (bss.length : Int), .slice (some ⟨w.heap.size + 2, 0, none⟩) bss.length bss.length, .slice p bss.length c, .int .i64 (bss.length : Int), .int .i64 (bss.length : Int), .bool false, u23, u24, u25, u26, u27, u28, u29, u30, u31, .slice (some ⟨w.heap.size + 2, 0, none⟩) bss.length bss.length, .int .i64 ix, .int .i64 lm, .func (.func 32) #[] #[.pointer (some ⟨B + 1 + 1, 0, none⟩), .pointer (some ⟨B + 1 + 2, 0, none⟩), .pointer (some ⟨B + 1, 0, none⟩)], .int .i64 (z.1 : Int), .agg #[.int .i64 z.2.1, .int .i64 z.2.2], undef, undef, undef, undef, undef, undef, undef, undef, undef, undef, undef, undef, undef, undef, undef, undef, undef], defers := [] } (W.alloc (.cells #[.int .i64 z.2.1, .int .i64 z.2.2] 30)) ((KeepsOthers.alloc _ _).from _) (hbx.mono (by have := HBE.out; omega)) ⟨⟨u, hu.alloc _, hr.later hbx (fun _ _ h => h.later hbx)⟩, hB.trans (hbx.mono hsz)⟩ ⟨W.heap.size, hu.lt, hn, rfl⟩
        clear hK hn hbx hr hB
        dsimp only [encC]
        gi_wp2
        exact hK'
      case stop =>
        intro D c pre W _ _ h
        exact h.elim
      case body =>
        rintro l pre x a' W hl hr0 ⟨⟨u, hu, hr⟩, hB⟩ ⟨Bx, hBx, hbx, rfl⟩ hlt
        have hzin := fixC_in x (show 0 < X.length by omega)
        have hzb := HM.out _ hzin
        have HG : Hid ((pre.map fun x => prv1 size bss (fixC X x)) ++ [prv1 size bss (fixC X x)] = (pre ++ [x]).map fun x => prv1 size bss (fixC X x)) := by show _ = _; simp
        have hAl : (pre.map fun x => prv1 size bss (fixC X x)).length ≤ 1000 := by have := HXl.out; simp; omega
        obtain ⟨M, hM⟩ : ∃ M, M = (pre ++ [x]).map fun x => prv1 size bss (fixC X x) := ⟨_, rfl⟩
        have HI : Hid (∀ W', (∃ u, Boxed W' B 25 u ∧ GL LR W' B 33 u M) ∧ Below wL.heap.size wL W' → prvI size bss X B wL (pre ++ [x]) W') := fun W' h => by rw [hM] at h; exact h
        rw [← hM] at HG
        generalize (pre.map fun x => prv1 size bss (fixC X x)) = A at *
        generalize fixC X x = z at *
        clear hM hzin
        obtain ⟨bl, o, rfl⟩ := h.addr (by omega)
        obtain ⟨y, uy, hy, cY, h1⟩ := h.get z.1 hzb
        obtain ⟨q, kc, rfl⟩ := h1.shape
        have hyl := HE.out y (List.mem_of_getElem? hy.out)
        have hF : prv1 size bss z = rngF size (y.map (clF size)) z.2.1 z.2.2 := by unfold prv1; rw [List.getD_eq_getElem?_getD, hy.out]; rfl
        rw [hF] at HG
        have HT : Hid (A ++ [rngF size (y.map (clF size)) z.2.1 z.2.2] = M) := HG
        have bwW : Below w.heap.size w W := bL.trans (hB.mono bL.size)
        have HLv : Hid (∀ V, Below W.heap.size W V → Calls Tryd.prog 22 #[.int .i64 size, .slice q y.length kc] V fun e w' => ∃ p c, e = .returned (.slice p (y.map (clF size)).length c) ∧ PA w' (.slice p (y.map (clF size)).length c) (y.map (clF size)) ∧ Below V.heap.size V w') :=
          fun V hV => leaves12_any size _ y V (h1.later (bwW.trans (hV.mono bwW.size))) (by omega) (hT.later (bwW.trans (hV.mono bwW.size)))
        have HRg : Hid (∀ v V, Below W.heap.size W V → PA V v (y.map (clF size)) → Calls Tryd.prog 23 #[.int .i64 size, v, .int .i64 z.2.1, .int .i64 z.2.2] V fun x w' => ∃ p c, x = .returned (.slice p (rngF size (y.map (clF size)) z.2.1 z.2.2).length c) ∧ RL w' V.heap.size (.slice p (rngF size (y.map (clF size)) z.2.1 z.2.2).length c) (rngF size (y.map (clF size)) z.2.1 z.2.2) ∧ Below V.heap.size V w') :=
          fun v V hV hp => range_anyL size v _ _ _ V (hT.later (bwW.trans (hV.mono bwW.size))) hp (by simp; omega) (clF_le size y)
        generalize rngF size (y.map (clF size)) z.2.1 z.2.2 = F at *
        generalize y.map (clF size) = LV at *
        obtain ⟨vs, oU, qU⟩ := hr
        obtain ⟨pu, cu, rfl⟩ := owns_shape oU
        have hbl : bl < w.heap.size := World.block_lt_of_cell? w _ cY
        have hBw := HBE.out
        have ltB := hu.lt
        have ltX : Bx < W.heap.size := (Array.getElem?_eq_some_iff.1 hbx).1
        have hsW := hB.size
        have g0W : W.heap[w.heap.size]? = some (.cells #[.int .i64 size] 3 (0, 0)) := (hB.block _ (by omega)).trans g0
        have g1W : W.heap[w.heap.size + 1]? = some (.cells #[.slice (some ⟨bl, o, none⟩) bss.length c] 23 (0, 0)) := (hB.block _ (by omega)).trans g1
        have cYW := cell_later bwW cY
        have hlo : ∀ r, (Value.slice pu A.length cu).ownBlock = some r → B ≤ r ∧ r ≠ Bx := fun r hr' => ⟨(oU.lt r hr').1, fun e => by
          subst e
          rcases oU.2 with ⟨e1, _⟩ | ⟨g, cap, cur, e1, _, hgb, _⟩
          · rw [e1] at hr'
            simp [Value.ownBlock] at hr'
          · rw [e1] at hr'
            simp only [Value.ownBlock, Option.some.injEq] at hr'
            subst hr'
            rw [hbx] at hgb
            simp at hgb⟩
        have hcells : ∀ V, Below W.heap.size W V → V.cell? ⟨w.heap.size, 0, none⟩ = some (.int .i64 size) ∧ V.cell? ⟨w.heap.size + 1, 0, none⟩ = some (.slice (some ⟨bl, o, none⟩) bss.length c) ∧ V.cell? ⟨bl, o + z.1, none⟩ = some (.slice q y.length kc) := fun V hV =>
          ⟨by rw [cell_of_row _ _ _ _ _ _ ((hV.block _ (by omega)).trans g0W)]; rfl, by rw [cell_of_row _ _ _ _ _ _ ((hV.block _ (by omega)).trans g1W)]; rfl, cell_later hV cYW⟩
        have hcells2 : ∀ V, Below W.heap.size W V → V.cell? ⟨w.heap.size, 0, none⟩ = some (.int .i64 size) ∧ V.cell? ⟨B, 0, none⟩ = some (.slice pu A.length cu) ∧ V.cell? ⟨Bx, 0, none⟩ = some (.int .i64 z.2.1) ∧ V.cell? ⟨Bx, 1, none⟩ = some (.int .i64 z.2.2) := fun V hV =>
          ⟨(hcells V hV).1, cell_later hV hu.cell, by rw [cell_of_row _ _ _ _ _ _ ((hV.block _ ltX).trans hbx)]; rfl, by rw [cell_of_row _ _ _ _ _ _ ((hV.block _ ltX).trans hbx)]; rfl⟩
        have hcells7 : ∀ V V', Below W.heap.size W V → V.grownBy V' (Value.slice pu A.length cu).ownBlock → Boxed V' B 25 (.slice pu A.length cu) → V'.cell? ⟨w.heap.size, 0, none⟩ = some (.int .i64 size) ∧ V'.cell? ⟨B, 0, none⟩ = some (.slice pu A.length cu) ∧ V'.cell? ⟨Bx, 0, none⟩ = some (.int .i64 z.2.1) ∧ V'.cell? ⟨Bx, 1, none⟩ = some (.int .i64 z.2.2) := fun V V' hV hg hx => by
          obtain ⟨a1, _, a3, a4⟩ := hcells2 V hV
          exact ⟨hg.cell a1 (fun e => by have := (hlo w.heap.size e.symm).1; omega), hx.cell, hg.cell a3 (fun e => (hlo _ e.symm).2 rfl), hg.cell a4 (fun e => (hlo _ e.symm).2 rfl)⟩
        have hkb : (z.1 : Int) < (bss.length : Int) := by omega
        clear hBw hF HG hy cY h1 hlt HM HN HXl HCL HW HE hr0 hl
        gi_wp2
        have bD : Below W.heap.size W W.drew := (Below.refl _ W).drew
        have hHeld := hcells W.drew bD
        refine wpIn_region_heldN (by kernel_rfl) (by rintro ⟨_, _, h⟩; exact h) (by kernel_rfl) (fun W => W.cell? ⟨w.heap.size, 0, none⟩ = some (.int .i64 size) ∧ W.cell? ⟨w.heap.size + 1, 0, none⟩ = some (.slice (some ⟨bl, o, none⟩) bss.length c) ∧ W.cell? ⟨bl, o + z.1, none⟩ = some (.slice q y.length kc)) 7 rfl ?_
        refine tkY 0 ⟨some 38, .load 3 (.tmp 4), 3, "feed.go:48", #[], none⟩ ?v0z1 hHeld ?y0z1 ?r0z1
        case y0z1 => (intro w hSw; (try dsimp only at hSw); go_simp) <;> with_reducible rfl
        try simp only [Act.put, List.setIfInBounds_toArray, List.set_cons_zero, List.set_cons_succ]
        refine tkY 1 ⟨some 39, .load 23 (.tmp 5), 23, "feed.go:48", #[], none⟩ ?v1z2 hHeld ?y1z2 ?r1z2
        case y1z2 => (intro w hSw; (try dsimp only at hSw); go_simp) <;> with_reducible rfl
        try simp only [Act.put, List.setIfInBounds_toArray, List.set_cons_zero, List.set_cons_succ]
        refine tkY 2 ⟨some 40, .move (.tmp 13), 3, "feed.go:48", #[], none⟩ ?v2z3 hHeld ?y2z3 ?r2z3
        case y2z3 => (intro w hSw; (try dsimp only at hSw); go_simp) <;> with_reducible rfl
        try simp only [Act.put, List.setIfInBounds_toArray, List.set_cons_zero, List.set_cons_succ]
        refine tkY 3 ⟨some 41, .indexAddr 23 (.tmp 39) (.tmp 40), 0, "feed.go:48", #[⟨1, .data⟩, ⟨2, .data⟩], none⟩ ?v3z4 hHeld ?y3z4 ?r3z4
        case y3z4 => (intro w hSw; (try dsimp only at hSw); go_simp) <;> with_reducible rfl
        try simp only [Act.put, List.setIfInBounds_toArray, List.set_cons_zero, List.set_cons_succ]
        refine tkY 4 ⟨some 42, .load 47 (.tmp 41), 47, "feed.go:48", #[⟨3, .data⟩], none⟩ ?v4z5 hHeld ?y4z5 ?r4z5
        case y4z5 => (intro w hSw; (try dsimp only at hSw); go_simp) <;> with_reducible rfl
        try simp only [Act.put, List.setIfInBounds_toArray, List.set_cons_zero, List.set_cons_succ]
        refine wpAnyH_ready (rs := [5]) (by kernel_rfl) (by simp) ?_
        refine AllReadyH.cons (o := ⟨some 43, .call { callee := .value (.func 22), args := #[.tmp 38, .tmp 42], argTypes := #[3, 47] }, 33, "feed.go:48", #[⟨0, .data⟩, ⟨4, .data⟩], none⟩) rfl (fun K hK => ?_) AllReadyH.nil
        go_simp
        refine (HLv.out _ bD).mono ?_
        rintro e3 w3 ⟨p3, c3, rfl, k3, b3'⟩
        have b3 := bD.trans (b3'.mono bD.size)
        replace hHeld := hcells w3 b3
        refine hK.out _ _ ?_ (fun _ => ?_)
        · exact hHeld
        clear hK K
        try simp only [Act.put, List.setIfInBounds_toArray, List.set_cons_zero, List.set_cons_succ]
        refine tkY 6 ⟨some 15, .assign (.tmp 43), 33, "feed.go:48", #[⟨5, .data⟩, ⟨5, .chain⟩, ⟨0, .phase⟩, ⟨1, .phase⟩, ⟨2, .phase⟩, ⟨3, .phase⟩, ⟨4, .phase⟩, ⟨5, .phase⟩], none⟩ ?v6z6 hHeld ?y6z6 ?r6z6
        case y6z6 => (intro w hSw; (try dsimp only at hSw); go_simp) <;> with_reducible rfl
        try simp only [Act.put, List.setIfInBounds_toArray, List.set_cons_zero, List.set_cons_succ]
        refine wpAnyH_done (by kernel_rfl) ?_ _
        clear hHeld HLv
        gi_wp2
        have bE : Below W.heap.size W w3.drew := b3.drew
        have bE3 : Below w3.heap.size w3 w3.drew := (Below.refl _ w3).drew
        have hHeld := hcells2 w3.drew bE
        refine wpIn_region_split (by kernel_rfl) (by rintro ⟨_, _, h⟩; exact h) (by kernel_rfl) (fun V => V.cell? ⟨w.heap.size, 0, none⟩ = some (.int .i64 size) ∧ V.cell? ⟨B, 0, none⟩ = some (.slice pu A.length cu) ∧ V.cell? ⟨Bx, 0, none⟩ = some (.int .i64 z.2.1) ∧ V.cell? ⟨Bx, 1, none⟩ = some (.int .i64 z.2.2)) 10 1 #[{ dst := some 44, op := Go.Op.load 25 (Go.Operand.tmp 12), type := 25, pos := "feed.go:49", after := #[], guard := none },
          { dst := some 45, op := Go.Op.load 3 (Go.Operand.tmp 4), type := 3, pos := "feed.go:49", after := #[], guard := none },
          { dst := some 46, op := Go.Op.move (Go.Operand.tmp 15), type := 33, pos := "feed.go:49", after := #[], guard := none },
          { dst := some 47, op := Go.Op.fieldAddr 30 (Go.Operand.tmp 14) 0, type := 0, pos := "feed.go:49", after := #[], guard := none },
          { dst := some 48, op := Go.Op.load 3 (Go.Operand.tmp 47), type := 3, pos := "feed.go:49", after := #[{ on := 3, ground := Go.Ground.data }], guard := none },
          { dst := some 49, op := Go.Op.fieldAddr 30 (Go.Operand.tmp 14) 1, type := 0, pos := "feed.go:49", after := #[], guard := none },
          { dst := some 50, op := Go.Op.load 3 (Go.Operand.tmp 49), type := 3, pos := "feed.go:49", after := #[{ on := 5, ground := Go.Ground.data }], guard := none },
          { dst := some 51, op := Go.Op.call { callee := Go.Callee.value (Go.Operand.func 23), args := #[Go.Operand.tmp 45, Go.Operand.tmp 46, Go.Operand.tmp 48, Go.Operand.tmp 50], argTypes := #[3, 33, 3, 3] }, type := 33, pos := "feed.go:49", after := #[{ on := 1, ground := Go.Ground.data }, { on := 2, ground := Go.Ground.data }, { on := 4, ground := Go.Ground.data }, { on := 6, ground := Go.Ground.data }], guard := none },
          { dst := some 52, op := Go.Op.buildSlice 25 1 #[(0, Go.Operand.tmp 51)], type := 25, pos := "feed.go:49", after := #[{ on := 7, ground := Go.Ground.data }], guard := none },
          { dst := some 53, op := Go.Op.call { callee := Go.Callee.builtin Go.Builtin.append, args := #[Go.Operand.tmp 44, Go.Operand.tmp 52], argTypes := #[25, 25] }, type := 25, pos := "feed.go:49", after := #[{ on := 0, ground := Go.Ground.data }, { on := 8, ground := Go.Ground.data }, { on := 7, ground := Go.Ground.chain }], guard := none }] (by kernel_rfl) (by kernel_rfl) ?_
        refine tkY 0 ⟨some 44, .load 25 (.tmp 12), 25, "feed.go:49", #[], none⟩ ?v0z7 hHeld ?y0z7 ?r0z7
        case y0z7 => (intro w hSw; (try dsimp only at hSw); go_simp) <;> with_reducible rfl
        try simp only [Act.put, List.setIfInBounds_toArray, List.set_cons_zero, List.set_cons_succ]
        refine tkY 1 ⟨some 45, .load 3 (.tmp 4), 3, "feed.go:49", #[], none⟩ ?v1z8 hHeld ?y1z8 ?r1z8
        case y1z8 => (intro w hSw; (try dsimp only at hSw); go_simp) <;> with_reducible rfl
        try simp only [Act.put, List.setIfInBounds_toArray, List.set_cons_zero, List.set_cons_succ]
        refine tkY 2 ⟨some 46, .move (.tmp 15), 33, "feed.go:49", #[], none⟩ ?v2z9 hHeld ?y2z9 ?r2z9
        case y2z9 => (intro w hSw; (try dsimp only at hSw); go_simp) <;> with_reducible rfl
        try simp only [Act.put, List.setIfInBounds_toArray, List.set_cons_zero, List.set_cons_succ]
        refine tkY 3 ⟨some 47, .fieldAddr 30 (.tmp 14) 0, 0, "feed.go:49", #[], none⟩ ?v3z10 hHeld ?y3z10 ?r3z10
        case y3z10 => (intro w hSw; (try dsimp only at hSw); go_simp) <;> with_reducible rfl
        try simp only [Act.put, List.setIfInBounds_toArray, List.set_cons_zero, List.set_cons_succ]
        refine tkY 4 ⟨some 48, .load 3 (.tmp 47), 3, "feed.go:49", #[⟨3, .data⟩], none⟩ ?v4z11 hHeld ?y4z11 ?r4z11
        case y4z11 => (intro w hSw; (try dsimp only at hSw); go_simp) <;> with_reducible rfl
        try simp only [Act.put, List.setIfInBounds_toArray, List.set_cons_zero, List.set_cons_succ]
        refine tkY 5 ⟨some 49, .fieldAddr 30 (.tmp 14) 1, 0, "feed.go:49", #[], none⟩ ?v5z12 hHeld ?y5z12 ?r5z12
        case y5z12 => (intro w hSw; (try dsimp only at hSw); go_simp) <;> with_reducible rfl
        try simp only [Act.put, List.setIfInBounds_toArray, List.set_cons_zero, List.set_cons_succ]
        refine tkY 6 ⟨some 50, .load 3 (.tmp 49), 3, "feed.go:49", #[⟨5, .data⟩], none⟩ ?v6z13 hHeld ?y6z13 ?r6z13
        case y6z13 => (intro w hSw; (try dsimp only at hSw); go_simp) <;> with_reducible rfl
        try simp only [Act.put, List.setIfInBounds_toArray, List.set_cons_zero, List.set_cons_succ]
        refine wpAnyH_ready (rs := [7]) (by kernel_rfl) (by simp) ?_
        refine AllReadyH.cons (o := ⟨some 51, .call { callee := .value (.func 23), args := #[.tmp 45, .tmp 46, .tmp 48, .tmp 50], argTypes := #[3, 33, 3, 3] }, 33, "feed.go:49", #[⟨1, .data⟩, ⟨2, .data⟩, ⟨4, .data⟩, ⟨6, .data⟩], none⟩) rfl (fun K hK => ?_) AllReadyH.nil
        go_simp
        refine (HRg.out _ _ bE (k3.later bE3)).mono ?_
        rintro e4 w4 ⟨p4, c4, rfl, k4, b4'⟩
        have b4 := bE.trans (b4'.mono bE.size)
        replace hHeld := hcells2 w4 b4
        have bB4 := (Below.refl w4.heap.size w4).alloc (Nat.le_refl _) (.cells #[.slice p4 F.length c4] 33)
        have bB := b4.trans (bB4.mono b4.size)
        have o4 := owns_later oU b4
        have oB := owns_later o4 bB4
        have k4B := k4.later bB4
        have nB := heap_alloc_new w4 (.cells #[.slice p4 F.length c4] 33)
        have hu4 : Boxed w4 B 25 (.slice pu A.length cu) := (b4.block _ hu.lt).trans hu
        refine hK.out _ _ ?_ (fun _ => ?_)
        · exact hHeld
        clear hK K
        try simp only [Act.put, List.setIfInBounds_toArray, List.set_cons_zero, List.set_cons_succ]
        refine wpAnyH_ready (rs := [8]) (by kernel_rfl) (by simp) ?_
        refine AllReadyH.cons (o := ⟨some 52, .buildSlice 25 1 #[(0, .tmp 51)], 25, "feed.go:49", #[⟨7, .data⟩], none⟩) rfl (fun K hK => ?_) AllReadyH.nil
        go_simp
        replace hHeld := hcells2 _ bB
        refine hK.out _ _ ?_ (fun _ => ?_)
        · exact hHeld
        clear hK K
        try simp only [Act.put, List.setIfInBounds_toArray, List.set_cons_zero, List.set_cons_succ]
        refine wpAnyH_ready (rs := [9]) (by kernel_rfl) (by simp) ?_
        refine AllReadyH.cons (o := ⟨some 53, .call { callee := .builtin .append, args := #[.tmp 44, .tmp 52], argTypes := #[25, 25] }, 25, "feed.go:49", #[⟨0, .data⟩, ⟨8, .data⟩, ⟨7, .chain⟩], none⟩) rfl (fun K hK => ?_) AllReadyH.nil
        refine step_append_lies _ (by rfl) (.tmp 44) (.tmp 52) _ (by rfl) B 33 i0 _ 1 24 Tryd.underlying25 hi0 hz0 hz1 hz2 rfl (by decide) _ A.length vs (by rfl) oB ⟨w4.heap.size, 0, none⟩ 1 1 [.slice p4 F.length c4] (by rfl) (by rfl) (World.news_of_block (cs := #[.slice p4 F.length c4]) (t := 33) (fr := (0, 0)) nB) (by simp [Value.oneCell']) (by omega) (by unfold maxLen; omega) (by omega) (by have := hu.lt; have := b4.size; simp; omega) (w4.heap.size + 1) (by simp) ?_
        intro g7 cap7 w7 o7 gr7 _ _
        have od := odd_row oB (by decide) (by decide)
        obtain ⟨hv1, hv2, hr2, hk2, hb2⟩ := hu4.appended (by decide) o4 (by have := hu.lt; have := b4.size; omega) (Nat.le_refl B) o7 gr7
        replace hHeld := hcells7 _ w7 bB gr7 hv1
        refine hK.out _ _ ?_ (fun _ => ?_)
        · exact hHeld
        clear hK K
        try simp only [Act.put, List.setIfInBounds_toArray, List.set_cons_zero, List.set_cons_succ]
        refine wpAnyH_done (by kernel_rfl) ?_ _
        refine headPost_rest [{ dst := none, op := Go.Op.store 25 (Go.Operand.tmp 12) (Go.Operand.tmp 53), type := 0, pos := "feed.go:49", after := #[{ on := 9, ground := Go.Ground.data }, { on := 9, ground := Go.Ground.chain }, { on := 0, ground := Go.Ground.phase }, { on := 1, ground := Go.Ground.phase }, { on := 2, ground := Go.Ground.phase }, { on := 3, ground := Go.Ground.phase }, { on := 4, ground := Go.Ground.phase }, { on := 5, ground := Go.Ground.phase }, { on := 6, ground := Go.Ground.phase }, { on := 7, ground := Go.Ground.phase }, { on := 8, ground := Go.Ground.phase }, { on := 9, ground := Go.Ground.phase }], guard := none }] (by kernel_rfl) rfl (by kernel_rfl) ?_
        have r7 : GL LR w7 B 33 (.slice (some ⟨g7, 0, none⟩) (A.length + 1) cap7) (A ++ [F]) := GL.snoc oB (fun j u z hu hz => ((qU j u z hu hz).later b4).later bB4) ⟨_, k4B⟩ o7 (fun _ _ h => h.grown gr7 od)
        rw [HT.out] at r7
        have gS := grownBy_setCell' w7 B (.slice (some ⟨g7, 0, none⟩) (A.length + 1) cap7)
        have odS : Odd w7 (some B) := by
          intro r hr
          cases hr
          refine ⟨_, hv1, fun cs t fr e => ?_⟩
          simp only [Obj.cells.injEq] at e
          obtain ⟨_, rfl, _⟩ := e
          exact ⟨by decide, by decide⟩
        obtain ⟨vs7, o7', q7⟩ := r7
        have r8 : GL LR (w7.setCell ⟨B, 0, none⟩ (.slice (some ⟨g7, 0, none⟩) (A.length + 1) cap7)) B 33 (.slice (some ⟨g7, 0, none⟩) (A.length + 1) cap7) M := ⟨vs7, o7'.kept gS (.inr (hv1.not_row (by decide) o7').symm), fun j u z hu hz => (q7 j u z hu hz).grown gS odS⟩
        have kf4 : KeepsFrom w5.heap.size W w4 := ⟨b4.size, fun k o _ hk _ => (b4.block k (Array.getElem?_eq_some_iff.1 hk).1).trans hk⟩
        have kf : KeepsFrom w5.heap.size W (w7.setCell ⟨B, 0, none⟩ (.slice (some ⟨g7, 0, none⟩) (A.length + 1) cap7)) := kf4.trans (hk2.from _)
        have hbe : Below wL.heap.size wL (w7.setCell ⟨B, 0, none⟩ (.slice (some ⟨g7, 0, none⟩) (A.length + 1) cap7)) := (hB.trans (b4.mono hB.size)).trans (by rw [← HBE.out]; exact hb2)
        have hbW : Below B W (w7.setCell ⟨B, 0, none⟩ (.slice (some ⟨g7, 0, none⟩) (A.length + 1) cap7)) := (b4.mono (by have := HBE.out; omega)).trans hb2
        have hc1 := hv1.cell
        have hf1 := hv1.frozen
        clear hHeld hcells hcells2 hcells7 o7 gr7 oB k4B nB bB bB4 k4 b4 b4' od HT o7' q7 gS odS hk2 hb2 hr2 o4 kf4
        go_wp2
        exact ⟨kf, hbW, HI.out _ ⟨⟨_, hv2, r8⟩, hbe⟩⟩
      case done =>
        rintro D ys W hD rfl ⟨⟨u, hu, hr⟩, hB⟩ hK
        have hmp : (ys.map fun x => prv1 size bss (fixC ys x)) = prvF size bss ix lm := by
          rw [HN.out]
          exact List.map_congr_left fun x hx => by rw [fixC_mem hx]
        rw [hmp] at hr
        have cu := hu.cell
        obtain ⟨pu, cu', hue⟩ := hr.shape
        subst hue
        have hb9 := hB.trans (belowK_b (w := wL) (Nat.le_refl _) W D _ (.deferred none) (by have := HBE.out; omega) hK rfl rfl)
        have hg9 := (hr.other (grownBy_putObj' W D (.deferred none)) (fun r e => by cases e; exact ⟨_, hK, rfl⟩)).ga
        have hb99 := bL.trans (hb9.mono bL.size)
        clear hmp hr hB hseq hT h HE HW HXl HM HN HCL hB0 bP2
        go_wp2
        refine ⟨by simp, .inl ⟨_, _, rfl, run_takeDeferred hK, ?_⟩⟩
        exact ⟨_, results_tmp rfl _ _ _, _, _, rfl, hg9, hb99⟩

end Go.Proofs.YtggficgmjbgmpaaDoor
