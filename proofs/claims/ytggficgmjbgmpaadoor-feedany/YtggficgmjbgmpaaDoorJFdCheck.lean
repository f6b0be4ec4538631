/- What this text proves: the walk of feed.Check over this program: OK, where the page is shown, else ErrProof. (By program: held.py, mkfdcheck.py.) -/
import Derived.Test.YtggficgmjbgmpaaDoorJFs
import Derived.Test.YtggficgmjbgmpaaDoorJFe
import Derived.Test.YtggficgmjbgmpaaDoorJFdRCheck
import Derived.Test.YtggficgmjbgmpaaDoorJRg
namespace Go.Proofs.YtggficgmjbgmpaaDoor
open Go.RowKit Go.Shelf

attribute [local go_sem] Oper.semAt_some

/-- What the rounds keep: the events that are left, how many cuts were met. -/
def chkI (size : Int) (rs : List Rk) (evs : List Ev) (lss : List (List (List UInt8))) (w : World) (X : List (Nat × Int × Int)) (B e r : Nat) (wL : World) (pre : List (Nat × Int × Int)) (W : World) : Prop :=
  (∃ cur pv cv, Boxed W e 38 (.slice pv cur.length cv) ∧ EA w (.slice pv cur.length cv) cur ∧ cur.length ≤ 1000000 ∧ Hid (RunP size rs lss (pre.map (fixC X)) evs cur) ∧ Boxed W B 3 (.int .i64 (pre.length : Int)) ∧ Boxed W r 42 (.int .i64 0)) ∧ KX B e r wL W

/-- How they are left ahead of the end. -/
def chkX (size : Int) (rs : List Rk) (evs : List Ev) (lss : List (List (List UInt8))) (X : List (Nat × Int × Int)) (B e r : Nat) (wL : World) (c : Code) (pre : List (Nat × Int × Int)) (W : World) : Prop :=
  (c = .ret ∧ Hid (¬ ∃ m, RunP size rs lss (pre.map (fixC X)) evs m) ∧ Boxed W r 42 (.int .i64 95)) ∧ KX B e r wL W

theorem boxed_still {W W' : World} {row : Option Nat} {B : Nat} {t : TypeId} {v : Value} (h : Boxed W B t v) (hg : W.grownBy W' row) (hr : ∀ r, row = some r → ∃ o : Obj, W.heap[r]? = some o ∧ o.isCells = false) : Boxed W' B t v :=
  h.kept hg fun q => by
    obtain ⟨o, ho, hc⟩ := hr B q.symm
    rw [show W.heap[B]? = _ from h] at ho
    cases ho
    cases hc

theorem chkI_own (size : Int) (rs : List Rk) (evs : List Ev) (lss : List (List (List UInt8))) (w : World) (X : List (Nat × Int × Int)) (B e r : Nat) (wL : World) (n : Nat) (hB : B = wL.heap.size) (hn : B ≤ n) : OwnFrom n (chkI size rs evs lss w X B e r wL) := by
  refine OwnFrom.and ?_ (kx_own (by omega) hn)
  rintro s A A' row ⟨cur, pv, cv, h1, h2, h3, h4, h5, h6⟩ hg hr
  have hr' : ∀ r, row = some r → ∃ o : Obj, A.heap[r]? = some o ∧ o.isCells = false := fun r q => (hr r q).2
  exact ⟨cur, pv, cv, boxed_still h1 hg hr', h2, h3, h4, boxed_still h5 hg hr', boxed_still h6 hg hr'⟩

theorem chkX_own (size : Int) (rs : List Rk) (evs : List Ev) (lss : List (List (List UInt8))) (X : List (Nat × Int × Int)) (B e r : Nat) (wL : World) (n : Nat) (c : Code) (hB : B = wL.heap.size) (hn : B ≤ n) : OwnFrom n (chkX size rs evs lss X B e r wL c) := by
  refine OwnFrom.and ?_ (kx_own (by omega) hn)
  rintro s A A' row ⟨h1, h2, h3⟩ hg hr
  exact ⟨h1, h2, boxed_still h3 hg (fun r q => (hr r q).2)⟩

theorem chkI_later {size : Int} {rs : List Rk} {evs : List Ev} {lss : List (List (List UInt8))} {w : World} {X : List (Nat × Int × Int)} {B e r : Nat} {wL : World} {pre : List (Nat × Int × Int)} {W W' : World} (h : chkI size rs evs lss w X B e r wL pre W) (hb : Below W.heap.size W W') : chkI size rs evs lss w X B e r wL pre W' := by
  obtain ⟨⟨cur, pv, cv, h1, h2, h3, h4, h5, h6⟩, hk⟩ := h
  refine ⟨⟨cur, pv, cv, (hb.block _ h1.lt).trans h1, h2, h3, h4, (hb.block _ h5.lt).trans h5, (hb.block _ h6.lt).trans h6⟩, hk.trans (KX.of_below hb ?_)⟩
  have := h5.lt
  omega

theorem fix_map {X pre : List (Nat × Int × Int)} (h : pre <+: X) : pre.map (fixC X) = pre := by
  have : ∀ x ∈ pre, fixC X x = id x := fun x hx => by rw [fixC_mem (h.subset hx)]; rfl
  rw [List.map_congr_left this, List.map_id]

theorem chk_not {size : Int} {rs : List Rk} {evs : List Ev} {lss : List (List (List UInt8))} {X pre : List (Nat × Int × Int)} (h : pre <+: X) (hn : Hid (¬ ∃ m, RunP size rs lss (pre.map (fixC X)) evs m)) : ¬ Good size rs lss X evs := by
  rintro ⟨_, _, _, hg⟩
  have hn' := hn.out
  rw [fix_map h] at hn'
  obtain ⟨rest, hr⟩ := h
  rw [← hr] at hg
  obtain ⟨m, hm, _⟩ := (RunP.app _ _ _ _).1 hg
  exact hn' ⟨m, hm⟩

set_option maxRecDepth 100000 in
set_option maxHeartbeats 8000000 in
theorem check19_any (size ix lm : Int) (rv ev lv : Value) (rs : List Rk) (evs : List Ev) (lss : List (List (List UInt8))) (w : World) (hr0 : KA w rv rs) (hev : EA w ev evs) (hls : GA PA w lv lss) (hT : Tabs w) (hrn : rs.length ≤ 1000) (hen : evs.length ≤ 1000000) (hrc : ∀ r ∈ rs, -9223372036854775808 ≤ r.c ∧ r.c ≤ 9223372036854775807) (hix : -9223372036854775808 ≤ ix ∧ ix ≤ 9223372036854775807) (hlm : -9223372036854775808 ≤ lm ∧ lm ≤ 9223372036854775807) :
    Calls Tryd.prog 15 #[.int .i64 size, rv, .int .i64 ix, .int .i64 lm, ev, lv] w fun e w' => ∃ z : Int, e = .returned (.int .i64 z) ∧ ((z = 0 ∧ Hid (Good size rs lss (cutsG 0 (cntK rs) ix lm) evs)) ∨ (z = 95 ∧ Hid (¬ Good size rs lss (cutsG 0 (cntK rs) ix lm) evs))) ∧ Below w.heap.size w w' := by
  obtain ⟨p, c, rfl⟩ := hr0.shape
  obtain ⟨pe, ce, rfl⟩ := hev.shape
  obtain ⟨pg, cg, rfl⟩ := hls.shape
  have hgm := hls.len.2
  unfold maxLen at hgm
  obtain ⟨j0, hj0, hy0, hy1, hy2⟩ := info_parts (show (Tryd.prog.info? 3).map (fun i => (i.zero, i.size, i.bytes)) = some (some (.int .i64 0), 1, 8) by kernel_rfl)
  have hwk : ∀ x ∈ cntK rs, -9223372036854775808 ≤ x ∧ x ≤ 9223372036854775807 := fun x hx => by
    unfold cntK at hx
    obtain ⟨r, hr, rfl⟩ := List.mem_map.1 hx
    exact hrc r hr
  have HW : Hid (∀ x ∈ cntK rs, -9223372036854775808 ≤ x ∧ x ≤ 9223372036854775807) := hwk
  have HRc : Hid (∀ r ∈ rs, -9223372036854775808 ≤ r.c ∧ r.c ≤ 9223372036854775807) := hrc
  have HXl : Hid ((cutsG 0 (cntK rs) ix lm).length ≤ rs.length) := by show _ ≤ _; rw [← cntK_len rs]; exact cutsG_len _ _ _ _
  have HM : Hid (∀ x ∈ cutsG 0 (cntK rs) ix lm, x.1 < rs.length) := fun x hx => by have := cutsG_mem _ _ _ x hx; rwa [cntK_len] at this
  have HRg : Hid (∀ x ∈ cutsG 0 (cntK rs) ix lm, 0 ≤ x.2.1 ∧ x.2.1 < x.2.2 ∧ x.2.2 ≤ 9223372036854775807) := cutsG_range _ _ _ _ fun x hx => (hwk x hx).2
  have HCL : Hid ((cntK rs).length = rs.length) := cntK_len rs
  clear hwk hrc
  have x0 := ((((Boxed.new w 3 (.int .i64 size)).alloc (.cells #[.slice p rs.length c] 37)).alloc (.cells #[.slice pe evs.length ce] 38)).alloc (.cells #[.slice pg lss.length cg] 25)).alloc (.cells #[.int .i64 0] 42)
  have x1 := (((Boxed.new (w.alloc (.cells #[.int .i64 size] 3)) 37 (.slice p rs.length c)).alloc (.cells #[.slice pe evs.length ce] 38)).alloc (.cells #[.slice pg lss.length cg] 25)).alloc (.cells #[.int .i64 0] 42)
  have x2 := ((Boxed.new ((w.alloc (.cells #[.int .i64 size] 3)).alloc (.cells #[.slice p rs.length c] 37)) 38 (.slice pe evs.length ce)).alloc (.cells #[.slice pg lss.length cg] 25)).alloc (.cells #[.int .i64 0] 42)
  have x3 := (Boxed.new (((w.alloc (.cells #[.int .i64 size] 3)).alloc (.cells #[.slice p rs.length c] 37)).alloc (.cells #[.slice pe evs.length ce] 38)) 25 (.slice pg lss.length cg)).alloc (.cells #[.int .i64 0] 42)
  have x4 := Boxed.new ((((w.alloc (.cells #[.int .i64 size] 3)).alloc (.cells #[.slice p rs.length c] 37)).alloc (.cells #[.slice pe evs.length ce] 38)).alloc (.cells #[.slice pg lss.length cg] 25)) 42 (.int .i64 0)
  have a1 := (Below.refl w.heap.size w).alloc (Nat.le_refl _) (.cells #[.int .i64 size] 3)
  have a2 := a1.alloc a1.size (.cells #[.slice p rs.length c] 37)
  have a3 := a2.alloc a2.size (.cells #[.slice pe evs.length ce] 38)
  have a4 := a3.alloc a3.size (.cells #[.slice pg lss.length cg] 25)
  have b5 := a4.alloc a4.size (.cells #[.int .i64 0] 42)
  have s5 : (((((w.alloc (.cells #[.int .i64 size] 3)).alloc (.cells #[.slice p rs.length c] 37)).alloc (.cells #[.slice pe evs.length ce] 38)).alloc (.cells #[.slice pg lss.length cg] 25)).alloc (.cells #[.int .i64 0] 42)).heap.size = w.heap.size + 5 := by simp
  simp only [World.size_alloc] at x1 x2 x3 x4
  obtain ⟨w5, hw5⟩ : ∃ w5, ((((w.alloc (.cells #[.int .i64 size] 3)).alloc (.cells #[.slice p rs.length c] 37)).alloc (.cells #[.slice pe evs.length ce] 38)).alloc (.cells #[.slice pg lss.length cg] 25)).alloc (.cells #[.int .i64 0] 42) = w5 := ⟨_, rfl⟩
  rw [hw5] at x0 x1 x2 x3 x4 b5 s5
  clear a1 a2 a3 a4
  have d1 := x1.cell
  have d3 := x3.cell
  have d4 := x4.cell
  have f4 := x4.frozen
  refine (callsIn_wide (n := 6)).1 ?_
  refine callsIn_of_wp_marks Tryd.func15 rfl trivial ?_ rfl
  simp only [Tryd.ntmps15, List.size_toArray, List.length_cons, List.length_nil, Nat.reduceAdd, Nat.reduceSub, Array.replicate_succ, Array.replicate_zero, List.push_toArray, List.append_toArray, List.nil_append, List.cons_append]
  refine wpIn_wide.2 ?_
  by_cases z3 : lss.length = rs.length
  · have q3 : ((lss.length : Int) != (rs.length : Int)) = false := by simp [z3]
    have HL : Hid (lss.length = rs.length) := z3
    clear z3
    go_wp2_with (first | (at_make; refine wpList_make_full _ rfl _ _ 22 rfl (w.heap.size + 5) 3 j0 (.int .i64 0) 1 Tryd.underlying22 hj0 hy0 hy1 .i64 .i64 _ _ rs.length rfl rfl ?_ ?_ ?_ ?_ ?_ ?_))
    all_goals (try (first | omega | (unfold maxLen; omega) | (rw [hy2]; omega) | (rw [s5]; omega)))
    intro w6 hown6 hgrow6
    (try rw [hw5] at hgrow6)
    have b6 : Below (w.heap.size + 5) w5 w6 := (Below.refl _ w5).grown hgrow6 (by rw [s5]; omega) (by intro k hk; cases hk)
    have q6 : ∃ vs : List Value, w6.ownsRow (w.heap.size + 5) 3 1 (.slice (some ⟨w.heap.size + 5, 0, none⟩) rs.length rs.length) rs.length vs ∧ ∀ j, j < 0 → vs[j]? = (izs (cntK rs))[j]? := ⟨_, hown6, fun j hj => by omega⟩
    have e6 : w6.cell? ⟨w.heap.size + 1, 0, none⟩ = some (.slice p rs.length c) := by rw [cell_of_row _ _ _ _ _ _ ((b6.block _ (by omega)).trans x1)]; rfl
    clear hown6 hgrow6
    go_wp2
    go_loopw [15, 30] (fun _ i wr => ∃ k : Nat, k ≤ rs.length ∧ i = .int .i64 (k : Int) ∧ (∃ vs : List Value, wr.ownsRow (w.heap.size + 5) 3 1 (.slice (some ⟨w.heap.size + 5, 0, none⟩) rs.length rs.length) rs.length vs ∧ ∀ j, j < k → vs[j]? = (izs (cntK rs))[j]?) ∧ Below (w.heap.size + 5) w5 wr) (fun _ i _ => rs.length - (intOf i).toNat)
    case atStart => exact ⟨0, Nat.zero_le _, rfl, q6, b6⟩
    case round =>
      obtain ⟨k, hk, rfl, ⟨vs, oR, qR⟩, hbe⟩ := hrel
      have hsz := hbe.size
      by_cases hlt : k < rs.length
      · obtain ⟨bl, o, rfl⟩ := hr0.addr (by omega)
        obtain ⟨r, t, tp, tn, tc, lp, lc, kp, kn, kc, hx, hkc⟩ := hr0.get k hlt
        obtain ⟨⟨c0, c1, c2, c3, c4, c5⟩, _⟩ := hkc.later (b5.trans (hbe.mono (by omega)))
        have hlt2 : (k : Int) < (rs.length : Int) := by omega
        have hgt : Hid ((izs (cntK rs))[k]? = some (.int .i64 r.c)) := by
          show _ = _
          unfold izs cntK
          rw [List.getElem?_map, List.getElem?_map, hx.out]
          rfl
        obtain ⟨C, hC⟩ : ∃ C, wr.alloc (.cells #[.int .i64 r.e, .int .i64 t, .slice tp tn tc, .int .i64 r.c, .slice lp r.li.length lc, .slice kp kn kc] 41) = C := ⟨_, rfl⟩
        have bC := (Below.refl wr.heap.size wr).alloc (Nat.le_refl _) (.cells #[.int .i64 r.e, .int .i64 t, .slice tp tn tc, .int .i64 r.c, .slice lp r.li.length lc, .slice kp kn kc] 41)
        have gC := heap_alloc_new wr (.cells #[.int .i64 r.e, .int .i64 t, .slice tp tn tc, .int .i64 r.c, .slice lp r.li.length lc, .slice kp kn kc] 41)
        have hbC := hbe.alloc (by omega) (.cells #[.int .i64 r.e, .int .i64 t, .slice tp tn tc, .int .i64 r.c, .slice lp r.li.length lc, .slice kp kn kc] 41)
        rw [hC] at bC gC hbC
        have f3 : C.cell? ⟨wr.heap.size, 3, none⟩ = some (.int .i64 r.c) := by rw [cell_of_row _ _ _ _ _ _ gC]; rfl
        have oC := owns_later oR bC
        have hl := oC.1
        rw [Nat.mul_one] at hl
        have cy := oC.cellAt k (by omega)
        obtain ⟨z0, hz0'⟩ : ∃ z, vs[k]? = some z := ⟨_, List.getElem?_eq_getElem (by omega)⟩
        rw [hz0'] at cy
        have fy := oC.frozenAt k
        have oS := (oC.stored k (.int .i64 r.c)).1
        have QS : Hid (∀ j, j < k + 1 → (vs.set k (.int .i64 r.c))[j]? = (izs (cntK rs))[j]?) := by
          intro j hj
          by_cases hjk : k = j
          · subst hjk
            rw [List.getElem?_set_self (by omega), hgt.out]
          · rw [List.getElem?_set_ne hjk]
            exact qR j (by omega)
        have hb7 : Below (w.heap.size + 5) w5 (C.setCell ⟨w.heap.size + 5, k, none⟩ (.int .i64 r.c)) := hbC.setCell (Nat.le_refl _) _
        generalize r.c = rc at *
        clear hx hkc hgt hl q6 hz0' qR oR oC gC e6
        go_wp2
        go_roundw
        case rel => exact ⟨k + 1, by omega, by go_num, ⟨_, oS, QS.out⟩, hb7⟩
        case measure => simp [intOf]; omega
      · obtain rfl : k = rs.length := by omega
        have hl := oR.1
        rw [Nat.mul_one] at hl
        have evl : vs = izs (cntK rs) := by
          apply List.ext_getElem?
          intro i
          by_cases hi : i < rs.length
          · exact qR i hi
          · rw [List.getElem?_eq_none (by omega), List.getElem?_eq_none (by rw [izs_len, HCL.out]; omega)]
        rw [evl] at oR
        have hiz := IZ.of_owns oR
        have bL : Below w.heap.size w wr := b5.trans (hbe.mono (by omega))
        have hsz2 : w.heap.size + 5 < wr.heap.size := by
          rcases oR.2 with ⟨q, _⟩ | ⟨g, cap, cur, q, _, hgb, _⟩
          · cases q
          · simp only [Value.slice.injEq, Option.some.injEq, Addr.mk.injEq, and_true] at q
            obtain ⟨⟨rfl, _⟩, _⟩ := q
            exact (Array.getElem?_eq_some_iff.1 hgb).1
        have g0 : Boxed wr w.heap.size 3 (.int .i64 size) := (hbe.block _ (by omega)).trans x0
        have g1 : Boxed wr (w.heap.size + 1) 37 (.slice p rs.length c) := (hbe.block _ (by omega)).trans x1
        have g2 : Boxed wr (w.heap.size + 1 + 1) 38 (.slice pe evs.length ce) := (hbe.block _ (by omega)).trans x2
        have g3 : Boxed wr (w.heap.size + 1 + 1 + 1) 25 (.slice pg lss.length cg) := (hbe.block _ (by omega)).trans x3
        have g4 : Boxed wr (w.heap.size + 1 + 1 + 1 + 1) 42 (.int .i64 0) := (hbe.block _ (by omega)).trans x4
        clear qR evl hl q6 hbe b5 b6 x0 x1 x2 x3 x4 hw5 s5 d1 d3 d4 f4 e6 q3 hj0 hy0 hy1 hy2
        obtain ⟨wL, hwL⟩ : ∃ wL, wL = wr := ⟨_, rfl⟩
        subst hwL
        have bb1 := (Below.refl wL.heap.size wL).alloc (Nat.le_refl _) (.cells #[.int .i64 0] 3)
        have bP := Boxed.new wL 3 (.int .i64 0)
        have sP : (wL.alloc (.cells #[.int .i64 0] 3)).heap.size = wL.heap.size + 1 := by simp
        obtain ⟨wP, hwP⟩ : ∃ wP, wL.alloc (.cells #[.int .i64 0] 3) = wP := ⟨_, rfl⟩
        rw [hwP] at bP bb1 sP
        have hS := seq_any (.slice (some ⟨w.heap.size + 5, 0, none⟩) rs.length rs.length) ix lm wP (some ⟨w.heap.size + 5, 0, none⟩) rs.length rs.length rfl
        have bb2 := cuW_below wP (.slice (some ⟨w.heap.size + 5, 0, none⟩) rs.length rs.length) ix lm
        obtain ⟨k0, k1, k2⟩ := cuW_cells wP (.slice (some ⟨w.heap.size + 5, 0, none⟩) rs.length rs.length) ix lm
        have ss2 := cuW_size wP (.slice (some ⟨w.heap.size + 5, 0, none⟩) rs.length rs.length) ix lm
        rw [sP] at hS k0 k1 k2 ss2
        generalize cuW wP (.slice (some ⟨w.heap.size + 5, 0, none⟩) rs.length rs.length) ix lm = W0 at *
        have bP2 : Boxed W0 wL.heap.size 3 (.int .i64 0) := (bb2.block _ (by omega)).trans bP
        have hB0 : Below wL.heap.size wL W0 := bb1.trans (bb2.mono (by omega))
        have oW0 := owns_later oR hB0
        have hseq := cuts_stopsK (KX wL.heap.size (w.heap.size + 1 + 1) (w.heap.size + 1 + 1 + 1 + 1)) (fun W => W.ownsRow (w.heap.size + 5) 3 1 (.slice (some ⟨w.heap.size + 5, 0, none⟩) rs.length rs.length) rs.length (izs (cntK rs))) (fun x => encC (fixC (cutsG 0 (cntK rs) ix lm) x)) 5 (wL.heap.size + 1) (.slice (some ⟨w.heap.size + 5, 0, none⟩) rs.length rs.length) (cntK rs) ix lm W0 (by omega) hix hlm HW.out k0 k1 k2 wL hiz (fun W h => IZ.of_owns h) (fun W h => owns_later oW0 h.drew) (fun A B h hk => ownsRow_blk h (hk.block _ hsz2 (by omega) (by omega))) (fun x hx => by rw [fixC_mem hx])
        obtain ⟨X, hXX⟩ : ∃ X, cutsG 0 (cntK rs) ix lm = X := ⟨_, rfl⟩
        rw [hXX] at hseq HXl HM HRg
        have HXX : Hid (cutsG 0 (cntK rs) ix lm = X) := hXX
        clear hXX
        obtain ⟨B, hBB⟩ : ∃ B, B = wL.heap.size := ⟨_, rfl⟩
        have HBE : Hid (B = wL.heap.size) := hBB
        rw [← hBB] at hS bP2 hseq sP ss2
        have HWP : Hid (wL.alloc (.cells #[.int .i64 0] 3) = wP) := hwP
        clear hiz bb1 bb2 k0 k1 k2 hix hlm bP oW0 HW HCL hwP hBB
        go_wp2_with fail
        (try rw [HWP.out])
        (try rw [← HBE.out])
        refine hS.mono ?_
        rintro e8 w8 ⟨rfl, rfl⟩
        clear hS
        go_wp2
        refine (wpIn_wide (n := 6)).1 ?_
        have hBw : w.heap.size + 5 < B := by have := HBE.out; omega
        refine wpIn_rangeFunc_ownH (F := Fence.wide) (n := 6) rfl (by omega) (gf := 32) (lb := #[.pointer (some ⟨B + 1 + 1, 0, none⟩), .pointer (some ⟨B + 1 + 2, 0, none⟩), .pointer (some ⟨B + 1, 0, none⟩)]) rfl trivial (enters_of Tryd.func32 (by kernel_rfl) rfl)
          hseq (fun h k => KX.trans h k) (fun W l o o' hl h ho hw => KX.of_below (belowK_b (w := w8) (n₀ := B) (by omega) W l o o' hl h ho hw) (Nat.le_refl _)) (Below.refl _ _) (fun _ => rfl)
          (chkI size rs evs lss w X B (w.heap.size + 1 + 1) (w.heap.size + 1 + 1 + 1 + 1) wL)
          (chkX size rs evs lss X B (w.heap.size + 1 + 1) (w.heap.size + 1 + 1 + 1 + 1) wL)
          (chkI_own size rs evs lss w X B (w.heap.size + 1 + 1) (w.heap.size + 1 + 1 + 1 + 1) wL w8.heap.size HBE.out (by omega))
          (fun c => chkX_own size rs evs lss X B (w.heap.size + 1 + 1) (w.heap.size + 1 + 1 + 1 + 1) wL w8.heap.size c HBE.out (by omega))
          ⟨⟨evs, pe, ce, (hB0.block _ g2.lt).trans g2, hev, hen, rfl, bP2, (hB0.block _ g4.lt).trans g4⟩, KX.of_below hB0 (by rw [HBE.out]; exact Nat.le_refl _)⟩
          (fun x a' W => ∃ Bx, B < Bx ∧ W.heap[Bx]? = some (.cells #[.int .i64 (fixC X x).2.1, .int .i64 (fixC X x).2.2] 30 (0, 0)) ∧ a' = { tmps := #[.int .i64 size, .slice p rs.length c, .int .i64 ix, .int .i64 lm, .slice pe evs.length ce, .slice pg lss.length cg, .pointer (some ⟨w.heap.size, 0, none⟩), .pointer (some ⟨w.heap.size + 1, 0, none⟩), undef, undef, .pointer (some ⟨w.heap.size + 1 + 1, 0, none⟩), .pointer (some ⟨w.heap.size + 1 + 1 + 1, 0, none⟩), .pointer (some ⟨w.heap.size + 1 + 1 + 1 + 1, 0, none⟩), .slice (some ⟨w.heap.size + 5, 0, none⟩) rs.length rs.length, u14, u15, .pointer (some ⟨B, 0, none⟩), .int .i64 ((fixC X x).1 : Int), .pointer (some ⟨Bx, 0, none⟩), undef, .slice pg lss.length cg, .int .i64 (lss.length : Int), .slice p rs.length c, .int .i64 (rs.length : Int), .bool false, .slice p rs.length c, .int .i64 (rs.length : Int), .slice (some ⟨w.heap.size + 5, 0, none⟩) rs.length rs.length, .slice p rs.length c, .int .i64 (rs.length : Int), .int .i64 (rs.length : Int), .bool false, u32, u33, u34, u35, u36, u37, u38, u39, u40, .slice (some ⟨w.heap.size + 5, 0, none⟩) rs.length rs.length, .int .i64 ix, .int .i64 lm, .func (.func 32) #[] #[.pointer (some ⟨B + 1 + 1, 0, none⟩), .pointer (some ⟨B + 1 + 2, 0, none⟩), .pointer (some ⟨B + 1, 0, none⟩)], .int .i64 ((fixC X x).1 : Int), .agg #[.int .i64 (fixC X x).2.1, .int .i64 (fixC X x).2.2], undef, undef, undef, undef, undef, undef, undef, undef, undef, undef, undef, undef, undef, undef, undef, undef, undef, undef, undef, undef, undef, undef, undef, undef, undef, undef, undef, undef, undef, undef, undef, undef, undef, undef, undef, undef, undef, undef, undef, undef, undef, undef, undef, undef, undef], defers := [] })
          ?hax ?assign ?body ?done ?stop
        case hax =>
          rintro x a' s A A' row ⟨Bx, h1, h2, h3⟩ hg hr
          refine ⟨Bx, h1, ?_, h3⟩
          refine (hg.block Bx (Array.getElem?_eq_some_iff.1 h2).1 fun e => ?_).trans h2
          obtain ⟨_, o, ho, hc⟩ := hr Bx e.symm
          rw [h2] at ho
          cases ho
          cases hc
        case assign =>
          rintro l pre x W K hI0 hK
          have hI := hI0
          obtain ⟨_, hkx⟩ := hI0
          have hsz : B ≤ W.heap.size := by have := hkx.size; have := HBE.out; omega
          have hBlt : B < W.heap.size := by
            obtain ⟨⟨_, _, _, _, _, _, _, hb, _⟩, _⟩ := hI
            exact hb.lt
          dsimp only at hK ⊢
          generalize fixC X x = z at *
          have hn := heap_alloc_new W (.cells #[.int .i64 z.2.1, .int .i64 z.2.2] 30)
          have hbx := (Below.refl W.heap.size W).alloc (Nat.le_refl _) (.cells #[.int .i64 z.2.1, .int .i64 z.2.2] 30)
          have hK' := hK { tmps := #[.int .i64 size, .slice p rs.length c, .int .i64 ix, .int .i64 lm, .slice pe evs.length ce, .slice pg lss.length cg, .pointer (some ⟨w.heap.size, 0, none⟩), .pointer (some ⟨w.heap.size + 1, 0, none⟩), undef, undef, .pointer (some ⟨w.heap.size + 1 + 1, 0, none⟩), .pointer (some ⟨w.heap.size + 1 + 1 + 1, 0, none⟩), .pointer (some ⟨w.heap.size + 1 + 1 + 1 + 1, 0, none⟩), .slice (some ⟨w.heap.size + 5, 0, none⟩) rs.length rs.length, u14, u15, .pointer (some ⟨B, 0, none⟩), .int .i64 (z.1 : Int), .pointer (some ⟨W.heap.size, 0, none⟩), undef, .slice pg lss.length cg, .int .i64 (lss.length : Int), .slice p rs.length c, .int .i64 (rs.length : Int), .bool false, .slice p rs.length c, .int .i64 (rs.length : Int), .slice (some ⟨w.heap.size + 5, 0, none⟩) rs.length rs.length, .slice p rs.length c, .int .i64 (rs.length : Int), .int .i64 (rs.length : Int), .bool false, u32, u33, u34, u35, u36, u37, u38, u39, u40, .slice (some ⟨w.heap.size + 5, 0, none⟩) rs.length rs.length, .int .i64 ix, .int .i64 lm, .func (.func 32) #[] #[.pointer (some ⟨B + 1 + 1, 0, none⟩), .pointer (some ⟨B + 1 + 2, 0, none⟩), .pointer (some ⟨B + 1, 0, none⟩)], .int .i64 (z.1 : Int), .agg #[.int .i64 z.2.1, .int .i64 z.2.2], undef, undef, undef, undef, undef, undef, undef, undef, undef, undef, undef, undef, undef, undef, undef, undef, undef, undef, undef, undef, undef, undef, undef, undef, undef, undef, undef, undef, undef, undef, undef, undef, undef, undef, undef, undef, undef, undef, undef, undef, undef, undef, undef, undef, undef], defers := [] } (W.alloc (.cells #[.int .i64 z.2.1, .int .i64 z.2.2] 30)) ((KeepsOthers.alloc _ _).from _) (KX.of_below hbx (by omega)) (chkI_later hI hbx) ⟨W.heap.size, hBlt, hn, rfl⟩
          clear hK hn hbx hI hkx
          dsimp only [encC]
          gi_wp2
          exact hK'
        case stop =>
          rintro D cc pre W hD hpre ⟨⟨rfl, hng, hb4⟩, hkx⟩ hK
          have HN : Hid (¬ Good size rs lss (cutsG 0 (cntK rs) ix lm) evs) := by show ¬ _; rw [HXX.out]; exact chk_not hpre hng
          have hc5 := cell_kept hb4.cell (grownBy_putObj' _ D (.deferred none)) (fun r e => by cases e; exact ⟨_, hK, rfl⟩)
          have hb9 := (KX.below bL hkx (by have := HBE.out; have := bL.size; omega) (by omega) (by omega)).trans (belowK_b (w := w) (Nat.le_refl _) W D _ (.deferred none) (by have := hB0.size; have := bL.size; omega) hK rfl rfl)
          clear hng hpre hkx hb4 hseq hB0 bP2
          gi_wp2
          refine ⟨by simp, .inl ⟨_, _, rfl, run_takeDeferred hK, ?_⟩⟩
          refine ⟨.int .i64 95, ?_, 95, rfl, .inr ⟨rfl, HN⟩, hb9⟩
          simp only [results, Tryd.results15]
          go_simp
        case body =>
          rintro l pre x a' W hl hr1 ⟨⟨cur, pv, cv, h2, hE, hcl, HR, hb, h4⟩, hkx⟩ ⟨Bx, hBx, hbx, rfl⟩ hlt
          have hzin := fixC_in x (show 0 < X.length by omega)
          have hzb := HM.out _ hzin
          obtain ⟨y1, y2, y3⟩ := HRg.out _ hzin
          have hpx : pre.length ≤ 1000 := by have := HXl.out; omega
          have HMp : Hid ((pre ++ [x]).map (fixC X) = pre.map (fixC X) ++ [fixC X x]) := by show _ = _; simp
          have hlz : (fixC X x).1 < lss.length := by have := HL.out; omega
          obtain ⟨bl, o, rfl⟩ := hr0.addr (by omega)
          obtain ⟨r, t, tp, tn, tc, lp, lc, kp, kn, kc, hrx, hkc⟩ := hr0.get (fixC X x).1 hzb
          obtain ⟨gb, go, rfl⟩ := hls.addr (by omega)
          obtain ⟨ls, ul, hlx, cL, hPL⟩ := hls.get (fixC X x).1 hlz
          obtain ⟨pl, cl, rfl⟩ := hPL.shape
          have hrm := HRc.out r (List.mem_of_getElem? hrx.out)
          have hrd : rs.getD (fixC X x).1 ⟨0, 0, []⟩ = r := by rw [List.getD_eq_getElem?_getD, hrx.out]; rfl
          have hld : lss.getD (fixC X x).1 [] = ls := by rw [List.getD_eq_getElem?_getD, hlx.out]; rfl
          obtain ⟨n, hn⟩ : ∃ n, cutN (fixC X x) = n := ⟨_, rfl⟩
          have hto : (fixC X x).2.2 = (fixC X x).2.1 + (n : Int) := by rw [← hn]; unfold cutN; omega
          have HSt : Hid ((n ≤ cur.length ∧ Sh size r (fixC X x).2.1 (cur.take n) ls) ↔ Stp size rs lss (fixC X x) cur) := by
            show _ ↔ _
            unfold Stp
            rw [hrd, hld, hn]
          have HNo : Hid ((¬ (n ≤ cur.length ∧ Sh size r (fixC X x).2.1 (cur.take n) ls)) → ¬ ∃ m, RunP size rs lss ((pre ++ [x]).map (fixC X)) evs m) := fun h => by
            rw [HMp.out]
            exact RunP.stop HR.out (fun q => h (HSt.out.2 q))
          have HYes : Hid ((n ≤ cur.length ∧ Sh size r (fixC X x).2.1 (cur.take n) ls) → RunP size rs lss ((pre ++ [x]).map (fixC X)) evs (cur.drop n)) := fun h => by
            rw [HMp.out, ← hn]
            exact RunP.snoc HR.out (HSt.out.1 h)
          obtain ⟨fr, hfr⟩ : ∃ fr, (fixC X x).2.1 = fr := ⟨_, rfl⟩
          obtain ⟨to, htt⟩ : ∃ to, (fixC X x).2.2 = to := ⟨_, rfl⟩
          obtain ⟨zi, hzi⟩ : ∃ zi, (fixC X x).1 = zi := ⟨_, rfl⟩
          simp only [hfr, htt, hzi] at hto y1 y2 y3 hbx hkc cL HNo HYes hzb hlz ⊢
          have hkz : (zi : Int) < (rs.length : Int) := by omega
          have hkl : (zi : Int) < (lss.length : Int) := by omega
          have hsub : to - fr = (n : Int) := by omega
          have hn9 : (n : Int) ≤ 9223372036854775807 := by omega
          have hElen := hE.len
          have hcv : cur.length ≤ cv := hElen.2.1
          have bwL : Below w.heap.size w W := KX.below bL hkx (by have := HBE.out; have := bL.size; omega) (by omega) (by omega)
          have HSh0 : n ≤ cur.length → Hid (∀ V, Below W.heap.size W V → Calls Tryd.prog 28 #[.int .i64 size, .agg #[.int .i64 r.e, .int .i64 t, .slice tp tn tc, .int .i64 r.c, .slice lp r.li.length lc, .slice kp kn kc], .int .i64 fr, .slice pv n cv, .slice pl ls.length cl] V fun x w' => ∃ B, x = .returned (.bool B) ∧ Hid (B = true ↔ Sh size r fr (cur.take n) ls) ∧ Below V.heap.size V w') :=
            fun hnc V hV => by
              have hwV := bwL.trans (hV.mono bwL.size)
              have htl : (cur.take n).length = n := by simp; omega
              exact shown_any size fr t r tp tn tc lp lc kp kn kc _ _ (cur.take n) ls V ((hE.take n hnc).later hwV) (hPL.later hwV) (hkc.2.later hwV) (hT.later hwV) (by rw [htl]; omega) y1 (by rw [htl]; omega) hrm
          have ltX : Bx < W.heap.size := (Array.getElem?_eq_some_iff.1 hbx).1
          have hBlt := hb.lt
          have hBe := HBE.out
          have o0 : Boxed W w.heap.size 3 (.int .i64 size) := (hkx.block _ (by omega) (by omega) (by omega)).trans g0
          have o1 : Boxed W (w.heap.size + 1) 37 (.slice (some ⟨bl, o, none⟩) rs.length c) := (hkx.block _ (by omega) (by omega) (by omega)).trans g1
          have o3 : Boxed W (w.heap.size + 1 + 1 + 1) 25 (.slice (some ⟨gb, go, none⟩) lss.length cg) := (hkx.block _ (by omega) (by omega) (by omega)).trans g3
          have hcells : ∀ V, Below W.heap.size W V → V.cell? ⟨w.heap.size, 0, none⟩ = some (.int .i64 size) ∧ V.cell? ⟨w.heap.size + 1, 0, none⟩ = some (.slice (some ⟨bl, o, none⟩) rs.length c) ∧ V.cell? ⟨w.heap.size + 1 + 1, 0, none⟩ = some (.slice pv cur.length cv) ∧ V.cell? ⟨w.heap.size + 1 + 1 + 1, 0, none⟩ = some (.slice (some ⟨gb, go, none⟩) lss.length cg) ∧ V.cell? ⟨bl, o + zi * 6, none⟩ = some (.int .i64 r.e) ∧ V.cell? ⟨bl, o + zi * 6 + 1, none⟩ = some (.int .i64 t) ∧ V.cell? ⟨bl, o + zi * 6 + 2, none⟩ = some (.slice tp tn tc) ∧ V.cell? ⟨bl, o + zi * 6 + 3, none⟩ = some (.int .i64 r.c) ∧ V.cell? ⟨bl, o + zi * 6 + 4, none⟩ = some (.slice lp r.li.length lc) ∧ V.cell? ⟨bl, o + zi * 6 + 5, none⟩ = some (.slice kp kn kc) ∧ V.cell? ⟨Bx, 0, none⟩ = some (.int .i64 fr) ∧ V.cell? ⟨gb, go + zi, none⟩ = some (.slice pl ls.length cl) := fun V hV => by
            have hwV := bwL.trans (hV.mono bwL.size)
            obtain ⟨⟨a0, a1, a2, a3, a4, a5⟩, _⟩ := hkc.later hwV
            exact ⟨cell_later hV o0.cell, cell_later hV o1.cell, cell_later hV h2.cell, cell_later hV o3.cell, a0, a1, a2, a3, a4, a5, by rw [cell_of_row _ _ _ _ _ _ ((hV.block _ ltX).trans hbx)]; rfl, cell_later hwV cL⟩
          have cX0 : W.cell? ⟨Bx, 0, none⟩ = some (.int .i64 fr) := by rw [cell_of_row _ _ _ _ _ _ hbx]; rfl
          have cX1 : W.cell? ⟨Bx, 1, none⟩ = some (.int .i64 to) := by rw [cell_of_row _ _ _ _ _ _ hbx]; rfl
          clear hBe hrx hlx hrd hld hn hto HSt hfr htt hzi hPL hkc cL hzin HM HRg HXl HL HRc HMp HR hrm hElen hr0 hls hseq oR hlt
          gi_wp2
          have bD : Below W.heap.size W W.drew := (Below.refl _ W).drew
          have hHeld := hcells W.drew bD
          refine wpIn_region_heldN (by kernel_rfl) (by rintro ⟨_, _, h⟩; exact h) (by kernel_rfl) (fun W => W.cell? ⟨w.heap.size, 0, none⟩ = some (.int .i64 size) ∧ W.cell? ⟨w.heap.size + 1, 0, none⟩ = some (.slice (some ⟨bl, o, none⟩) rs.length c) ∧ W.cell? ⟨w.heap.size + 1 + 1, 0, none⟩ = some (.slice pv cur.length cv) ∧ W.cell? ⟨w.heap.size + 1 + 1 + 1, 0, none⟩ = some (.slice (some ⟨gb, go, none⟩) lss.length cg) ∧ W.cell? ⟨bl, o + zi * 6, none⟩ = some (.int .i64 r.e) ∧ W.cell? ⟨bl, o + zi * 6 + 1, none⟩ = some (.int .i64 t) ∧ W.cell? ⟨bl, o + zi * 6 + 2, none⟩ = some (.slice tp tn tc) ∧ W.cell? ⟨bl, o + zi * 6 + 3, none⟩ = some (.int .i64 r.c) ∧ W.cell? ⟨bl, o + zi * 6 + 4, none⟩ = some (.slice lp r.li.length lc) ∧ W.cell? ⟨bl, o + zi * 6 + 5, none⟩ = some (.slice kp kn kc) ∧ W.cell? ⟨Bx, 0, none⟩ = some (.int .i64 fr) ∧ W.cell? ⟨gb, go + zi, none⟩ = some (.slice pl ls.length cl)) 22 rfl ?_
          refine tkY 0 ⟨some 52, .move (.tmp 19), 3, "feed.go:66", #[], none⟩ ?v0z1 hHeld ?y0z1 ?r0z1
          case y0z1 => (intro w hSw; (try dsimp only at hSw); go_simp) <;> with_reducible rfl
          try simp only [Act.put, List.setIfInBounds_toArray, List.set_cons_zero, List.set_cons_succ]
          refine tkY 1 ⟨some 53, .load 38 (.tmp 10), 38, "feed.go:66", #[], none⟩ ?v1z2 hHeld ?y1z2 ?r1z2
          case y1z2 => (intro w hSw; (try dsimp only at hSw); go_simp) <;> with_reducible rfl
          try simp only [Act.put, List.setIfInBounds_toArray, List.set_cons_zero, List.set_cons_succ]
          refine tkY 2 ⟨some 54, .call { callee := .builtin .len, args := #[.tmp 53], argTypes := #[38] }, 3, "feed.go:66", #[⟨1, .data⟩], none⟩ ?v2z3 hHeld ?y2z3 ?r2z3
          case y2z3 => (intro w hSw; (try dsimp only at hSw); go_simp) <;> with_reducible rfl
          try simp only [Act.put, List.setIfInBounds_toArray, List.set_cons_zero, List.set_cons_succ]
          by_cases hc3 : cur.length < n
          · have hg1 : (cur.length : Int) < (n : Int) := by omega
            refine tkY 3 ⟨some 55, .binOp .gtr 3 (.tmp 52) (.tmp 54) 3, 4, "feed.go:66", #[⟨0, .data⟩, ⟨2, .data⟩], none⟩ ?v3z4 hHeld ?y3z4 ?r3z4
            case y3z4 => (intro w hSw; (try dsimp only at hSw); go_simp) <;> with_reducible rfl
            try simp only [Act.put, List.setIfInBounds_toArray, List.set_cons_zero, List.set_cons_succ]
            refine tkY 4 ⟨some 56, .move (.tmp 55), 4, "feed.go:66", #[⟨3, .data⟩], none⟩ ?v4z5 hHeld ?y4z5 ?r4z5
            case y4z5 => (intro w hSw; (try dsimp only at hSw); go_simp) <;> with_reducible rfl
            try simp only [Act.put, List.setIfInBounds_toArray, List.set_cons_zero, List.set_cons_succ]
            refine tkN 5 ⟨some 57, .load 3 (.tmp 6), 3, "feed.go:66", #[⟨4, .guard⟩], some (4, false)⟩ hHeld ?_
            try simp only [Act.put, List.setIfInBounds_toArray, List.set_cons_zero, List.set_cons_succ]
            refine tkN 6 ⟨some 58, .load 37 (.tmp 7), 37, "feed.go:66", #[⟨4, .guard⟩], some (4, false)⟩ hHeld ?_
            try simp only [Act.put, List.setIfInBounds_toArray, List.set_cons_zero, List.set_cons_succ]
            refine tkN 7 ⟨some 59, .move (.tmp 17), 3, "feed.go:66", #[⟨4, .guard⟩], some (4, false)⟩ hHeld ?_
            try simp only [Act.put, List.setIfInBounds_toArray, List.set_cons_zero, List.set_cons_succ]
            refine tkN 8 ⟨some 60, .indexAddr 37 (.tmp 58) (.tmp 59), 0, "feed.go:66", #[⟨6, .data⟩, ⟨7, .data⟩, ⟨4, .guard⟩], some (4, false)⟩ hHeld ?_
            try simp only [Act.put, List.setIfInBounds_toArray, List.set_cons_zero, List.set_cons_succ]
            refine tkN 9 ⟨some 61, .load 41 (.tmp 60), 41, "feed.go:66", #[⟨8, .data⟩, ⟨4, .guard⟩], some (4, false)⟩ hHeld ?_
            try simp only [Act.put, List.setIfInBounds_toArray, List.set_cons_zero, List.set_cons_succ]
            refine tkN 10 ⟨some 62, .fieldAddr 30 (.tmp 18) 0, 0, "feed.go:66", #[⟨4, .guard⟩], some (4, false)⟩ hHeld ?_
            try simp only [Act.put, List.setIfInBounds_toArray, List.set_cons_zero, List.set_cons_succ]
            refine tkN 11 ⟨some 63, .load 3 (.tmp 62), 3, "feed.go:66", #[⟨10, .data⟩, ⟨4, .guard⟩], some (4, false)⟩ hHeld ?_
            try simp only [Act.put, List.setIfInBounds_toArray, List.set_cons_zero, List.set_cons_succ]
            refine tkN 12 ⟨some 64, .load 38 (.tmp 10), 38, "feed.go:66", #[⟨4, .guard⟩], some (4, false)⟩ hHeld ?_
            try simp only [Act.put, List.setIfInBounds_toArray, List.set_cons_zero, List.set_cons_succ]
            refine tkN 13 ⟨some 65, .move (.tmp 19), 3, "feed.go:66", #[⟨4, .guard⟩], some (4, false)⟩ hHeld ?_
            try simp only [Act.put, List.setIfInBounds_toArray, List.set_cons_zero, List.set_cons_succ]
            refine tkN 14 ⟨some 66, .slice 38 (.tmp 64) none (some (.tmp 65)) none, 38, "feed.go:66", #[⟨12, .data⟩, ⟨13, .data⟩, ⟨4, .guard⟩], some (4, false)⟩ hHeld ?_
            try simp only [Act.put, List.setIfInBounds_toArray, List.set_cons_zero, List.set_cons_succ]
            refine tkN 15 ⟨some 67, .load 25 (.tmp 11), 25, "feed.go:66", #[⟨4, .guard⟩], some (4, false)⟩ hHeld ?_
            try simp only [Act.put, List.setIfInBounds_toArray, List.set_cons_zero, List.set_cons_succ]
            refine tkN 16 ⟨some 68, .move (.tmp 17), 3, "feed.go:66", #[⟨4, .guard⟩], some (4, false)⟩ hHeld ?_
            try simp only [Act.put, List.setIfInBounds_toArray, List.set_cons_zero, List.set_cons_succ]
            refine tkN 17 ⟨some 69, .indexAddr 25 (.tmp 67) (.tmp 68), 0, "feed.go:66", #[⟨15, .data⟩, ⟨16, .data⟩, ⟨4, .guard⟩], some (4, false)⟩ hHeld ?_
            try simp only [Act.put, List.setIfInBounds_toArray, List.set_cons_zero, List.set_cons_succ]
            refine tkN 18 ⟨some 70, .load 33 (.tmp 69), 33, "feed.go:66", #[⟨17, .data⟩, ⟨4, .guard⟩], some (4, false)⟩ hHeld ?_
            try simp only [Act.put, List.setIfInBounds_toArray, List.set_cons_zero, List.set_cons_succ]
            refine tkN 19 ⟨some 71, .call { callee := .value (.func 28), args := #[.tmp 57, .tmp 61, .tmp 63, .tmp 66, .tmp 70], argTypes := #[3, 41, 3, 38, 33] }, 4, "feed.go:66", #[⟨5, .data⟩, ⟨9, .data⟩, ⟨11, .data⟩, ⟨14, .data⟩, ⟨18, .data⟩, ⟨4, .chain⟩, ⟨4, .guard⟩], some (4, false)⟩ hHeld ?_
            try simp only [Act.put, List.setIfInBounds_toArray, List.set_cons_zero, List.set_cons_succ]
            refine tkN 20 ⟨some 72, .unOp .not 4 (.tmp 71), 4, "feed.go:66", #[⟨19, .data⟩, ⟨4, .guard⟩], some (4, false)⟩ hHeld ?_
            try simp only [Act.put, List.setIfInBounds_toArray, List.set_cons_zero, List.set_cons_succ]
            refine tkY 21 ⟨some 73, .pick (.tmp 56) (.const (.bool true)) (.tmp 72), 4, "feed.go:66", #[⟨4, .data⟩, ⟨20, .data⟩], none⟩ ?v21z6 hHeld ?y21z6 ?r21z6
            case y21z6 => (intro w hSw; (try dsimp only at hSw); go_simp) <;> with_reducible rfl
            try simp only [Act.put, List.setIfInBounds_toArray, List.set_cons_zero, List.set_cons_succ]
            refine wpAnyH_done (by kernel_rfl) ?_ _
            have HNR : Hid (¬ ∃ m, RunP size rs lss ((pre ++ [x]).map (fixC X)) evs m) := HNo.out (fun h => by have := h.1; omega)
            have bV := bD
            have h4V : Boxed (W.drew) (w.heap.size + 1 + 1 + 1 + 1) 42 (.int .i64 0) := (bV.block _ h4.lt).trans h4
            have kf4 : KeepsFrom w8.heap.size W (W.drew) := ⟨bV.size, fun k o _ hk _ => (bV.block k (Array.getElem?_eq_some_iff.1 hk).1).trans hk⟩
            have kf := kf4.trans ((KeepsOthers.setCell (W.drew) ⟨w.heap.size + 1 + 1 + 1 + 1, 0, none⟩ (.int .i64 95)).from _)
            have kx := (hkx.trans (KX.of_below (N := B) (e := w.heap.size + 1 + 1) (r := w.heap.size + 1 + 1 + 1 + 1) bV (by omega))).trans (KX.set (N := B) (e := w.heap.size + 1 + 1) (r := w.heap.size + 1 + 1 + 1 + 1) (W.drew) (w.heap.size + 1 + 1 + 1 + 1) 0 (.int .i64 95) (.inr (.inl rfl)))
            have hc4 := h4V.cell
            have hf4 := h4V.frozen
            have h4S := h4V.set (.int .i64 95)
            clear hHeld hcells HSh0 h4V kf4 HNo HYes
            gi_wp2
            exact ⟨by first | exact kf | (rw [← ss2]; exact kf), ⟨rfl, HNR, h4S⟩, kx⟩
          · have hg1 : ¬ (cur.length : Int) < (n : Int) := by omega
            have hg2 : n ≤ cur.length := by omega
            have k1 : ∀ w, (Instr.slice 38 (.slice pv cur.length cv) none (some (.int .i64 (n : Int))) none).run Tryd.prog w = .ok (.slice pv n cv) w := fun w => run_upto4 (P := Tryd.prog) Tryd.underlying38 s_event pv cur.length cv n (by omega) w
            have HSh := HSh0 hg2
            refine tkY 3 ⟨some 55, .binOp .gtr 3 (.tmp 52) (.tmp 54) 3, 4, "feed.go:66", #[⟨0, .data⟩, ⟨2, .data⟩], none⟩ ?v3z7 hHeld ?y3z7 ?r3z7
            case y3z7 => (intro w hSw; (try dsimp only at hSw); go_simp) <;> with_reducible rfl
            try simp only [Act.put, List.setIfInBounds_toArray, List.set_cons_zero, List.set_cons_succ]
            refine tkY 4 ⟨some 56, .move (.tmp 55), 4, "feed.go:66", #[⟨3, .data⟩], none⟩ ?v4z8 hHeld ?y4z8 ?r4z8
            case y4z8 => (intro w hSw; (try dsimp only at hSw); go_simp) <;> with_reducible rfl
            try simp only [Act.put, List.setIfInBounds_toArray, List.set_cons_zero, List.set_cons_succ]
            refine tkY 5 ⟨some 57, .load 3 (.tmp 6), 3, "feed.go:66", #[⟨4, .guard⟩], some (4, false)⟩ ?v5z9 hHeld ?y5z9 ?r5z9
            case y5z9 => (intro w hSw; (try dsimp only at hSw); go_simp) <;> with_reducible rfl
            try simp only [Act.put, List.setIfInBounds_toArray, List.set_cons_zero, List.set_cons_succ]
            refine tkY 6 ⟨some 58, .load 37 (.tmp 7), 37, "feed.go:66", #[⟨4, .guard⟩], some (4, false)⟩ ?v6z10 hHeld ?y6z10 ?r6z10
            case y6z10 => (intro w hSw; (try dsimp only at hSw); go_simp) <;> with_reducible rfl
            try simp only [Act.put, List.setIfInBounds_toArray, List.set_cons_zero, List.set_cons_succ]
            refine tkY 7 ⟨some 59, .move (.tmp 17), 3, "feed.go:66", #[⟨4, .guard⟩], some (4, false)⟩ ?v7z11 hHeld ?y7z11 ?r7z11
            case y7z11 => (intro w hSw; (try dsimp only at hSw); go_simp) <;> with_reducible rfl
            try simp only [Act.put, List.setIfInBounds_toArray, List.set_cons_zero, List.set_cons_succ]
            refine tkY 8 ⟨some 60, .indexAddr 37 (.tmp 58) (.tmp 59), 0, "feed.go:66", #[⟨6, .data⟩, ⟨7, .data⟩, ⟨4, .guard⟩], some (4, false)⟩ ?v8z12 hHeld ?y8z12 ?r8z12
            case y8z12 => (intro w hSw; (try dsimp only at hSw); go_simp) <;> with_reducible rfl
            try simp only [Act.put, List.setIfInBounds_toArray, List.set_cons_zero, List.set_cons_succ]
            refine tkY 9 ⟨some 61, .load 41 (.tmp 60), 41, "feed.go:66", #[⟨8, .data⟩, ⟨4, .guard⟩], some (4, false)⟩ ?v9z13 hHeld ?y9z13 ?r9z13
            case y9z13 => (intro w hSw; (try dsimp only at hSw); go_simp) <;> with_reducible rfl
            try simp only [Act.put, List.setIfInBounds_toArray, List.set_cons_zero, List.set_cons_succ]
            refine tkY 10 ⟨some 62, .fieldAddr 30 (.tmp 18) 0, 0, "feed.go:66", #[⟨4, .guard⟩], some (4, false)⟩ ?v10z14 hHeld ?y10z14 ?r10z14
            case y10z14 => (intro w hSw; (try dsimp only at hSw); go_simp) <;> with_reducible rfl
            try simp only [Act.put, List.setIfInBounds_toArray, List.set_cons_zero, List.set_cons_succ]
            refine tkY 11 ⟨some 63, .load 3 (.tmp 62), 3, "feed.go:66", #[⟨10, .data⟩, ⟨4, .guard⟩], some (4, false)⟩ ?v11z15 hHeld ?y11z15 ?r11z15
            case y11z15 => (intro w hSw; (try dsimp only at hSw); go_simp) <;> with_reducible rfl
            try simp only [Act.put, List.setIfInBounds_toArray, List.set_cons_zero, List.set_cons_succ]
            refine tkY 12 ⟨some 64, .load 38 (.tmp 10), 38, "feed.go:66", #[⟨4, .guard⟩], some (4, false)⟩ ?v12z16 hHeld ?y12z16 ?r12z16
            case y12z16 => (intro w hSw; (try dsimp only at hSw); go_simp) <;> with_reducible rfl
            try simp only [Act.put, List.setIfInBounds_toArray, List.set_cons_zero, List.set_cons_succ]
            refine tkY 13 ⟨some 65, .move (.tmp 19), 3, "feed.go:66", #[⟨4, .guard⟩], some (4, false)⟩ ?v13z17 hHeld ?y13z17 ?r13z17
            case y13z17 => (intro w hSw; (try dsimp only at hSw); go_simp) <;> with_reducible rfl
            try simp only [Act.put, List.setIfInBounds_toArray, List.set_cons_zero, List.set_cons_succ]
            refine tkY 14 ⟨some 66, .slice 38 (.tmp 64) none (some (.tmp 65)) none, 38, "feed.go:66", #[⟨12, .data⟩, ⟨13, .data⟩, ⟨4, .guard⟩], some (4, false)⟩ ?v14z18 hHeld ?y14z18 ?r14z18
            case y14z18 => (intro w hSw; (try dsimp only at hSw); go_simp) <;> with_reducible rfl
            try simp only [Act.put, List.setIfInBounds_toArray, List.set_cons_zero, List.set_cons_succ]
            refine tkY 15 ⟨some 67, .load 25 (.tmp 11), 25, "feed.go:66", #[⟨4, .guard⟩], some (4, false)⟩ ?v15z19 hHeld ?y15z19 ?r15z19
            case y15z19 => (intro w hSw; (try dsimp only at hSw); go_simp) <;> with_reducible rfl
            try simp only [Act.put, List.setIfInBounds_toArray, List.set_cons_zero, List.set_cons_succ]
            refine tkY 16 ⟨some 68, .move (.tmp 17), 3, "feed.go:66", #[⟨4, .guard⟩], some (4, false)⟩ ?v16z20 hHeld ?y16z20 ?r16z20
            case y16z20 => (intro w hSw; (try dsimp only at hSw); go_simp) <;> with_reducible rfl
            try simp only [Act.put, List.setIfInBounds_toArray, List.set_cons_zero, List.set_cons_succ]
            refine tkY 17 ⟨some 69, .indexAddr 25 (.tmp 67) (.tmp 68), 0, "feed.go:66", #[⟨15, .data⟩, ⟨16, .data⟩, ⟨4, .guard⟩], some (4, false)⟩ ?v17z21 hHeld ?y17z21 ?r17z21
            case y17z21 => (intro w hSw; (try dsimp only at hSw); go_simp) <;> with_reducible rfl
            try simp only [Act.put, List.setIfInBounds_toArray, List.set_cons_zero, List.set_cons_succ]
            refine tkY 18 ⟨some 70, .load 33 (.tmp 69), 33, "feed.go:66", #[⟨17, .data⟩, ⟨4, .guard⟩], some (4, false)⟩ ?v18z22 hHeld ?y18z22 ?r18z22
            case y18z22 => (intro w hSw; (try dsimp only at hSw); go_simp) <;> with_reducible rfl
            try simp only [Act.put, List.setIfInBounds_toArray, List.set_cons_zero, List.set_cons_succ]
            refine wpAnyH_ready (rs := [19]) (by kernel_rfl) (by simp) ?_
            refine AllReadyH.cons (o := ⟨some 71, .call { callee := .value (.func 28), args := #[.tmp 57, .tmp 61, .tmp 63, .tmp 66, .tmp 70], argTypes := #[3, 41, 3, 38, 33] }, 4, "feed.go:66", #[⟨5, .data⟩, ⟨9, .data⟩, ⟨11, .data⟩, ⟨14, .data⟩, ⟨18, .data⟩, ⟨4, .chain⟩, ⟨4, .guard⟩], some (4, false)⟩) rfl (fun K hK => ?_) AllReadyH.nil
            go_simp
            refine (HSh.out _ bD).mono ?_
            rintro e3 w3 ⟨Bq, rfl, hBq, b3'⟩
            have b3 := bD.trans (b3'.mono bD.size)
            replace hHeld := hcells w3 b3
            cases Bq with
            | true =>
              have hOK : Hid (Sh size r fr (cur.take n) ls) := hBq.out.1 rfl
              clear hBq
              refine hK.out _ _ ?_ (fun _ => ?_)
              · exact hHeld
              clear hK K
              try simp only [Act.put, List.setIfInBounds_toArray, List.set_cons_zero, List.set_cons_succ]
              refine tkY 20 ⟨some 72, .unOp .not 4 (.tmp 71), 4, "feed.go:66", #[⟨19, .data⟩, ⟨4, .guard⟩], some (4, false)⟩ ?v20z23 hHeld ?y20z23 ?r20z23
              case y20z23 => (intro w hSw; (try dsimp only at hSw); go_simp) <;> with_reducible rfl
              try simp only [Act.put, List.setIfInBounds_toArray, List.set_cons_zero, List.set_cons_succ]
              refine tkY 21 ⟨some 73, .pick (.tmp 56) (.const (.bool true)) (.tmp 72), 4, "feed.go:66", #[⟨4, .data⟩, ⟨20, .data⟩], none⟩ ?v21z24 hHeld ?y21z24 ?r21z24
              case y21z24 => (intro w hSw; (try dsimp only at hSw); go_simp) <;> with_reducible rfl
              try simp only [Act.put, List.setIfInBounds_toArray, List.set_cons_zero, List.set_cons_succ]
              refine wpAnyH_done (by kernel_rfl) ?_ _
              have HR' : Hid (RunP size rs lss ((pre ++ [x]).map (fixC X)) evs (cur.drop n)) := HYes.out ⟨hg2, hOK.out⟩
              have e2 := (b3.block _ h2.lt).trans h2
              have h2V : Boxed w3 (w.heap.size + 1 + 1) 38 (.slice pv cur.length cv) := e2
              have hBV : Boxed w3 B 3 (.int .i64 (pre.length : Int)) := (b3.block _ hb.lt).trans hb
              have h4V : Boxed w3 (w.heap.size + 1 + 1 + 1 + 1) 42 (.int .i64 0) := (b3.block _ h4.lt).trans h4
              have k2 : ∀ w, (Instr.slice 38 (.slice pv cur.length cv) (some (.int .i64 (n : Int))) none none).run Tryd.prog w = .ok (.slice (cutE pv cv n) (cur.length - n) (cv - n)) w := fun w => run_behind4 (P := Tryd.prog) Tryd.underlying38 s_event pv cur.length cv n hg2 w
              have hEd := hE.drop n hg2
              have hcd : (cur.drop n).length ≤ 1000000 := by simp; omega
              have hdl : (cur.drop n).length = cur.length - n := by simp
              rw [← hdl] at k2 hEd
              have HDL : Hid ((cur.drop n).length = cur.length - n) := hdl
              clear hdl
              generalize cur.drop n = cu2 at *
              have c2 := h2V.cell
              have f2 := h2V.frozen
              obtain ⟨V1, hV1⟩ : ∃ V1, w3.setCell ⟨w.heap.size + 1 + 1, 0, none⟩ (.slice (cutE pv cv n) cu2.length (cv - n)) = V1 := ⟨_, rfl⟩
              have h2S := h2V.set (.slice (cutE pv cv n) cu2.length (cv - n))
              have hBS := hBV.other (B' := w.heap.size + 1 + 1) (by omega) (.slice (cutE pv cv n) cu2.length (cv - n))
              have h4S := h4V.other (B' := w.heap.size + 1 + 1) (by omega) (.slice (cutE pv cv n) cu2.length (cv - n))
              have kx1 := KX.set (N := B) (e := w.heap.size + 1 + 1) (r := w.heap.size + 1 + 1 + 1 + 1) w3 (w.heap.size + 1 + 1) 0 (.slice (cutE pv cv n) cu2.length (cv - n)) (.inl rfl)
              have ko1 := KeepsOthers.setCell w3 ⟨w.heap.size + 1 + 1, 0, none⟩ (.slice (cutE pv cv n) cu2.length (cv - n))
              rw [hV1] at h2S hBS h4S kx1 ko1
              have h2S2 := h2S.other (B' := B) (by omega) (.int .i64 ((pre ++ [x]).length : Int))
              have h4S2 := h4S.other (B' := B) (by omega) (.int .i64 ((pre ++ [x]).length : Int))
              have hBS2 := hBS.set (.int .i64 ((pre ++ [x]).length : Int))
              have kx2 := KX.set (N := B) (e := w.heap.size + 1 + 1) (r := w.heap.size + 1 + 1 + 1 + 1) V1 B 0 (.int .i64 ((pre ++ [x]).length : Int)) (.inr (.inr (Nat.le_refl _)))
              have ko2 := KeepsOthers.setCell V1 ⟨B, 0, none⟩ (.int .i64 ((pre ++ [x]).length : Int))
              have kf4 : KeepsFrom w8.heap.size W w3 := ⟨b3.size, fun k o _ hk _ => (b3.block k (Array.getElem?_eq_some_iff.1 hk).1).trans hk⟩
              have kf := kf4.trans ((ko1.trans ko2).from _)
              have kb := ((KX.of_below (N := B) (e := w.heap.size + 1 + 1) (r := w.heap.size + 1 + 1 + 1 + 1) b3 (by omega)).trans kx1).trans kx2
              have kxx := hkx.trans kb
              have cB := hBS.cell
              have fB := hBS.frozen
              have hpl : (pre.length : Int) + 1 = ((pre ++ [x]).length : Int) := by simp
              generalize hPL0 : (pre ++ [x]).length = PL at *
              have HPL : Hid ((pre ++ [x]).length = PL) := hPL0
              clear hPL0
              clear hHeld hcells HSh0 HNo HYes hOK h2V hBV h4V e2 kf4 ko1 ko2 kx1 kx2 HSh k1
              gi_wp2
              exact ⟨by first | exact kf | (rw [← ss2]; exact kf), kb, ⟨cu2, cutE pv cv n, cv - n, h2S2, hEd, hcd, HR', by rw [HPL.out]; exact hBS2, h4S2⟩, kxx⟩
            | false =>
              have hNO : Hid (¬ Sh size r fr (cur.take n) ls) := fun h => (by have := hBq.out.2 h; cases this)
              clear hBq
              refine hK.out _ _ ?_ (fun _ => ?_)
              · exact hHeld
              clear hK K
              try simp only [Act.put, List.setIfInBounds_toArray, List.set_cons_zero, List.set_cons_succ]
              refine tkY 20 ⟨some 72, .unOp .not 4 (.tmp 71), 4, "feed.go:66", #[⟨19, .data⟩, ⟨4, .guard⟩], some (4, false)⟩ ?v20z25 hHeld ?y20z25 ?r20z25
              case y20z25 => (intro w hSw; (try dsimp only at hSw); go_simp) <;> with_reducible rfl
              try simp only [Act.put, List.setIfInBounds_toArray, List.set_cons_zero, List.set_cons_succ]
              refine tkY 21 ⟨some 73, .pick (.tmp 56) (.const (.bool true)) (.tmp 72), 4, "feed.go:66", #[⟨4, .data⟩, ⟨20, .data⟩], none⟩ ?v21z26 hHeld ?y21z26 ?r21z26
              case y21z26 => (intro w hSw; (try dsimp only at hSw); go_simp) <;> with_reducible rfl
              try simp only [Act.put, List.setIfInBounds_toArray, List.set_cons_zero, List.set_cons_succ]
              refine wpAnyH_done (by kernel_rfl) ?_ _
              have HNR : Hid (¬ ∃ m, RunP size rs lss ((pre ++ [x]).map (fixC X)) evs m) := HNo.out (fun h => hNO.out h.2)
              have bV := b3
              have h4V : Boxed (w3) (w.heap.size + 1 + 1 + 1 + 1) 42 (.int .i64 0) := (bV.block _ h4.lt).trans h4
              have kf4 : KeepsFrom w8.heap.size W (w3) := ⟨bV.size, fun k o _ hk _ => (bV.block k (Array.getElem?_eq_some_iff.1 hk).1).trans hk⟩
              have kf := kf4.trans ((KeepsOthers.setCell (w3) ⟨w.heap.size + 1 + 1 + 1 + 1, 0, none⟩ (.int .i64 95)).from _)
              have kx := (hkx.trans (KX.of_below (N := B) (e := w.heap.size + 1 + 1) (r := w.heap.size + 1 + 1 + 1 + 1) bV (by omega))).trans (KX.set (N := B) (e := w.heap.size + 1 + 1) (r := w.heap.size + 1 + 1 + 1 + 1) (w3) (w.heap.size + 1 + 1 + 1 + 1) 0 (.int .i64 95) (.inr (.inl rfl)))
              have hc4 := h4V.cell
              have hf4 := h4V.frozen
              have h4S := h4V.set (.int .i64 95)
              clear hHeld hcells HSh0 h4V kf4 HNo HYes
              gi_wp2
              exact ⟨by first | exact kf | (rw [← ss2]; exact kf), ⟨rfl, HNR, h4S⟩, kx⟩
        case done =>
          rintro D ys W hD rfl ⟨⟨cur, pv, cv, h2, hE, hcl, HR, hb, h4⟩, hkx⟩ hK
          have HR2 : Hid (RunP size rs lss ys evs cur) := by
            have := HR.out
            rw [fix_map (List.prefix_refl ys)] at this
            exact this
          have hyl : ys.length ≤ 1000 := by have := HXl.out; omega
          have hBe := HBE.out
          have o1 : Boxed W (w.heap.size + 1) 37 (.slice p rs.length c) := (hkx.block _ (by omega) (by omega) (by omega)).trans g1
          have c1 := o1.cell
          have c2 := h2.cell
          have cB := hb.cell
          have c4 := h4.cell
          have f4 := h4.frozen
          have hbw : Below w.heap.size w W := KX.below bL hkx (by have := bL.size; omega) (by omega) (by omega)
          have hDw : w.heap.size ≤ D := by have := hB0.size; have := bL.size; omega
          have fin : ∀ z : Int, (W.setCell ⟨w.heap.size + 1 + 1 + 1 + 1, 0, none⟩ (.int .i64 z)).heap[D]? = some (.deferred (some [])) ∧ ((W.setCell ⟨w.heap.size + 1 + 1 + 1 + 1, 0, none⟩ (.int .i64 z)).putObj D (.deferred none)).cell? ⟨w.heap.size + 1 + 1 + 1 + 1, 0, none⟩ = some (.int .i64 z) ∧ Below w.heap.size w ((W.setCell ⟨w.heap.size + 1 + 1 + 1 + 1, 0, none⟩ (.int .i64 z)).putObj D (.deferred none)) := fun z => by
            have hK' := (KeepsOthers.setCell W ⟨w.heap.size + 1 + 1 + 1 + 1, 0, none⟩ (.int .i64 z)).same D _ hK rfl
            refine ⟨hK', cell_kept (h4.set (.int .i64 z)).cell (grownBy_putObj' _ D (.deferred none)) (fun r e => by cases e; exact ⟨_, hK', rfl⟩), ?_⟩
            exact (hbw.setCell (p := ⟨w.heap.size + 1 + 1 + 1 + 1, 0, none⟩) (by show w.heap.size ≤ w.heap.size + 1 + 1 + 1 + 1; omega) _).trans (belowK_b (w := w) (Nat.le_refl _) _ D _ (.deferred none) hDw hK' rfl rfl)
          by_cases hg : ys.length = rs.length ∧ 0 < rs.length ∧ cur.length = 0
          · obtain ⟨p1, p2, p3⟩ := hg
            have HG : Hid (Good size rs lss (cutsG 0 (cntK rs) ix lm) evs) := by
              show Good _ _ _ _ _
              rw [HXX.out]
              exact ⟨HL.out, p1, p2, by have := HR2.out; rw [List.eq_nil_of_length_eq_zero p3] at this; exact this⟩
            obtain ⟨hK', hc5, hb9⟩ := fin 0
            have q1 : ((ys.length : Int) == 0) = false := beq_eq_false_iff_ne.2 (by omega)
            have q2 : ((ys.length : Int) != (rs.length : Int)) = false := by simp [p1]
            have q4 : ¬ (0 < (cur.length : Int)) := by omega
            clear fin HR HR2 HL hkx h2 hE hb h4 o1 hBe hseq hB0 bP2 oR HM HRg HXl HRc
            clear p1 p2 p3
            go_wp2
            refine ⟨by simp, .inl ⟨_, _, rfl, run_takeDeferred hK', ?_⟩⟩
            first
              | refine ⟨.int .i64 0, ?_, 0, rfl, .inl ⟨rfl, HG⟩, hb9⟩
              | refine ⟨.int .i64 0, ?_, 0, rfl, .inl rfl, hb9⟩
              | refine ⟨.int .i64 0, ?_, 0, rfl, rfl, hb9⟩
              | trace_state
            simp only [results, Tryd.results15]
            go_simp
          · have HN : Hid (¬ Good size rs lss (cutsG 0 (cntK rs) ix lm) evs) := by
              show ¬ _
              rw [HXX.out]
              exact fun h => hg ⟨h.2.1, h.2.2.1, by have := RunP.one _ _ _ _ HR2.out h.2.2.2; rw [this]; rfl⟩
            obtain ⟨hK', hc5, hb9⟩ := fin 95
            by_cases p1 : ys.length = 0
            · have q1 : ((ys.length : Int) == 0) = true := by rw [p1]; rfl
              clear hg p1
              (try clear p2)
              clear fin HR HR2 HL hkx h2 hE hb h4 o1 hBe hseq hB0 bP2 oR HM HRg HXl HRc
              go_wp2
              refine ⟨by simp, .inl ⟨_, _, rfl, run_takeDeferred hK', ?_⟩⟩
              refine ⟨.int .i64 95, ?_, 95, rfl, .inr ⟨rfl, HN⟩, hb9⟩
              simp only [results, Tryd.results15]
              go_simp
            · have q1 : ((ys.length : Int) == 0) = false := beq_eq_false_iff_ne.2 (by omega)
              by_cases p2 : ys.length = rs.length
              · have q2 : ((ys.length : Int) != (rs.length : Int)) = false := by simp [p2]
                have q4 : 0 < (cur.length : Int) := by omega
                clear hg p1
                (try clear p2)
                clear fin HR HR2 HL hkx h2 hE hb h4 o1 hBe hseq hB0 bP2 oR HM HRg HXl HRc
                go_wp2
                refine ⟨by simp, .inl ⟨_, _, rfl, run_takeDeferred hK', ?_⟩⟩
                refine ⟨.int .i64 95, ?_, 95, rfl, .inr ⟨rfl, HN⟩, hb9⟩
                simp only [results, Tryd.results15]
                go_simp
              · have q2 : ((ys.length : Int) != (rs.length : Int)) = true := by simp; omega
                clear hg p1
                (try clear p2)
                clear fin HR HR2 HL hkx h2 hE hb h4 o1 hBe hseq hB0 bP2 oR HM HRg HXl HRc
                go_wp2
                refine ⟨by simp, .inl ⟨_, _, rfl, run_takeDeferred hK', ?_⟩⟩
                refine ⟨.int .i64 95, ?_, 95, rfl, .inr ⟨rfl, HN⟩, hb9⟩
                simp only [results, Tryd.results15]
                go_simp
  · have q3 : ((lss.length : Int) != (rs.length : Int)) = true := by simp; omega
    have HN : Hid (¬ Good size rs lss (cutsG 0 (cntK rs) ix lm) evs) := fun h => z3 h.1
    have b6 : Below w.heap.size w (w5.setCell ⟨w.heap.size + 1 + 1 + 1 + 1, 0, none⟩ (.int .i64 95)) := b5.setCell (p := ⟨w.heap.size + 1 + 1 + 1 + 1, 0, none⟩) (by show w.heap.size ≤ w.heap.size + 1 + 1 + 1 + 1; omega) _
    have d6 := (x4.set (.int .i64 95)).cell
    clear z3
    go_wp2
    refine ⟨.int .i64 95, ?_, 95, rfl, .inr ⟨rfl, HN⟩, b6⟩
    simp only [results, Tryd.results15]
    go_simp

end Go.Proofs.YtggficgmjbgmpaaDoor
