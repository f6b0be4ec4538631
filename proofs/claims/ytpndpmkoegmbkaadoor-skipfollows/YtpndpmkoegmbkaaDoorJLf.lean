/- What this text proves: the walk of the statement SkipFollows over this program: it answers true for any records. Proved here: Rows.SkipFollowsCardSaid: for every number, record and slice of records the Go function annalslaw14.SkipFollows returns true (whether any records are those on the way from any other one is what the document says). No condition; the tables of packages math/bits and sha start as the program's text lays them. -/
import Derived.Test.YtpndpmkoegmbkaaDoorJFr
import Derived.Test.YtpndpmkoegmbkaaDoorJSm
import Derived.Test.YtpndpmkoegmbkaaDoorJSw
import Derived.Test.YtpndpmkoegmbkaaDoorJOs
namespace Go.Proofs.YtpndpmkoegmbkaaDoor
open Go.RowKit

theorem s_rec : (Tryd.prog.info? 25).map (·.size) = some 6 := by kernel_rfl

theorem run_rfew {P : Program} {t e : TypeId} (ht : P.underlying t = some (.slice e)) (hsz : (P.info? e).map (·.size) = some 6) (p : Option Addr) (n c h : Nat) (y : Int) (hy : y = (h : Int)) (hh : h ≤ c) (w : World) :
    (Instr.slice t (.slice p n c) none (some (.int .i64 y)) none).run P w = .ok (.slice p h c) w := by
  subst hy
  obtain ⟨i, hi, hs⟩ := Option.map_eq_some_iff.1 hsz
  have he : P.elem t = e := by simp [Program.elem, ht]
  rw [run_slice_h w t p n c (by rw [he]; exact ht) .i64 (h : Int) (by omega) (by omega), he]
  cases p <;> simp [Go.sizeOf, typeInfo, hi, hs, sliced, Result.andThen, Addr.add]

/-- The record of an answer of Follow: the empty one, if there is none. -/
def folZ (R : Option Rc) : Rc := R.getD ⟨0, 0, 0, [], [], []⟩

theorem fol_gen {R : Option Rc} {w : World} {x : Ending} {w' : World} (h : FolSaid R w x w') : ∃ (rtp : Option Addr) (rtc : Nat) (rlp : Option Addr) (rlc : Nat) (rkp : Option Addr) (rkc : Nat), x = .returned (.tuple #[.agg #[.int .i64 (folZ R).e, .int .i64 (folZ R).t, .slice rtp (folZ R).tr.length rtc, .int .i64 (folZ R).c, .slice rlp (folZ R).li.length rlc, .slice rkp (folZ R).lk.length rkc], .bool R.isSome]) ∧ HB w' (.slice rtp (folZ R).tr.length rtc) (folZ R).tr ∧ HB w' (.slice rlp (folZ R).li.length rlc) (folZ R).li ∧ PA w' (.slice rkp (folZ R).lk.length rkc) (folZ R).lk ∧ Below w.heap.size w w' := by
  obtain ⟨f1, f2, f3⟩ := h
  cases R with
  | none => exact ⟨none, 0, none, 0, none, 0, f1 rfl, HB.nil _, HB.nil _, PA.nil _, f3⟩
  | some r =>
    obtain ⟨tp, tc, lp, lc, kp, kc, e, g1, g2, g3⟩ := f2 r rfl
    exact ⟨tp, tc, lp, lc, kp, kc, e, g1, g2, g3, f3⟩

set_option maxRecDepth 100000 in
set_option maxHeartbeats 8000000 in
theorem skFollowWalk (size : Int) (hd : Rc) (tv lv kv v1 : Value) (one : List Rc) (to : Int) (w : World) (h1 : HB w tv hd.tr) (h2 : HB w lv hd.li) (h3 : PA w kv hd.lk) (hO : RA w v1 one) (hTD : TD w) (hT : Tabs w) :
    Calls Tryd.prog 3 #[.int .i64 size, .agg #[.int .i64 hd.e, .int .i64 hd.t, tv, .int .i64 hd.c, lv, kv], v1, .int .i64 to] w fun x w' => x = .returned (.bool true) ∧ Below w.heap.size w w' := by
  obtain ⟨htp, htc, rfl⟩ := h1.shape
  obtain ⟨hlp, hlc, rfl⟩ := h2.shape
  obtain ⟨hkp, hkc, rfl⟩ := h3.shape
  obtain ⟨op, oc, rfl⟩ := hO.shape
  have hol := hO.len.2
  unfold maxLen at hol
  obtain ⟨n1, hn1⟩ : ∃ n1 : Nat, n1 = min one.length 40 := ⟨_, rfl⟩
  have hm1 : min (one.length : Int) 40 = (n1 : Int) := by omega
  have k1 := fun w => run_rfew (P := Tryd.prog) Tryd.underlying26 s_rec op one.length oc n1 (n1 : Int) rfl (by omega) w
  have hO1 := hO.take n1 (by omega)
  generalize one.take n1 = O at *
  clear hn1 hO
  have bY := (Below.refl w.heap.size w).alloc (Nat.le_refl _) (.cells #[.int .i64 hd.e, .int .i64 hd.t, .slice htp hd.tr.length htc, .int .i64 hd.c, .slice hlp hd.li.length hlc, .slice hkp hd.lk.length hkc] 25)
  have gY := heap_alloc_new w (.cells #[.int .i64 hd.e, .int .i64 hd.t, .slice htp hd.tr.length htc, .int .i64 hd.c, .slice hlp hd.li.length hlc, .slice hkp hd.lk.length hkc] 25)
  obtain ⟨Y, hY⟩ : ∃ Y, Y = w.alloc (.cells #[.int .i64 hd.e, .int .i64 hd.t, .slice htp hd.tr.length htc, .int .i64 hd.c, .slice hlp hd.li.length hlc, .slice hkp hd.lk.length hkc] 25) := ⟨_, rfl⟩
  rw [← hY] at bY gY
  have gy0 : w.heap.size < Y.heap.size := (Array.getElem?_eq_some_iff.1 gY).1
  have y0 : Y.cell? ⟨w.heap.size, 0, none⟩ = some (.int .i64 hd.e) := by rw [cell_of_row _ _ _ _ _ _ gY]; rfl
  have y1 : Y.cell? ⟨w.heap.size, 1, none⟩ = some (.int .i64 hd.t) := by rw [cell_of_row _ _ _ _ _ _ gY]; rfl
  have y2 : Y.cell? ⟨w.heap.size, 2, none⟩ = some (.slice htp hd.tr.length htc) := by rw [cell_of_row _ _ _ _ _ _ gY]; rfl
  have y3 : Y.cell? ⟨w.heap.size, 3, none⟩ = some (.int .i64 hd.c) := by rw [cell_of_row _ _ _ _ _ _ gY]; rfl
  have y4 : Y.cell? ⟨w.heap.size, 4, none⟩ = some (.slice hlp hd.li.length hlc) := by rw [cell_of_row _ _ _ _ _ _ gY]; rfl
  have y5 : Y.cell? ⟨w.heap.size, 5, none⟩ = some (.slice hkp hd.lk.length hkc) := by rw [cell_of_row _ _ _ _ _ _ gY]; rfl
  rw [hY] at y0 y1 y2 y3 y4 y5
  have hF1 := (follow_any size hd _ _ _ _ O to Y (h1.later bY) (h2.later bY) (h3.later bY) (hO1.later bY) (hTD.later bY) (hT.later bY)).mono (fun x w' h => fol_gen h)
  have HF2 : Hid (∀ W, Below w.heap.size w W → Calls Tryd.prog 8 #[.int .i64 size, .agg #[.int .i64 hd.e, .int .i64 hd.t, .slice htp hd.tr.length htc, .int .i64 hd.c, .slice hlp hd.li.length hlc, .slice hkp hd.lk.length hkc], .slice op n1 oc, .int .i64 to] W fun x w' => ∃ (rtp : Option Addr) (rtc : Nat) (rlp : Option Addr) (rlc : Nat) (rkp : Option Addr) (rkc : Nat), x = .returned (.tuple #[.agg #[.int .i64 (folZ (folR size hd O to)).e, .int .i64 (folZ (folR size hd O to)).t, .slice rtp (folZ (folR size hd O to)).tr.length rtc, .int .i64 (folZ (folR size hd O to)).c, .slice rlp (folZ (folR size hd O to)).li.length rlc, .slice rkp (folZ (folR size hd O to)).lk.length rkc], .bool (folR size hd O to).isSome]) ∧ HB w' (.slice rtp (folZ (folR size hd O to)).tr.length rtc) (folZ (folR size hd O to)).tr ∧ HB w' (.slice rlp (folZ (folR size hd O to)).li.length rlc) (folZ (folR size hd O to)).li ∧ PA w' (.slice rkp (folZ (folR size hd O to)).lk.length rkc) (folZ (folR size hd O to)).lk ∧ Below W.heap.size W w') := fun W hB => (rfollow_any size hd _ _ _ _ O to W (h1.later hB) (h2.later hB) (h3.later hB) (hO1.later hB)).mono (fun x w' h => fol_gen h)
  generalize folZ (folR size hd O to) = r at *
  generalize (folR size hd O to).isSome = ok at *
  go_enter Tryd.func3, Tryd.ntmps3
  go_wp2_with fail
  rw [← hY]
  refine hF1.mono ?_
  rintro e1 w1 ⟨rtp, rtc, rlp, rlc, rkp, rkc, rfl, r1, r2, r3, b1⟩
  have bw1 := bY.trans (b1.mono bY.size)
  have gB := (b1.block _ gy0).trans gY
  have bX1 := (Below.refl w1.heap.size w1).alloc (Nat.le_refl _) (.cells #[.int .i64 r.e, .int .i64 r.t, .slice rtp r.tr.length rtc, .int .i64 r.c, .slice rlp r.li.length rlc, .slice rkp r.lk.length rkc] 25)
  have gR := heap_alloc_new w1 (.cells #[.int .i64 r.e, .int .i64 r.t, .slice rtp r.tr.length rtc, .int .i64 r.c, .slice rlp r.li.length rlc, .slice rkp r.lk.length rkc] 25)
  obtain ⟨X1, hX1⟩ : ∃ X1, X1 = w1.alloc (.cells #[.int .i64 r.e, .int .i64 r.t, .slice rtp r.tr.length rtc, .int .i64 r.c, .slice rlp r.li.length rlc, .slice rkp r.lk.length rkc] 25) := ⟨_, rfl⟩
  rw [← hX1] at bX1 gR
  have bw2 := bw1.trans (bX1.mono bw1.size)
  have gC := (bX1.block _ (Array.getElem?_eq_some_iff.1 gB).1).trans gB
  have gr1 : w1.heap.size < X1.heap.size := (Array.getElem?_eq_some_iff.1 gR).1
  clear hF1 b1 gB hY k1 hm1 y0 y1 y2 y3 y4 y5
  have z0 : X1.cell? ⟨w.heap.size, 0, none⟩ = some (.int .i64 hd.e) := by rw [cell_of_row _ _ _ _ _ _ gC]; rfl
  have z1 : X1.cell? ⟨w.heap.size, 1, none⟩ = some (.int .i64 hd.t) := by rw [cell_of_row _ _ _ _ _ _ gC]; rfl
  have z2 : X1.cell? ⟨w.heap.size, 2, none⟩ = some (.slice htp hd.tr.length htc) := by rw [cell_of_row _ _ _ _ _ _ gC]; rfl
  have z3 : X1.cell? ⟨w.heap.size, 3, none⟩ = some (.int .i64 hd.c) := by rw [cell_of_row _ _ _ _ _ _ gC]; rfl
  have z4 : X1.cell? ⟨w.heap.size, 4, none⟩ = some (.slice hlp hd.li.length hlc) := by rw [cell_of_row _ _ _ _ _ _ gC]; rfl
  have z5 : X1.cell? ⟨w.heap.size, 5, none⟩ = some (.slice hkp hd.lk.length hkc) := by rw [cell_of_row _ _ _ _ _ _ gC]; rfl
  rw [hX1] at z0 z1 z2 z3 z4 z5
  go_wp2_with fail
  rw [← hX1]
  refine (HF2.out _ bw2).mono ?_
  rintro e2 w2 ⟨stp, stc, slp, slc, skp, skc, rfl, s1, s2, s3, b2⟩
  have bw3 := bw2.trans (b2.mono bw2.size)
  have gR2 := (b2.block _ gr1).trans gR
  have bX2 := (Below.refl w2.heap.size w2).alloc (Nat.le_refl _) (.cells #[.int .i64 r.e, .int .i64 r.t, .slice stp r.tr.length stc, .int .i64 r.c, .slice slp r.li.length slc, .slice skp r.lk.length skc] 25)
  have gS := heap_alloc_new w2 (.cells #[.int .i64 r.e, .int .i64 r.t, .slice stp r.tr.length stc, .int .i64 r.c, .slice slp r.li.length slc, .slice skp r.lk.length skc] 25)
  obtain ⟨X2, hX2⟩ : ∃ X2, X2 = w2.alloc (.cells #[.int .i64 r.e, .int .i64 r.t, .slice stp r.tr.length stc, .int .i64 r.c, .slice slp r.li.length slc, .slice skp r.lk.length skc] 25) := ⟨_, rfl⟩
  rw [← hX2] at bX2 gS
  have BB := bw3.trans (bX2.mono bw3.size)
  have gR3 := (bX2.block _ (Array.getElem?_eq_some_iff.1 gR2).1).trans gR2
  have hSa := same13_true r.e r.t r.c _ _ _ _ _ _ r.tr r.li r.lk X2 (((r1.later bX1).later b2).later bX2) (s1.later bX2) (((r2.later bX1).later b2).later bX2) (s2.later bX2) (((r3.later bX1).later b2).later bX2) (s3.later bX2)
  clear HF2 gR2 z0 z1 z2 z3 z4 z5 r1 r2 r3 s1 s2 s3 gR gC hX1 bX1 b2 bX2
  have a0 : X2.cell? ⟨w1.heap.size, 0, none⟩ = some (.int .i64 r.e) := by rw [cell_of_row _ _ _ _ _ _ gR3]; rfl
  have a1 : X2.cell? ⟨w1.heap.size, 1, none⟩ = some (.int .i64 r.t) := by rw [cell_of_row _ _ _ _ _ _ gR3]; rfl
  have a2 : X2.cell? ⟨w1.heap.size, 2, none⟩ = some (.slice rtp r.tr.length rtc) := by rw [cell_of_row _ _ _ _ _ _ gR3]; rfl
  have a3 : X2.cell? ⟨w1.heap.size, 3, none⟩ = some (.int .i64 r.c) := by rw [cell_of_row _ _ _ _ _ _ gR3]; rfl
  have a4 : X2.cell? ⟨w1.heap.size, 4, none⟩ = some (.slice rlp r.li.length rlc) := by rw [cell_of_row _ _ _ _ _ _ gR3]; rfl
  have a5 : X2.cell? ⟨w1.heap.size, 5, none⟩ = some (.slice rkp r.lk.length rkc) := by rw [cell_of_row _ _ _ _ _ _ gR3]; rfl
  have bb0 : X2.cell? ⟨w2.heap.size, 0, none⟩ = some (.int .i64 r.e) := by rw [cell_of_row _ _ _ _ _ _ gS]; rfl
  have bb1 : X2.cell? ⟨w2.heap.size, 1, none⟩ = some (.int .i64 r.t) := by rw [cell_of_row _ _ _ _ _ _ gS]; rfl
  have bb2 : X2.cell? ⟨w2.heap.size, 2, none⟩ = some (.slice stp r.tr.length stc) := by rw [cell_of_row _ _ _ _ _ _ gS]; rfl
  have bb3 : X2.cell? ⟨w2.heap.size, 3, none⟩ = some (.int .i64 r.c) := by rw [cell_of_row _ _ _ _ _ _ gS]; rfl
  have bb4 : X2.cell? ⟨w2.heap.size, 4, none⟩ = some (.slice slp r.li.length slc) := by rw [cell_of_row _ _ _ _ _ _ gS]; rfl
  have bb5 : X2.cell? ⟨w2.heap.size, 5, none⟩ = some (.slice skp r.lk.length skc) := by rw [cell_of_row _ _ _ _ _ _ gS]; rfl
  rw [hX2] at a0 a1 a2 a3 a4 a5 bb0 bb1 bb2 bb3 bb4 bb5
  have hok : (ok == ok) = true := by simp
  go_wp2_with fail
  rw [← hX2]
  refine hSa.mono ?_
  rintro e3 w3 ⟨rfl, b3⟩
  have bw := BB.trans (b3.mono BB.size)
  clear hSa BB b3 a0 a1 a2 a3 a4 a5 bb0 bb1 bb2 bb3 bb4 bb5 hX2 gR3 gS
  go_wp2_with fail
  refine (skAwake_any _ (hTD.later bw)).mono ?_
  rintro e9 w9 ⟨rfl, b9⟩
  have bf := bw.trans (b9.mono bw.size)
  go_wp2
  go_ret
  exact ⟨rfl, bf⟩

end Go.Proofs.YtpndpmkoegmbkaaDoor

namespace Go.Proofs.YtpndpmkoegmbkaaDoor
open Go.ChangeShapes Go.WideShapes Go.ChangeAt Go.RowKit

set_option maxRecDepth 100000 in
theorem skipFollowsContract (H : Type) (enc : TypeId × Value → H) (W : World) (base : Nat) (args : Array Value) (ds gs : List (DataW H)) (before : List MemPlace)
    (hval : ∀ (j : Nat) t v, Tryd.f3.params[j]? = some t → args[j]? = some v → Value.okWide Tryd.prog W .any base t v)
    (hW : DataW.Whole enc Tryd.prog Tryd.f3.params.toList Rows.skipFollowsSpec.vars false W args.toList ds gs before) (hsz0 : (DataW.weightsEach Tryd.prog (Tryd.f3.params.toList ++ (OpenSpec.ofChange Rows.skipFollowsSpec).bare.plain.varTypes Tryd.prog) (ds ++ gs)).all (· ≤ reachBytes) = true) (hL : laidMetH Tryd.prog Rows.skipFollowsRow.laid W) :
    Calls Tryd.prog 3 args W fun e W' => ∃ v, e = .returned v ∧ Rows.skipFollowsSpec.post enc Tryd.prog Tryd.f3 false true false false W args v W' := by
  have hT : Tabs W := tabs_of (laidMet.tail (laidMet.tail hL))
  have hD : TD W := td_of hL
  have hW' := hW
  obtain ⟨p, q, hA0, hV, rfl, hfz, hnd⟩ := hW
  have hA : DataW.TrodAll enc Tryd.prog W 0 (fun _ => true) true Tryd.f3.params.toList args.toList ds p := hA0
  rw [Tryd.params3] at hA hval hsz0
  obtain ⟨v0, vs0, d0, ds0, p0, q0, hargs, rfl, rfl, h0, r0⟩ := trodAll_cons hA
  obtain ⟨v1, vs1, d1, ds1, p1, q1, rfl, rfl, rfl, h1, r1⟩ := trodAll_cons r0
  obtain ⟨v2, vs2, d2, ds2, p2, q2, rfl, rfl, rfl, h2, r2⟩ := trodAll_cons r1
  obtain ⟨v3, vs3, d3, ds3, p3, q3, rfl, rfl, rfl, h3, r3⟩ := trodAll_cons r2
  obtain ⟨rfl, rfl, rfl⟩ := trodAll_nil r3
  obtain rfl : args = #[v0, v1, v2, v3] := by cases args; simp_all
  obtain ⟨rfl, rfl⟩ := trodVars_none hV
  obtain ⟨a0, rfl, rfl, rfl, w0⟩ := open_int Tryd.underlying3 (hval 0 3 v0 rfl rfl) h0
  have k1 := h1
  have lt1 : ∀ x ∈ p1, x.block < W.heap.size := by obtain ⟨m, hm⟩ := k1; exact DataW.trod_lt m _ _ _ hm
  obtain ⟨re1, rt1, rc1, tv1, lv1, kv1, tr1, li1, lk1, rfl, hl1, hm1, hn1⟩ := open_rec (hval 1 25 v1 rfl rfl) h1
  have k2 := h2
  have lt2 : ∀ x ∈ p2, x.block < W.heap.size := by obtain ⟨m, hm⟩ := k2; exact DataW.trod_lt m _ _ _ hm
  obtain ⟨rs2, hl2⟩ := open_recs (hval 2 26 v2 rfl rfl) h2
  obtain ⟨a3, rfl, rfl, rfl, w3⟩ := open_int Tryd.underlying3 (hval 3 3 v3 rfl rfl) h3
  clear hA0
  simp only [List.append_nil] at hW'
  refine (skFollowWalk a0 ⟨re1, rt1, rc1, tr1, li1, lk1⟩ tv1 lv1 kv1 v2 rs2 a3 W hl1 hm1 hn1 hl2 hD hT).mono fun e W' ⟨he, bel⟩ => ?_
  subst he
  exact ⟨_, rfl, _, _, _, [], _, [], hW', trodAll_mk1 (shut_bool Tryd.underlying4 _), (trodAll_cons_mk (shut_int Tryd.underlying3 w0) (trodAll_cons_mk (Below.trod laidOut (by kernel_rfl) (of_decide_eq_true (by kernel_rfl)) k1 bel lt1) (trodAll_cons_mk (Below.trod laidOut (by kernel_rfl) (of_decide_eq_true (by kernel_rfl)) k2 bel lt2) (trodAll_cons_mk (shut_int Tryd.underlying3 w3) trodAll_mk0)))), rfl, bel.frame _, fun h => by cases h⟩

theorem skipFollowsMet (os : Os) : laidMet Tryd.prog Rows.skipFollowsRow.laid (({ World.holding Tryd.prog os ⟨#[], #[], []⟩ with heap := (((((((((World.holding Tryd.prog os ⟨#[], #[], []⟩).heap).modify 0 fun | .cells _ t frozen => .cells tab32Cells t frozen | o => o)).modify 1 fun | .cells _ t frozen => .cells tab64Cells t frozen | o => o)).modify 2 fun | .cells _ t frozen => .cells startCells t frozen | o => o)).modify 3 fun | .cells _ t frozen => .cells roundsCells t frozen | o => o) } : World).forCall (fun _ _ => 0) ⟨#[], #[.int .i64 0, .agg #[.int .i64 0, .int .i64 0, .slice none 0 0, .int .i64 0, .slice none 0 0, .slice none 0 0], .slice none 0 0, .int .i64 0], []⟩).memory :=
  laidMet_of_run' 8 (by kernel_rfl) (by kernel_rfl)
theorem skipFollowsReads (os : Os) {H : Type} (enc : TypeId × Value → H) : ∃ places, DataW.whole enc Tryd.prog (({ World.holding Tryd.prog os ⟨#[], #[], []⟩ with heap := (((((((((World.holding Tryd.prog os ⟨#[], #[], []⟩).heap).modify 0 fun | .cells _ t frozen => .cells tab32Cells t frozen | o => o)).modify 1 fun | .cells _ t frozen => .cells tab64Cells t frozen | o => o)).modify 2 fun | .cells _ t frozen => .cells startCells t frozen | o => o)).modify 3 fun | .cells _ t frozen => .cells roundsCells t frozen | o => o) } : World).forCall (fun _ _ => 0) ⟨#[], #[.int .i64 0, .agg #[.int .i64 0, .int .i64 0, .slice none 0 0, .int .i64 0, .slice none 0 0, .slice none 0 0], .slice none 0 0, .int .i64 0], []⟩).memory Tryd.f3.params.toList Rows.skipFollowsSpec.vars false (#[.int .i64 0, .agg #[.int .i64 0, .int .i64 0, .slice none 0 0, .int .i64 0, .slice none 0 0, .slice none 0 0], .slice none 0 0, .int .i64 0] : Array Value).toList 8 = some ([.lit (.int .i64 0), .agg [.lit (.int .i64 0), .lit (.int .i64 0), .nil, .lit (.int .i64 0), .nil, .nil], .nil, .lit (.int .i64 0)], [], places) :=
  ⟨[], by kernel_rfl⟩

set_option maxRecDepth 100000 in
theorem skipFollowsLifted (os : Os) (started : os.Started) (H : Type) (enc : TypeId × Value → H) (F : Stop.Interp) :
    ReturnsInHanded {} Tryd.checked os 3 .any ((OpenSpec.ofChange Rows.skipFollowsSpec).preRow enc Tryd.prog Tryd.f3 Rows.skipFollowsRow.domain false Rows.skipFollowsRow.laid) (((OpenSpec.ofChange Rows.skipFollowsSpec).at F).post enc Tryd.prog Tryd.f3 false true false false) := by
  obtain ⟨places, hx⟩ := skipFollowsReads os enc
  refine returnsInHanded_of_row (C := Tryd.checked) (s := OpenSpec.ofChange Rows.skipFollowsSpec) own started (by kernel_rfl) Tryd.func3
    (witness_row_at (enc := enc) (C := Tryd.checked) false ({ World.holding Tryd.prog os ⟨#[], #[], []⟩ with heap := (((((((((World.holding Tryd.prog os ⟨#[], #[], []⟩).heap).modify 0 fun | .cells _ t frozen => .cells tab32Cells t frozen | o => o)).modify 1 fun | .cells _ t frozen => .cells tab64Cells t frozen | o => o)).modify 2 fun | .cells _ t frozen => .cells startCells t frozen | o => o)).modify 3 fun | .cells _ t frozen => .cells roundsCells t frozen | o => o) } : World) #[.int .i64 0, .agg #[.int .i64 0, .int .i64 0, .slice none 0 0, .int .i64 0, .slice none 0 0, .slice none 0 0], .slice none 0 0, .int .i64 0] rfl (by kernel_rfl) (by kernel_rfl) (by kernel_rfl)
      (OpenSpec.preRow_of_cond 8 hx (by kernel_rfl) (fun k hk => by cases hk) (by kernel_rfl) (skipFollowsMet os))) ?_
  intro W base args ds gs before hval hW _ _ hsz hL _ _
  exact skipFollowsContract H enc W base args ds gs before hval hW hsz hL

theorem skipFollowsSaid_holds : Rows.SkipFollowsSaid :=
  OpenClaim.holds_of_cond 3 Tryd.f3 rfl rfl rfl rfl rfl rfl rfl ⟨rfl, rfl, rfl, rfl, rfl⟩ rfl rfl rfl rfl rfl (by kernel_rfl) Tryd.func3 (by kernel_rfl)
    (of_decide_eq_true (by kernel_rfl)) (by unfold Func.isWrapper; first | (rw [if_pos (by decide +kernel)]; kernel_rfl) | (rw [if_neg (by decide +kernel)]; exact ⟨rfl, rfl⟩))
    (fun os started H enc _ F => by rw [OpenClaim.pre_eq_preRow]; exact skipFollowsLifted os started H enc F)

theorem skipFollowsPlain (f : FuncId) (fn : Func) (hf : Tryd.pinned.checked.prog.funcNamed "annals/annalslaw14.SkipFollows" = some f) (hfn : Tryd.pinned.checked.prog.funcs[f]? = some fn) :
    false = Tryd.pinned.checked.prog.looks [] ∧ ∀ (j : Nat) t, fn.params[j]? = some t → Tryd.pinned.checked.prog.wantsStandIn t = false := by
  obtain rfl : f = 3 := Option.some.inj ((show Tryd.prog.funcNamed "annals/annalslaw14.SkipFollows" = some 3 by kernel_rfl).symm.trans hf) |>.symm
  obtain rfl : fn = Tryd.f3 := (Option.some.inj (Tryd.func3.symm.trans hfn)).symm
  refine ⟨by kernel_rfl, fun j t ht => ?_⟩
  rw [Tryd.params3] at ht
  have hm : t = 3 ∨ t = 25 ∨ t = 26 ∨ t = 3 := by simpa using Array.mem_of_getElem? ht
  rcases hm with rfl | rfl | rfl | rfl
  · exact (show Tryd.prog.wantsStandIn 3 = false by kernel_rfl)
  · exact (show Tryd.prog.wantsStandIn 25 = false by kernel_rfl)
  · exact (show Tryd.prog.wantsStandIn 26 = false by kernel_rfl)
  · exact (show Tryd.prog.wantsStandIn 3 = false by kernel_rfl)

theorem skipFollows_holds : Rows.SkipFollowsCardSaid :=
  Claim7.holds_tied_plain_at .later [] _ _ _ _ skipFollowsSaid_holds (fun _ h => by cases h) (by kernel_rfl) (fun _ h => by cases h) skipFollows_row_tie rfl ⟨rfl, rfl⟩ (by kernel_rfl) rfl skipFollowsPlain (by kernel_rfl)

#print axioms skipFollows_holds
end Go.Proofs.YtpndpmkoegmbkaaDoor
