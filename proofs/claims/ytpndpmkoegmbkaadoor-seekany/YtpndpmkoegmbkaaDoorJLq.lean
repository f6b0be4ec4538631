/- What this text proves: the walk of the statement SeekAny over this program: it answers true for any looks. (By program: mkekany.py.) Proved here: Rows.SeekAnyCardSaid: for every size, head, list of looks and time the Go function annalslaw20.SeekAny returns true (what any looks find from any head is the document's). No condition but the tables, which lie in their variables as the program's text has them. -/
import Derived.Test.YtpndpmkoegmbkaaDoorJRk
import Derived.Test.YtpndpmkoegmbkaaDoorJSm
import Derived.Test.YtpndpmkoegmbkaaDoorJAq
import Derived.Test.YtpndpmkoegmbkaaDoorJOq
namespace Go.Proofs.YtpndpmkoegmbkaaDoor
open Go.RowKit

/-- What both Checks answer. -/
theorem checks_two (size t : Int) (hd : Rc) (tv lv kv sv : Value) (ss : List (List Rc)) (w0 : World) (h1 : HB w0 tv hd.tr) (h2 : HB w0 lv hd.li) (h3 : PA w0 kv hd.lk) (hQ : QA w0 sv ss) (hTD : TD w0) (hT : Tabs w0) :
    ∃ (r : Rc) (z : Int), ∀ w, Below w0.heap.size w0 w →
      (Calls Tryd.prog 14 #[.int .i64 size, .agg #[.int .i64 hd.e, .int .i64 hd.t, tv, .int .i64 hd.c, lv, kv], sv, .int .i64 t] w fun x w' => ∃ (rtp : Option Addr) (rtc : Nat) (rlp : Option Addr) (rlc : Nat) (rkp : Option Addr) (rkc : Nat), x = .returned (.tuple #[.agg #[.int .i64 r.e, .int .i64 r.t, .slice rtp r.tr.length rtc, .int .i64 r.c, .slice rlp r.li.length rlc, .slice rkp r.lk.length rkc], .int .i64 z]) ∧ HB w' (.slice rtp r.tr.length rtc) r.tr ∧ HB w' (.slice rlp r.li.length rlc) r.li ∧ PA w' (.slice rkp r.lk.length rkc) r.lk ∧ Below w.heap.size w w') ∧
      (Calls Tryd.prog 15 #[.int .i64 size, .agg #[.int .i64 hd.e, .int .i64 hd.t, tv, .int .i64 hd.c, lv, kv], sv, .int .i64 t] w fun x w' => ∃ (rtp : Option Addr) (rtc : Nat) (rlp : Option Addr) (rlc : Nat) (rkp : Option Addr) (rkc : Nat), x = .returned (.tuple #[.agg #[.int .i64 r.e, .int .i64 r.t, .slice rtp r.tr.length rtc, .int .i64 r.c, .slice rlp r.li.length rlc, .slice rkp r.lk.length rkc], .int .i64 z]) ∧ HB w' (.slice rtp r.tr.length rtc) r.tr ∧ HB w' (.slice rlp r.li.length rlc) r.li ∧ PA w' (.slice rkp r.lk.length rkc) r.lk ∧ Below w.heap.size w w') :=
  ⟨(chkR size hd ss t).getD zR, if (chkR size hd ss t).isSome then 0 else 95, fun w hb =>
    ⟨check_any size t hd tv lv kv sv ss w (h1.later hb) (h2.later hb) (h3.later hb) (hQ.later hb) (hTD.later hb) (hT.later hb), rcheck_any size t hd tv lv kv sv ss w (h1.later hb) (h2.later hb) (h3.later hb) (hQ.later hb)⟩⟩

set_option maxRecDepth 100000 in
set_option maxHeartbeats 4000000 in
theorem ekAnyWalk (size t : Int) (hd : Rc) (tv lv kv sv : Value) (ss : List (List Rc)) (w : World) (h1 : HB w tv hd.tr) (h2 : HB w lv hd.li) (h3 : PA w kv hd.lk) (hQ : QA w sv ss) (hTD : TD w) (hT : Tabs w) :
    Calls Tryd.prog 5 #[.int .i64 size, .agg #[.int .i64 hd.e, .int .i64 hd.t, tv, .int .i64 hd.c, lv, kv], sv, .int .i64 t] w fun x w' => x = .returned (.bool true) ∧ Below w.heap.size w w' := by
  obtain ⟨r, z, hC⟩ := checks_two size t hd tv lv kv sv ss w h1 h2 h3 hQ hTD hT
  obtain ⟨htp, htc, rfl⟩ := h1.shape
  obtain ⟨hlp, hlc, rfl⟩ := h2.shape
  obtain ⟨hkp, hkc, rfl⟩ := h3.shape
  obtain ⟨op, oc, rfl⟩ := hQ.shape
  have bA := (Below.refl w.heap.size w).alloc (Nat.le_refl _) (.cells #[.int .i64 hd.e, .int .i64 hd.t, .slice htp hd.tr.length htc, .int .i64 hd.c, .slice hlp hd.li.length hlc, .slice hkp hd.lk.length hkc] 25)
  have gA := heap_alloc_new w (.cells #[.int .i64 hd.e, .int .i64 hd.t, .slice htp hd.tr.length htc, .int .i64 hd.c, .slice hlp hd.li.length hlc, .slice hkp hd.lk.length hkc] 25)
  obtain ⟨X, hX⟩ : ∃ X, X = w.alloc (.cells #[.int .i64 hd.e, .int .i64 hd.t, .slice htp hd.tr.length htc, .int .i64 hd.c, .slice hlp hd.li.length hlc, .slice hkp hd.lk.length hkc] 25) := ⟨_, rfl⟩
  rw [← hX] at bA gA
  have g0 : w.heap.size < X.heap.size := (Array.getElem?_eq_some_iff.1 gA).1
  have HC : Hid (∀ w_1, Below w.heap.size w w_1 → (Calls Tryd.prog 14 #[.int .i64 size, .agg #[.int .i64 hd.e, .int .i64 hd.t, .slice htp hd.tr.length htc, .int .i64 hd.c, .slice hlp hd.li.length hlc, .slice hkp hd.lk.length hkc], .slice op ss.length oc, .int .i64 t] w_1 fun x w' => ∃ (rtp : Option Addr) (rtc : Nat) (rlp : Option Addr) (rlc : Nat) (rkp : Option Addr) (rkc : Nat), x = .returned (.tuple #[.agg #[.int .i64 r.e, .int .i64 r.t, .slice rtp r.tr.length rtc, .int .i64 r.c, .slice rlp r.li.length rlc, .slice rkp r.lk.length rkc], .int .i64 z]) ∧ HB w' (.slice rtp r.tr.length rtc) r.tr ∧ HB w' (.slice rlp r.li.length rlc) r.li ∧ PA w' (.slice rkp r.lk.length rkc) r.lk ∧ Below w_1.heap.size w_1 w') ∧
      (Calls Tryd.prog 15 #[.int .i64 size, .agg #[.int .i64 hd.e, .int .i64 hd.t, .slice htp hd.tr.length htc, .int .i64 hd.c, .slice hlp hd.li.length hlc, .slice hkp hd.lk.length hkc], .slice op ss.length oc, .int .i64 t] w_1 fun x w' => ∃ (rtp : Option Addr) (rtc : Nat) (rlp : Option Addr) (rlc : Nat) (rkp : Option Addr) (rkc : Nat), x = .returned (.tuple #[.agg #[.int .i64 r.e, .int .i64 r.t, .slice rtp r.tr.length rtc, .int .i64 r.c, .slice rlp r.li.length rlc, .slice rkp r.lk.length rkc], .int .i64 z]) ∧ HB w' (.slice rtp r.tr.length rtc) r.tr ∧ HB w' (.slice rlp r.li.length rlc) r.li ∧ PA w' (.slice rkp r.lk.length rkc) r.lk ∧ Below w_1.heap.size w_1 w')) := hC
  clear hC
  by_cases l1 : (30 : Int) < (ss.length : Int)
  · clear hQ HC
    go_enter Tryd.func5, Tryd.ntmps5
    go_wp2_with fail
    rw [← hX]
    refine (ekAwake_any _).mono ?_
    rintro e9 w9 ⟨rfl, b9⟩
    have bf := bA.trans (b9.mono bA.size)
    go_wp2
    go_ret
    exact ⟨rfl, bf⟩
  · go_enter Tryd.func5, Tryd.ntmps5
    go_wp2
    rw [← hX]
    clear hX
    go_loopw [21] (fun v wr => ∃ i : Nat, i ≤ ss.length ∧ v = .int .i64 i ∧ Below X.heap.size X wr) (fun v _ => ss.length - (intOf v).toNat)
    case atStart => exact ⟨0, Nat.zero_le _, rfl, Below.refl _ _⟩
    case round =>
      obtain ⟨i, hi, rfl, hbo⟩ := hrel
      have bw := bA.trans (hbo.mono bA.size)
      by_cases hlt : i < ss.length
      · obtain ⟨sb, so, rfl, hs⟩ := hQ.addr (by omega)
        obtain ⟨q, c, hc0, _⟩ := hs i ss[i] (List.getElem?_eq_getElem hlt)
        have hc := cell_later bw hc0
        generalize ss[i].length = n at *
        clear hs hc0
        have hlt2 : (i : Int) < (ss.length : Int) := by omega
        by_cases hn : (40 : Int) < (n : Int)
        · clear HC hQ
          go_wp2_with fail
          refine (ekAwake_any _).mono ?_
          rintro e9 w9 ⟨rfl, b9⟩
          have bf := bw.trans (b9.mono bw.size)
          go_wp2
          go_ret
          exact ⟨rfl, bf⟩
        · go_wp2
          go_roundw
          case rel => first | exact ⟨i + 1, by omega, by go_num, hbo⟩ | ((repeat apply Exists.intro); exact ⟨⟨i + 1, by omega, by go_num, hbo⟩, rfl⟩)
          case measure => simp [intOf]; omega
      · have hge : ¬ ((i : Int) < (ss.length : Int)) := by omega
        have gW := (hbo.block _ g0).trans gA
        have gw0 : w.heap.size < wr.heap.size := (Array.getElem?_eq_some_iff.1 gW).1
        have y0 : wr.cell? ⟨w.heap.size, 0, none⟩ = some (.int .i64 hd.e) := by rw [cell_of_row _ _ _ _ _ _ gW]; rfl
        have y1 : wr.cell? ⟨w.heap.size, 1, none⟩ = some (.int .i64 hd.t) := by rw [cell_of_row _ _ _ _ _ _ gW]; rfl
        have y2 : wr.cell? ⟨w.heap.size, 2, none⟩ = some (.slice htp hd.tr.length htc) := by rw [cell_of_row _ _ _ _ _ _ gW]; rfl
        have y3 : wr.cell? ⟨w.heap.size, 3, none⟩ = some (.int .i64 hd.c) := by rw [cell_of_row _ _ _ _ _ _ gW]; rfl
        have y4 : wr.cell? ⟨w.heap.size, 4, none⟩ = some (.slice hlp hd.li.length hlc) := by rw [cell_of_row _ _ _ _ _ _ gW]; rfl
        have y5 : wr.cell? ⟨w.heap.size, 5, none⟩ = some (.slice hkp hd.lk.length hkc) := by rw [cell_of_row _ _ _ _ _ _ gW]; rfl
        have hF1 := (HC.out wr bw).1
        clear hQ gA g0
        go_wp2_with fail
        refine hF1.mono ?_
        rintro e1 w1 ⟨rtp, rtc, rlp, rlc, rkp, rkc, rfl, r1, r2, r3, b1⟩
        have bw1 := bw.trans (b1.mono bw.size)
        have gB := (b1.block _ gw0).trans gW
        have bX1 := (Below.refl w1.heap.size w1).alloc (Nat.le_refl _) (.cells #[.int .i64 r.e, .int .i64 r.t, .slice rtp r.tr.length rtc, .int .i64 r.c, .slice rlp r.li.length rlc, .slice rkp r.lk.length rkc] 25)
        have gR := heap_alloc_new w1 (.cells #[.int .i64 r.e, .int .i64 r.t, .slice rtp r.tr.length rtc, .int .i64 r.c, .slice rlp r.li.length rlc, .slice rkp r.lk.length rkc] 25)
        obtain ⟨X1, hX1⟩ : ∃ X1, X1 = w1.alloc (.cells #[.int .i64 r.e, .int .i64 r.t, .slice rtp r.tr.length rtc, .int .i64 r.c, .slice rlp r.li.length rlc, .slice rkp r.lk.length rkc] 25) := ⟨_, rfl⟩
        rw [← hX1] at bX1 gR
        have bw2 := bw1.trans (bX1.mono bw1.size)
        have gC := (bX1.block _ (Array.getElem?_eq_some_iff.1 gB).1).trans gB
        have gr1 : w1.heap.size < X1.heap.size := (Array.getElem?_eq_some_iff.1 gR).1
        have hF2 := (HC.out X1 bw2).2
        clear hF1 b1 gB y0 y1 y2 y3 y4 y5 gW
        have z0 : X1.cell? ⟨w.heap.size, 0, none⟩ = some (.int .i64 hd.e) := by rw [cell_of_row _ _ _ _ _ _ gC]; rfl
        have z1 : X1.cell? ⟨w.heap.size, 1, none⟩ = some (.int .i64 hd.t) := by rw [cell_of_row _ _ _ _ _ _ gC]; rfl
        have z2 : X1.cell? ⟨w.heap.size, 2, none⟩ = some (.slice htp hd.tr.length htc) := by rw [cell_of_row _ _ _ _ _ _ gC]; rfl
        have z3 : X1.cell? ⟨w.heap.size, 3, none⟩ = some (.int .i64 hd.c) := by rw [cell_of_row _ _ _ _ _ _ gC]; rfl
        have z4 : X1.cell? ⟨w.heap.size, 4, none⟩ = some (.slice hlp hd.li.length hlc) := by rw [cell_of_row _ _ _ _ _ _ gC]; rfl
        have z5 : X1.cell? ⟨w.heap.size, 5, none⟩ = some (.slice hkp hd.lk.length hkc) := by rw [cell_of_row _ _ _ _ _ _ gC]; rfl
        rw [hX1] at z0 z1 z2 z3 z4 z5
        go_wp2_with fail
        rw [← hX1]
        refine hF2.mono ?_
        rintro e2 w2 ⟨stp, stc, slp, slc, skp, skc, rfl, s1, s2, s3, b2⟩
        have bw3 := bw2.trans (b2.mono bw2.size)
        have gR2 := (b2.block _ gr1).trans gR
        have bX2 := (Below.refl w2.heap.size w2).alloc (Nat.le_refl _) (.cells #[.int .i64 r.e, .int .i64 r.t, .slice stp r.tr.length stc, .int .i64 r.c, .slice slp r.li.length slc, .slice skp r.lk.length skc] 25)
        have gS := heap_alloc_new w2 (.cells #[.int .i64 r.e, .int .i64 r.t, .slice stp r.tr.length stc, .int .i64 r.c, .slice slp r.li.length slc, .slice skp r.lk.length skc] 25)
        obtain ⟨X2, hX2⟩ : ∃ X2, X2 = w2.alloc (.cells #[.int .i64 r.e, .int .i64 r.t, .slice stp r.tr.length stc, .int .i64 r.c, .slice slp r.li.length slc, .slice skp r.lk.length skc] 25) := ⟨_, rfl⟩
        rw [← hX2] at bX2 gS
        have BB := bw3.trans (bX2.mono bw3.size)
        have gR3 := (bX2.block _ (Array.getElem?_eq_some_iff.1 gR2).1).trans gR2
        have hSa := same13_any r r _ _ _ _ _ _ X2 (((r1.later bX1).later b2).later bX2) (s1.later bX2) (((r2.later bX1).later b2).later bX2) (s2.later bX2) (((r3.later bX1).later b2).later bX2) (s3.later bX2)
        clear hF2 gR2 z0 z1 z2 z3 z4 z5 r1 r2 r3 s1 s2 s3 gR gC hX1 bX1 b2 bX2 HC
        have a0 : X2.cell? ⟨w1.heap.size, 0, none⟩ = some (.int .i64 r.e) := by rw [cell_of_row _ _ _ _ _ _ gR3]; rfl
        have a1 : X2.cell? ⟨w1.heap.size, 1, none⟩ = some (.int .i64 r.t) := by rw [cell_of_row _ _ _ _ _ _ gR3]; rfl
        have a2 : X2.cell? ⟨w1.heap.size, 2, none⟩ = some (.slice rtp r.tr.length rtc) := by rw [cell_of_row _ _ _ _ _ _ gR3]; rfl
        have a3 : X2.cell? ⟨w1.heap.size, 3, none⟩ = some (.int .i64 r.c) := by rw [cell_of_row _ _ _ _ _ _ gR3]; rfl
        have a4 : X2.cell? ⟨w1.heap.size, 4, none⟩ = some (.slice rlp r.li.length rlc) := by rw [cell_of_row _ _ _ _ _ _ gR3]; rfl
        have a5 : X2.cell? ⟨w1.heap.size, 5, none⟩ = some (.slice rkp r.lk.length rkc) := by rw [cell_of_row _ _ _ _ _ _ gR3]; rfl
        have bb0 : X2.cell? ⟨w2.heap.size, 0, none⟩ = some (.int .i64 r.e) := by rw [cell_of_row _ _ _ _ _ _ gS]; rfl
        have bb1 : X2.cell? ⟨w2.heap.size, 1, none⟩ = some (.int .i64 r.t) := by rw [cell_of_row _ _ _ _ _ _ gS]; rfl
        have bb2 : X2.cell? ⟨w2.heap.size, 2, none⟩ = some (.slice stp r.tr.length stc) := by rw [cell_of_row _ _ _ _ _ _ gS]; rfl
        have bb3 : X2.cell? ⟨w2.heap.size, 3, none⟩ = some (.int .i64 r.c) := by rw [cell_of_row _ _ _ _ _ _ gS]; rfl
        have bb4 : X2.cell? ⟨w2.heap.size, 4, none⟩ = some (.slice slp r.li.length slc) := by rw [cell_of_row _ _ _ _ _ _ gS]; rfl
        have bb5 : X2.cell? ⟨w2.heap.size, 5, none⟩ = some (.slice skp r.lk.length skc) := by rw [cell_of_row _ _ _ _ _ _ gS]; rfl
        rw [hX2] at a0 a1 a2 a3 a4 a5 bb0 bb1 bb2 bb3 bb4 bb5
        go_wp2_with fail
        rw [← hX2]
        refine hSa.mono ?_
        rintro e3 w3 ⟨SB, rfl, hsb, b3⟩
        obtain rfl : SB = true := by simpa using hsb
        have bf3 := BB.trans (b3.mono BB.size)
        clear hSa hsb BB b3 a0 a1 a2 a3 a4 a5 bb0 bb1 bb2 bb3 bb4 bb5 hX2 gR3 gS
        go_wp2_with fail
        refine (ekAwake_any _).mono ?_
        rintro e9 w9 ⟨rfl, b9⟩
        have bf := bf3.trans (b9.mono bf3.size)
        go_wp2
        go_ret
        exact ⟨rfl, bf⟩

end Go.Proofs.YtpndpmkoegmbkaaDoor

namespace Go.Proofs.YtpndpmkoegmbkaaDoor
open Go.ChangeShapes Go.WideShapes Go.ChangeAt Go.RowKit

set_option maxRecDepth 100000 in
theorem seekAnyContract (H : Type) (enc : TypeId × Value → H) (W : World) (base : Nat) (args : Array Value) (ds gs : List (DataW H)) (before : List MemPlace)
    (hval : ∀ (j : Nat) t v, Tryd.f5.params[j]? = some t → args[j]? = some v → Value.okWide Tryd.prog W .any base t v)
    (hW : DataW.Whole enc Tryd.prog Tryd.f5.params.toList Rows.seekAnySpec.vars false W args.toList ds gs before) (hsz0 : (DataW.weightsEach Tryd.prog (Tryd.f5.params.toList ++ (OpenSpec.ofChange Rows.seekAnySpec).bare.plain.varTypes Tryd.prog) (ds ++ gs)).all (· ≤ reachBytes) = true) (hL : laidMetH Tryd.prog Rows.seekAnyRow.laid W) :
    Calls Tryd.prog 5 args W fun e W' => ∃ v, e = .returned v ∧ Rows.seekAnySpec.post enc Tryd.prog Tryd.f5 false true false false W args v W' := by
  have hT : Tabs W := tabs_of (laidMet.tail (laidMet.tail hL))
  have hD : TD W := td_of hL
  have hW' := hW
  obtain ⟨p, q, hA0, hV, rfl, hfz, hnd⟩ := hW
  have hA : DataW.TrodAll enc Tryd.prog W 0 (fun _ => true) true Tryd.f5.params.toList args.toList ds p := hA0
  rw [Tryd.params5] at hA hval hsz0
  obtain ⟨v0, vs0, d0, ds0, p0, q0, hargs, rfl, rfl, h0, r0⟩ := trodAll_cons hA
  obtain ⟨v1, vs1, d1, ds1, p1, q1, rfl, rfl, rfl, h1, r1⟩ := trodAll_cons r0
  obtain ⟨v2, vs2, d2, ds2, p2, q2, rfl, rfl, rfl, h2, r2⟩ := trodAll_cons r1
  obtain ⟨v3, vs3, d3, ds3, p3, q3, rfl, rfl, rfl, h3, r3⟩ := trodAll_cons r2
  obtain ⟨rfl, rfl, rfl⟩ := trodAll_nil r3
  obtain rfl : args = #[v0, v1, v2, v3] := by cases args; simp_all
  obtain ⟨rfl, rfl⟩ := trodVars_none hV
  obtain ⟨a0, rfl, rfl, rfl, w0⟩ := open_int Tryd.underlying3 (hval 0 3 v0 rfl rfl) h0
  have k1 := h1
  have lt1 : ∀ x ∈ p1, x.block < W.heap.size := by obtain ⟨m, hm⟩ := k1; exact DataW.trod_lt m _ _ _ hm
  obtain ⟨re1, rt1, rc1, tv1, lv1, kv1, tr1, li1, lk1, rfl, hl1, hm1, hn1⟩ := open_rec (hval 1 25 v1 rfl rfl) h1
  have k2 := h2
  have lt2 : ∀ x ∈ p2, x.block < W.heap.size := by obtain ⟨m, hm⟩ := k2; exact DataW.trod_lt m _ _ _ hm
  obtain ⟨rs2, hl2⟩ := open_recss (hval 2 35 v2 rfl rfl) h2
  obtain ⟨a3, rfl, rfl, rfl, w3⟩ := open_int Tryd.underlying3 (hval 3 3 v3 rfl rfl) h3
  clear hA0
  simp only [List.append_nil] at hW'
  refine (ekAnyWalk a0 a3 ⟨re1, rt1, rc1, tr1, li1, lk1⟩ _ _ _ v2 rs2 W hl1 hm1 hn1 hl2 hD hT).mono fun e W' ⟨he, bel⟩ => ?_
  subst he
  exact ⟨_, rfl, _, _, _, [], _, [], hW', trodAll_mk1 (shut_bool Tryd.underlying4 _), (trodAll_cons_mk (shut_int Tryd.underlying3 w0) (trodAll_cons_mk (Below.trod laidOut (by kernel_rfl) (of_decide_eq_true (by kernel_rfl)) k1 bel lt1) (trodAll_cons_mk (Below.trod laidOut (by kernel_rfl) (of_decide_eq_true (by kernel_rfl)) k2 bel lt2) (trodAll_cons_mk (shut_int Tryd.underlying3 w3) trodAll_mk0)))), rfl, bel.frame _, fun h => by cases h⟩

theorem seekAnyMet (os : Os) : laidMet Tryd.prog Rows.seekAnyRow.laid (({ World.holding Tryd.prog os ⟨#[], #[], []⟩ with heap := (((((((((World.holding Tryd.prog os ⟨#[], #[], []⟩).heap).modify 0 fun | .cells _ t frozen => .cells tab32Cells t frozen | o => o)).modify 1 fun | .cells _ t frozen => .cells tab64Cells t frozen | o => o)).modify 2 fun | .cells _ t frozen => .cells startCells t frozen | o => o)).modify 3 fun | .cells _ t frozen => .cells roundsCells t frozen | o => o) } : World).forCall (fun _ _ => 0) ⟨#[], #[.int .i64 0, .agg #[.int .i64 0, .int .i64 0, .slice none 0 0, .int .i64 0, .slice none 0 0, .slice none 0 0], .slice none 0 0, .int .i64 0], []⟩).memory :=
  laidMet_of_run' 8 (by kernel_rfl) (by kernel_rfl)
theorem seekAnyReads (os : Os) {H : Type} (enc : TypeId × Value → H) : ∃ places, DataW.whole enc Tryd.prog (({ World.holding Tryd.prog os ⟨#[], #[], []⟩ with heap := (((((((((World.holding Tryd.prog os ⟨#[], #[], []⟩).heap).modify 0 fun | .cells _ t frozen => .cells tab32Cells t frozen | o => o)).modify 1 fun | .cells _ t frozen => .cells tab64Cells t frozen | o => o)).modify 2 fun | .cells _ t frozen => .cells startCells t frozen | o => o)).modify 3 fun | .cells _ t frozen => .cells roundsCells t frozen | o => o) } : World).forCall (fun _ _ => 0) ⟨#[], #[.int .i64 0, .agg #[.int .i64 0, .int .i64 0, .slice none 0 0, .int .i64 0, .slice none 0 0, .slice none 0 0], .slice none 0 0, .int .i64 0], []⟩).memory Tryd.f5.params.toList Rows.seekAnySpec.vars false (#[.int .i64 0, .agg #[.int .i64 0, .int .i64 0, .slice none 0 0, .int .i64 0, .slice none 0 0, .slice none 0 0], .slice none 0 0, .int .i64 0] : Array Value).toList 8 = some ([.lit (.int .i64 0), .agg [.lit (.int .i64 0), .lit (.int .i64 0), .nil, .lit (.int .i64 0), .nil, .nil], .nil, .lit (.int .i64 0)], [], places) :=
  ⟨[], by kernel_rfl⟩

set_option maxRecDepth 100000 in
theorem seekAnyLifted (os : Os) (started : os.Started) (H : Type) (enc : TypeId × Value → H) (F : Stop.Interp) :
    ReturnsInHanded {} Tryd.checked os 5 .any ((OpenSpec.ofChange Rows.seekAnySpec).preRow enc Tryd.prog Tryd.f5 Rows.seekAnyRow.domain false Rows.seekAnyRow.laid) (((OpenSpec.ofChange Rows.seekAnySpec).at F).post enc Tryd.prog Tryd.f5 false true false false) := by
  obtain ⟨places, hx⟩ := seekAnyReads os enc
  refine returnsInHanded_of_row (C := Tryd.checked) (s := OpenSpec.ofChange Rows.seekAnySpec) own started (by kernel_rfl) Tryd.func5
    (witness_row_at (enc := enc) (C := Tryd.checked) false ({ World.holding Tryd.prog os ⟨#[], #[], []⟩ with heap := (((((((((World.holding Tryd.prog os ⟨#[], #[], []⟩).heap).modify 0 fun | .cells _ t frozen => .cells tab32Cells t frozen | o => o)).modify 1 fun | .cells _ t frozen => .cells tab64Cells t frozen | o => o)).modify 2 fun | .cells _ t frozen => .cells startCells t frozen | o => o)).modify 3 fun | .cells _ t frozen => .cells roundsCells t frozen | o => o) } : World) #[.int .i64 0, .agg #[.int .i64 0, .int .i64 0, .slice none 0 0, .int .i64 0, .slice none 0 0, .slice none 0 0], .slice none 0 0, .int .i64 0] rfl (by kernel_rfl) (by kernel_rfl) (by kernel_rfl)
      (OpenSpec.preRow_of_cond 8 hx (by kernel_rfl) (fun k hk => by cases hk) (by kernel_rfl) (seekAnyMet os))) ?_
  intro W base args ds gs before hval hW _ _ hsz hL _ _
  exact seekAnyContract H enc W base args ds gs before hval hW hsz hL

theorem seekAnySaid_holds : Rows.SeekAnySaid :=
  OpenClaim.holds_of_cond 5 Tryd.f5 rfl rfl rfl rfl rfl rfl rfl ⟨rfl, rfl, rfl, rfl, rfl⟩ rfl rfl rfl rfl rfl (by kernel_rfl) Tryd.func5 (by kernel_rfl)
    (of_decide_eq_true (by kernel_rfl)) (by unfold Func.isWrapper; first | (rw [if_pos (by decide +kernel)]; kernel_rfl) | (rw [if_neg (by decide +kernel)]; exact ⟨rfl, rfl⟩))
    (fun os started H enc _ F => by rw [OpenClaim.pre_eq_preRow]; exact seekAnyLifted os started H enc F)

theorem seekAnyPlain (f : FuncId) (fn : Func) (hf : Tryd.pinned.checked.prog.funcNamed "annals/annalslaw20.SeekAny" = some f) (hfn : Tryd.pinned.checked.prog.funcs[f]? = some fn) :
    false = Tryd.pinned.checked.prog.looks [] ∧ ∀ (j : Nat) t, fn.params[j]? = some t → Tryd.pinned.checked.prog.wantsStandIn t = false := by
  obtain rfl : f = 5 := Option.some.inj ((show Tryd.prog.funcNamed "annals/annalslaw20.SeekAny" = some 5 by kernel_rfl).symm.trans hf) |>.symm
  obtain rfl : fn = Tryd.f5 := (Option.some.inj (Tryd.func5.symm.trans hfn)).symm
  refine ⟨by kernel_rfl, fun j t ht => ?_⟩
  rw [Tryd.params5] at ht
  have hm : t = 3 ∨ t = 25 ∨ t = 35 ∨ t = 3 := by simpa using Array.mem_of_getElem? ht
  rcases hm with rfl | rfl | rfl | rfl
  · exact (show Tryd.prog.wantsStandIn 3 = false by kernel_rfl)
  · exact (show Tryd.prog.wantsStandIn 25 = false by kernel_rfl)
  · exact (show Tryd.prog.wantsStandIn 35 = false by kernel_rfl)
  · exact (show Tryd.prog.wantsStandIn 3 = false by kernel_rfl)

theorem seekAny_holds : Rows.SeekAnyCardSaid :=
  Claim7.holds_tied_plain_at .later [] _ _ _ _ seekAnySaid_holds (fun _ h => by cases h) (by kernel_rfl) (fun _ h => by cases h) seekAny_row_tie rfl ⟨rfl, rfl⟩ (by kernel_rfl) rfl seekAnyPlain (by kernel_rfl)

#print axioms seekAny_holds
end Go.Proofs.YtpndpmkoegmbkaaDoor
