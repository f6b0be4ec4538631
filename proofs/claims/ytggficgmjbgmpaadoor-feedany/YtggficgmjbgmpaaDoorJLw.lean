/- What this text proves: the walk of the statement FeedAny over this program: it answers true for any arguments, and writes nothing that was there. Proved here: Rows.FeedAnyCardSaid: for every size, all records, every page, all events and all lists the Go function annalslaw19.FeedAny returns true (whether a page is shown is told as the document tells it). No condition. -/
import Derived.Test.YtggficgmjbgmpaaDoorJFdCheck
import Derived.Test.YtggficgmjbgmpaaDoorJFdRCheck
import Derived.Test.YtggficgmjbgmpaaDoorJFc
import Derived.Test.YtggficgmjbgmpaaDoorJOpenFeed
namespace Go.Proofs.YtggficgmjbgmpaaDoor
open Go.RowKit

set_option maxRecDepth 100000 in
set_option maxHeartbeats 4000000 in
theorem fdAnyWalk (size ix lm : Int) (rv ev lv : Value) (rs : List Rk) (evs : List Ev) (lss : List (List (List UInt8))) (w : World) (hr0 : KA w rv rs) (hev : EA w ev evs) (hls : GA PA w lv lss) (hT : Tabs w) (hrc : ∀ r ∈ rs, -9223372036854775808 ≤ r.c ∧ r.c ≤ 9223372036854775807) (hix : -9223372036854775808 ≤ ix ∧ ix ≤ 9223372036854775807) (hlm : -9223372036854775808 ≤ lm ∧ lm ≤ 9223372036854775807) :
    Calls Tryd.prog 4 #[.int .i64 size, rv, .int .i64 ix, .int .i64 lm, ev, lv] w fun x w' => x = .returned (.bool true) ∧ Below w.heap.size w w' := by
  have HCk : Hid (rs.length ≤ 40 → evs.length ≤ 60 → ∀ W, Below w.heap.size w W → Calls Tryd.prog 15 #[.int .i64 size, rv, .int .i64 ix, .int .i64 lm, ev, lv] W fun e w' => ∃ z : Int, e = .returned (.int .i64 z) ∧ ((z = 0 ∧ Hid (Good size rs lss (cutsG 0 (cntK rs) ix lm) evs)) ∨ (z = 95 ∧ Hid (¬ Good size rs lss (cutsG 0 (cntK rs) ix lm) evs))) ∧ Below W.heap.size W w') :=
    fun h1 h2 W hW => check19_any size ix lm rv ev lv rs evs lss W (hr0.later hW) (hev.later hW) (hls.later hW (fun _ _ h => h.later hW)) (hT.later hW) (by omega) (by omega) hrc hix hlm
  have HCr : Hid (rs.length ≤ 40 → evs.length ≤ 60 → ∀ W, Below w.heap.size w W → Calls Tryd.prog 16 #[.int .i64 size, rv, .int .i64 ix, .int .i64 lm, ev, lv] W fun e w' => ∃ z : Int, e = .returned (.int .i64 z) ∧ ((z = 0 ∧ Hid (Good size rs lss (cutsG 0 (cntK rs) ix lm) evs)) ∨ (z = 95 ∧ Hid (¬ Good size rs lss (cutsG 0 (cntK rs) ix lm) evs))) ∧ Below W.heap.size W w') :=
    fun h1 h2 W hW => rcheck19_any size ix lm rv ev lv rs evs lss W (hr0.later hW) (hev.later hW) (hls.later hW (fun _ _ h => h.later hW)) (by omega) (by omega) hrc hix hlm
  generalize Good size rs lss (cutsG 0 (cntK rs) ix lm) evs = G at *
  obtain ⟨p, c, rfl⟩ := hr0.shape
  obtain ⟨pe, ce, rfl⟩ := hev.shape
  obtain ⟨pg, cg, rfl⟩ := hls.shape
  have m1 := hr0.len.2
  have m2 := hev.len.2
  have m3 := hls.len.2
  unfold maxLen at m1 m2 m3
  clear hev hls hT hrc hix hlm
  go_enter Tryd.func4, Tryd.ntmps4
  by_cases a1 : 40 < rs.length
  · have a1' : (40 : Int) < (rs.length : Int) := by omega
    clear HCk HCr hr0
    go_wp2_with fail
    refine (fdAwake_any _).mono ?_
    rintro e w8 ⟨rfl, b8⟩
    go_wp2
    go_ret
    exact ⟨rfl, b8⟩
  have a1' : ¬ (40 : Int) < (rs.length : Int) := by omega
  by_cases a2 : 60 < evs.length
  · have a2' : (60 : Int) < (evs.length : Int) := by omega
    clear HCk HCr hr0
    go_wp2_with fail
    refine (fdAwake_any _).mono ?_
    rintro e w8 ⟨rfl, b8⟩
    go_wp2
    go_ret
    exact ⟨rfl, b8⟩
  have a2' : ¬ (60 : Int) < (evs.length : Int) := by omega
  by_cases a3 : 40 < lss.length
  · have a3' : (40 : Int) < (lss.length : Int) := by omega
    clear HCk HCr hr0
    go_wp2_with fail
    refine (fdAwake_any _).mono ?_
    rintro e w8 ⟨rfl, b8⟩
    go_wp2
    go_ret
    exact ⟨rfl, b8⟩
  have a3' : ¬ (40 : Int) < (lss.length : Int) := by omega
  have HC1 := HCk.out (by omega) (by omega)
  have HC2 := HCr.out (by omega) (by omega)
  have HD1 : Hid _ := HC1
  have HD2 : Hid _ := HC2
  clear HCk HCr HC1 HC2
  go_wp2
  go_loopw [14, 31] (fun _ i wr => ∃ k : Nat, k ≤ rs.length ∧ i = .int .i64 (k : Int) ∧ Below w.heap.size w wr) (fun _ i _ => rs.length - (intOf i).toNat)
  case atStart => exact ⟨0, Nat.zero_le _, rfl, Below.refl _ _⟩
  case round =>
    obtain ⟨k, hk, rfl, hbe⟩ := hrel
    have hsz := hbe.size
    by_cases hlt : k < rs.length
    · obtain ⟨bl, o, rfl⟩ := hr0.addr (by omega)
      obtain ⟨r, t, tp, tn, tc, lp, lc, kp, kn, kc, hx, hkc⟩ := hr0.get k hlt
      obtain ⟨⟨c0, c1, c2, c3, c4, c5⟩, _⟩ := hkc.later hbe
      have hlt2 : (k : Int) < (rs.length : Int) := by omega
      obtain ⟨C, hC⟩ : ∃ C, wr.alloc (.cells #[.int .i64 r.e, .int .i64 t, .slice tp tn tc, .int .i64 r.c, .slice lp r.li.length lc, .slice kp kn kc] 41) = C := ⟨_, rfl⟩
      have gC := heap_alloc_new wr (.cells #[.int .i64 r.e, .int .i64 t, .slice tp tn tc, .int .i64 r.c, .slice lp r.li.length lc, .slice kp kn kc] 41)
      have hbC := hbe.alloc hsz (.cells #[.int .i64 r.e, .int .i64 t, .slice tp tn tc, .int .i64 r.c, .slice lp r.li.length lc, .slice kp kn kc] 41)
      rw [hC] at gC hbC
      have f3 : C.cell? ⟨wr.heap.size, 3, none⟩ = some (.int .i64 r.c) := by rw [cell_of_row _ _ _ _ _ _ gC]; rfl
      generalize r.c = rc at *
      clear hx hkc gC HD1 HD2
      by_cases e1 : 2000 < rc
      · by_cases e2 : rc < 1048576
        · go_wp2_with fail
          refine (fdAwake_any _).mono ?_
          rintro e w8 ⟨rfl, b8'⟩
          have b8 := hbC.trans (b8'.mono hbC.size)
          go_wp2
          go_ret
          exact ⟨rfl, b8⟩
        · go_wp2
          go_roundw
          case rel => exact ⟨k + 1, by omega, by go_num, hbC⟩
          case measure => simp [intOf]; omega
      · go_wp2
        go_roundw
        case rel => exact ⟨k + 1, by omega, by go_num, hbC⟩
        case measure => simp [intOf]; omega
    · obtain rfl : k = rs.length := by omega
      go_wp2_with fail
      refine (HD1.out _ hbe).mono ?_
      rintro e w1 ⟨z1, rfl, hz1, b1'⟩
      have b1 := hbe.trans (b1'.mono hbe.size)
      clear HD1 b1'
      go_wp2_with fail
      refine (HD2.out _ b1).mono ?_
      rintro e w2 ⟨z2, rfl, hz2, b2'⟩
      have b2 := b1.trans (b2'.mono b1.size)
      clear HD2 b2'
      obtain rfl : z1 = z2 := by
        rcases hz1 with ⟨rfl, g⟩ | ⟨rfl, g⟩ <;> rcases hz2 with ⟨rfl, g'⟩ | ⟨rfl, g'⟩ <;> first | rfl | exact absurd g.out g'.out | exact absurd g'.out g.out
      clear hz1 hz2
      go_wp2_with fail
      refine (fdAwake_any _).mono ?_
      rintro e w8 ⟨rfl, b8'⟩
      have b8 := b2.trans (b8'.mono b2.size)
      go_wp2
      go_ret
      exact ⟨rfl, b8⟩

end Go.Proofs.YtggficgmjbgmpaaDoor

namespace Go.Proofs.YtggficgmjbgmpaaDoor
open Go.ChangeShapes Go.WideShapes Go.ChangeAt Go.RowKit

set_option maxRecDepth 100000 in
theorem feedAnyContract (H : Type) (enc : TypeId × Value → H) (W : World) (base : Nat) (args : Array Value) (ds gs : List (DataW H)) (before : List MemPlace)
    (hval : ∀ (j : Nat) t v, Tryd.f4.params[j]? = some t → args[j]? = some v → Value.okWide Tryd.prog W .any base t v)
    (hW : DataW.Whole enc Tryd.prog Tryd.f4.params.toList Rows.feedAnySpec.vars false W args.toList ds gs before) (hsz0 : (DataW.weightsEach Tryd.prog (Tryd.f4.params.toList ++ (OpenSpec.ofChange Rows.feedAnySpec).bare.plain.varTypes Tryd.prog) (ds ++ gs)).all (· ≤ reachBytes) = true) (hL : laidMetH Tryd.prog Rows.feedAnyRow.laid W) :
    Calls Tryd.prog 4 args W fun e W' => ∃ v, e = .returned v ∧ Rows.feedAnySpec.post enc Tryd.prog Tryd.f4 false true false false W args v W' := by
  have hT : Tabs W := tabs_of hL
  have hW' := hW
  obtain ⟨p, q, hA0, hV, rfl, hfz, hnd⟩ := hW
  have hA : DataW.TrodAll enc Tryd.prog W 0 (fun _ => true) true Tryd.f4.params.toList args.toList ds p := hA0
  rw [Tryd.params4] at hA hval hsz0
  obtain ⟨v0, vs0, d0, ds0, p0, q0, hargs, rfl, rfl, h0, r0⟩ := trodAll_cons hA
  obtain ⟨v1, vs1, d1, ds1, p1, q1, rfl, rfl, rfl, h1, r1⟩ := trodAll_cons r0
  obtain ⟨v2, vs2, d2, ds2, p2, q2, rfl, rfl, rfl, h2, r2⟩ := trodAll_cons r1
  obtain ⟨v3, vs3, d3, ds3, p3, q3, rfl, rfl, rfl, h3, r3⟩ := trodAll_cons r2
  obtain ⟨v4, vs4, d4, ds4, p4, q4, rfl, rfl, rfl, h4, r4⟩ := trodAll_cons r3
  obtain ⟨v5, vs5, d5, ds5, p5, q5, rfl, rfl, rfl, h5, r5⟩ := trodAll_cons r4
  obtain ⟨rfl, rfl, rfl⟩ := trodAll_nil r5
  obtain rfl : args = #[v0, v1, v2, v3, v4, v5] := by cases args; simp_all
  obtain ⟨rfl, rfl⟩ := trodVars_none hV
  obtain ⟨a0, rfl, rfl, rfl, w0⟩ := open_int Tryd.underlying3 (hval 0 3 v0 rfl rfl) h0
  have k1 := h1
  have lt1 : ∀ x ∈ p1, x.block < W.heap.size := by obtain ⟨m, hm⟩ := k1; exact DataW.trod_lt m _ _ _ hm
  obtain ⟨rs1, hl1, hw1⟩ := open_recsK (hval 1 37 v1 rfl rfl) h1
  obtain ⟨a2, rfl, rfl, rfl, w2⟩ := open_int Tryd.underlying3 (hval 2 3 v2 rfl rfl) h2
  obtain ⟨a3, rfl, rfl, rfl, w3⟩ := open_int Tryd.underlying3 (hval 3 3 v3 rfl rfl) h3
  have k4 := h4
  have lt4 : ∀ x ∈ p4, x.block < W.heap.size := by obtain ⟨m, hm⟩ := k4; exact DataW.trod_lt m _ _ _ hm
  obtain ⟨ev4, hl4⟩ := open_events (hval 4 38 v4 rfl rfl) h4
  have k5 := h5
  have lt5 : ∀ x ∈ p5, x.block < W.heap.size := by obtain ⟨m, hm⟩ := k5; exact DataW.trod_lt m _ _ _ hm
  obtain ⟨lss5, hl5⟩ := open_rowss (hval 5 25 v5 rfl rfl) h5
  clear hA0
  simp only [List.append_nil] at hW'
  refine (fdAnyWalk a0 a2 a3 v1 v4 v5 rs1 ev4 lss5 W hl1 hl4 hl5 hT hw1 (bounds_i64 w2) (bounds_i64 w3)).mono fun e W' ⟨he, bel⟩ => ?_
  subst he
  exact ⟨_, rfl, _, _, _, [], _, [], hW', trodAll_mk1 (shut_bool Tryd.underlying4 _), (trodAll_cons_mk (shut_int Tryd.underlying3 w0) (trodAll_cons_mk (Below.trod laidOut (by kernel_rfl) (of_decide_eq_true (by kernel_rfl)) k1 bel lt1) (trodAll_cons_mk (shut_int Tryd.underlying3 w2) (trodAll_cons_mk (shut_int Tryd.underlying3 w3) (trodAll_cons_mk (Below.trod laidOut (by kernel_rfl) (of_decide_eq_true (by kernel_rfl)) k4 bel lt4) (trodAll_cons_mk (Below.trod laidOut (by kernel_rfl) (of_decide_eq_true (by kernel_rfl)) k5 bel lt5) trodAll_mk0)))))), rfl, bel.frame _, fun h => by cases h⟩

theorem feedAnyMet (os : Os) : laidMet Tryd.prog Rows.feedAnyRow.laid (({ World.holding Tryd.prog os ⟨#[], #[], []⟩ with heap := ((World.holding Tryd.prog os ⟨#[], #[], []⟩).heap.modify 0 fun | .cells _ t frozen => .cells startCells t frozen | o => o).modify 1 fun | .cells _ t frozen => .cells roundsCells t frozen | o => o } : World).forCall (fun _ _ => 0) ⟨#[], #[.int .i64 0, .slice none 0 0, .int .i64 0, .int .i64 0, .slice none 0 0, .slice none 0 0], []⟩).memory :=
  laidMet_of_run' 8 (by kernel_rfl) (by kernel_rfl)
theorem feedAnyReads (os : Os) {H : Type} (enc : TypeId × Value → H) : ∃ places, DataW.whole enc Tryd.prog (({ World.holding Tryd.prog os ⟨#[], #[], []⟩ with heap := ((World.holding Tryd.prog os ⟨#[], #[], []⟩).heap.modify 0 fun | .cells _ t frozen => .cells startCells t frozen | o => o).modify 1 fun | .cells _ t frozen => .cells roundsCells t frozen | o => o } : World).forCall (fun _ _ => 0) ⟨#[], #[.int .i64 0, .slice none 0 0, .int .i64 0, .int .i64 0, .slice none 0 0, .slice none 0 0], []⟩).memory Tryd.f4.params.toList Rows.feedAnySpec.vars false (#[.int .i64 0, .slice none 0 0, .int .i64 0, .int .i64 0, .slice none 0 0, .slice none 0 0] : Array Value).toList 8 = some ([.lit (.int .i64 0), .nil, .lit (.int .i64 0), .lit (.int .i64 0), .nil, .nil], [], places) :=
  ⟨[], by kernel_rfl⟩

set_option maxRecDepth 100000 in
theorem feedAnyLifted (os : Os) (started : os.Started) (H : Type) (enc : TypeId × Value → H) (F : Stop.Interp) :
    ReturnsInHanded {} Tryd.checked os 4 .any ((OpenSpec.ofChange Rows.feedAnySpec).preRow enc Tryd.prog Tryd.f4 Rows.feedAnyRow.domain false Rows.feedAnyRow.laid) (((OpenSpec.ofChange Rows.feedAnySpec).at F).post enc Tryd.prog Tryd.f4 false true false false) := by
  obtain ⟨places, hx⟩ := feedAnyReads os enc
  refine returnsInHanded_of_row (C := Tryd.checked) (s := OpenSpec.ofChange Rows.feedAnySpec) own started (by kernel_rfl) Tryd.func4
    (witness_row_at (enc := enc) (C := Tryd.checked) false ({ World.holding Tryd.prog os ⟨#[], #[], []⟩ with heap := ((World.holding Tryd.prog os ⟨#[], #[], []⟩).heap.modify 0 fun | .cells _ t frozen => .cells startCells t frozen | o => o).modify 1 fun | .cells _ t frozen => .cells roundsCells t frozen | o => o } : World) #[.int .i64 0, .slice none 0 0, .int .i64 0, .int .i64 0, .slice none 0 0, .slice none 0 0] rfl (by kernel_rfl) (by kernel_rfl) (by kernel_rfl)
      (OpenSpec.preRow_of_cond 8 hx (by kernel_rfl) (fun k hk => by cases hk) (by kernel_rfl) (feedAnyMet os))) ?_
  intro W base args ds gs before hval hW _ _ hsz hL _ _
  exact feedAnyContract H enc W base args ds gs before hval hW hsz hL

theorem feedAnySaid_holds : Rows.FeedAnySaid :=
  OpenClaim.holds_of_cond 4 Tryd.f4 rfl rfl rfl rfl rfl rfl rfl ⟨rfl, rfl, rfl, rfl, rfl⟩ rfl rfl rfl rfl rfl (by kernel_rfl) Tryd.func4 (by kernel_rfl)
    (of_decide_eq_true (by kernel_rfl)) (by unfold Func.isWrapper; first | (rw [if_pos (by decide +kernel)]; kernel_rfl) | (rw [if_neg (by decide +kernel)]; exact ⟨rfl, rfl⟩))
    (fun os started H enc _ F => by rw [OpenClaim.pre_eq_preRow]; exact feedAnyLifted os started H enc F)

theorem feedAnyPlain (f : FuncId) (fn : Func) (hf : Tryd.pinned.checked.prog.funcNamed "annals/annalslaw19.FeedAny" = some f) (hfn : Tryd.pinned.checked.prog.funcs[f]? = some fn) :
    false = Tryd.pinned.checked.prog.looks [] ∧ ∀ (j : Nat) t, fn.params[j]? = some t → Tryd.pinned.checked.prog.wantsStandIn t = false := by
  obtain rfl : f = 4 := Option.some.inj ((show Tryd.prog.funcNamed "annals/annalslaw19.FeedAny" = some 4 by kernel_rfl).symm.trans hf) |>.symm
  obtain rfl : fn = Tryd.f4 := (Option.some.inj (Tryd.func4.symm.trans hfn)).symm
  refine ⟨by kernel_rfl, fun j t ht => ?_⟩
  rw [Tryd.params4] at ht
  have hm : t = 3 ∨ t = 37 ∨ t = 3 ∨ t = 3 ∨ t = 38 ∨ t = 25 := by simpa using Array.mem_of_getElem? ht
  rcases hm with rfl | rfl | rfl | rfl | rfl | rfl
  · exact (show Tryd.prog.wantsStandIn 3 = false by kernel_rfl)
  · exact (show Tryd.prog.wantsStandIn 37 = false by kernel_rfl)
  · exact (show Tryd.prog.wantsStandIn 3 = false by kernel_rfl)
  · exact (show Tryd.prog.wantsStandIn 3 = false by kernel_rfl)
  · exact (show Tryd.prog.wantsStandIn 38 = false by kernel_rfl)
  · exact (show Tryd.prog.wantsStandIn 25 = false by kernel_rfl)

theorem feedAny_holds : Rows.FeedAnyCardSaid :=
  Claim7.holds_tied_plain_at .later [] _ _ _ _ feedAnySaid_holds (fun _ h => by cases h) (by kernel_rfl) (fun _ h => by cases h) feedAny_row_tie rfl ⟨rfl, rfl⟩ (by kernel_rfl) rfl feedAnyPlain (by kernel_rfl)

#print axioms feedAny_holds
end Go.Proofs.YtggficgmjbgmpaaDoor
