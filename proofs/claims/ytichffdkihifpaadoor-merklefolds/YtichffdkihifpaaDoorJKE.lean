/- What this text proves: the walk of annalslaw11.awake over this program: it answers true. What this text proves: the walk of the statement MerkleFolds over this program: it answers true for any arguments, and writes nothing that was there. Proved here: Rows.MerkleFoldsCardSaid: for every two lists of digests and every three numbers the Go function annalslaw11.MerkleFolds returns true (the root that digests, and what shows them, come to, or the error). No condition; the two tables of package sha start as the program's text lays them. -/
import Derived.Test.YtichffdkihifpaaDoorKRoot
import Derived.Test.YtichffdkihifpaaDoorKCount
import Derived.Test.YtichffdkihifpaaDoorJKD
import Derived.Test.YtichffdkihifpaaDoorOpenD
namespace Go.Proofs.YtichffdkihifpaaDoor
open Go.RowKit

theorem rootF_one (size : Int) (l : List UInt8) : rootF size [l] = l := by
  unfold rootF
  rw [if_neg (by simp), ovF_some (l := l) (by simp [knR])]

theorem PA.one (w : World) (a : Value) (la : List UInt8) (ha : HB w a la) : PA (w.alloc (.cells #[a] 25)) (.slice (some ⟨w.heap.size, 0, none⟩) 1 1) [la] := by
  refine ⟨_, 1, [a], rfl, Nat.le_refl _, by decide, (fun h => by cases h), rfl, fun _ => ⟨_, 0, rfl, fun i x hx => ?_⟩, fun i x l hx hl => ?_⟩
  · rw [Nat.zero_add, cell_of_row _ _ i _ _ _ (heap_alloc_new w _)]
    simpa using hx
  · have hbe := (Below.refl w.heap.size w).alloc (Nat.le_refl _) (.cells #[a] 25)
    match i with
    | 0 => simp at hx hl; subst hx; subst hl; exact ha.later hbe
    | n + 1 => simp at hx

theorem cnt_545 : cntF 5 4 5 = 1 := by decide +kernel

set_option maxRecDepth 100000 in
set_option maxHeartbeats 1000000 in
theorem mkAwake_any (w : World) (hT : Tabs w) :
    Calls Tryd.prog 17 #[] w fun e w' => e = .returned (.bool true) ∧ Below w.heap.size w w' := by
  have hC := fun w => count_any 5 4 5 w
  rw [cnt_545] at hC
  have l1 : ∀ w : World, HB (w.alloc (.cells #[.int .u8 1, .int .u8 2, .int .u8 3, .int .u8 4] 5)) (.slice (some ⟨w.heap.size, 0, none⟩) 4 4) [1, 2, 3, 4] := fun w => HB.lit w 5 [1, 2, 3, 4] _ 4 rfl rfl (by decide)
  have hb1 := (Below.refl w.heap.size w).alloc (Nat.le_refl _) (.cells #[.int .u8 1, .int .u8 2, .int .u8 3, .int .u8 4] 5)
  have hb2 := hb1.alloc hb1.size (.cells #[.slice (some ⟨w.heap.size, 0, none⟩) 4 4] 25)
  have hp := PA.one _ _ _ (l1 w)
  rw [show (w.alloc (.cells #[.int .u8 1, .int .u8 2, .int .u8 3, .int .u8 4] 5)).heap.size = w.heap.size + 1 by simp] at hp
  have hR := root_any 4 _ [[1, 2, 3, 4]] _ hp (hT.later hb2) (by decide) (by rw [rootF_one]; decide)
  rw [rootF_one] at hR
  obtain ⟨D, hD⟩ : ∃ D : List UInt8, D = [1, 2, 3, 4] := ⟨_, rfl⟩
  rw [← hD] at hR
  simp only [← hD] at l1
  rw [show D.length = 4 by rw [hD]; rfl] at hR
  clear hp hT hD
  have HB2 : Hid (Below w.heap.size w ((w.alloc (.cells #[.int .u8 1, .int .u8 2, .int .u8 3, .int .u8 4] 5)).alloc (.cells #[.slice (some ⟨w.heap.size, 0, none⟩) 4 4] 25))) := hb2
  clear hb1 hb2
  go_enter Tryd.func17, Tryd.ntmps17
  go_wp2_with fail
  refine hR.mono ?_
  rintro x w1 ⟨p1, c1, rfl, k1, hb1, _⟩
  clear hR
  have hbA : Below w.heap.size w w1 := HB2.out.trans (hb1.mono HB2.out.size)
  clear HB2 hb1
  have hbL := (Below.refl w1.heap.size w1).alloc (Nat.le_refl _) (.cells #[.int .u8 1, .int .u8 2, .int .u8 3, .int .u8 4] 5)
  have hE := equal_t _ _ D D _ (k1.later hbL) (l1 w1) rfl
  have hbB := hbA.trans (hbL.mono hbA.size)
  clear k1 l1 hbA hbL
  go_wp2_with fail
  refine hE.mono ?_
  rintro x w2 ⟨rfl, hw⟩
  subst hw
  clear hE
  go_wp2_with fail
  refine (hC _).mono ?_
  rintro x w3 ⟨rfl, hb3⟩
  have hb := hbB.trans (hb3.mono hbB.size)
  clear hC hbB hb3
  go_wp2
  go_ret
  exact ⟨rfl, hb⟩

end Go.Proofs.YtichffdkihifpaaDoor

namespace Go.Proofs.YtichffdkihifpaaDoor
open Go.RowKit

set_option maxRecDepth 100000 in
set_option maxHeartbeats 4000000 in
theorem kfoldsWalk (size n lo : Int) (vi vo : Value) (i0 o0 : List (List UInt8)) (w : World) (hpi : PA w vi i0) (hpo : PA w vo o0) (hT : Tabs w) (hn0 : -9223372036854775808 ≤ n) (hn1 : n ≤ 9223372036854775807) :
    Calls Tryd.prog 4 #[.int .i64 size, .int .i64 n, .int .i64 lo, vi, vo] w fun e w' => e = .returned (.bool true) ∧ Below w.heap.size w w' := by
  have hF1 := kfew_any vi i0 w hpi
  have hF2 := kfew_any vo o0 w hpo
  have hl1 : (i0.take 40).length ≤ 40 := by simp; omega
  have hl2 : (o0.take 40).length ≤ 40 := by simp; omega
  generalize i0.take 40 = ins at *
  generalize o0.take 40 = outs at *
  clear hpi hpo
  obtain ⟨N, hN⟩ : ∃ N : Int, (if n < 1048576 then (if 2000 < n then 2000 else n) else n) = N := ⟨_, rfl⟩
  have hN2 : -9223372036854775808 ≤ N ∧ N ≤ 9223372036854775807 := by rw [← hN]; split <;> (try split) <;> omega
  have cF := fun a b W (hp : PA W a ins) (hq : PA W b outs) (hT : Tabs W) => fold_any size N lo a b ins outs W hT hp hq hN2.1 hN2.2 (by omega)
  have dF := fun a b W (hp : PA W a ins) (hq : PA W b outs) => rfold_any size N lo a b ins outs W hp hq (by omega) (by omega)
  generalize foldR size N lo ins outs = R at *
  clear hN2
  by_cases hn : n < 1048576
  · rw [if_pos hn] at hN
    go_enter Tryd.func4, Tryd.ntmps4
    go_wp2_with fail
    refine hF1.mono ?_
    rintro e w1 ⟨p1, c1, rfl, k1, hw⟩
    have hw2 := hw.symm
    clear hw hF1
    subst hw2
    go_wp2_with fail
    refine hF2.mono ?_
    rintro e w2 ⟨p2, c2, rfl, k2, hw⟩
    have hw2 := hw.symm
    clear hw hF2
    subst hw2
    have cF' := cF _ _ _ k1 k2 hT
    clear cF
    go_wp2_with fail
    refine cF'.mono ?_
    rintro e w3 ⟨p3, c3, rfl, k3, hb3⟩
    have T3 := hT.later hb3
    have dF' := dF _ _ w3 (k1.later hb3) (k2.later hb3)
    clear cF' dF k1 k2 hT
    go_wp2_with fail
    refine dF'.mono ?_
    rintro e w4 ⟨p4, c4, rfl, k4, hb4⟩
    have T4 := T3.later hb4
    have b04 := hb3.trans (hb4.mono hb3.size)
    have E1 := equal_t _ _ R.1 R.1 w4 (k3.later hb4) k4 rfl
    clear dF' T3 k3 k4 hb3 hb4
    go_wp2_with fail
    refine E1.mono ?_
    rintro e w5 ⟨rfl, hw⟩
    have hw2 := hw.symm
    clear hw E1
    subst hw2
    go_wp2_with fail
    refine (mkAwake_any _ T4).mono ?_
    rintro e w6 ⟨rfl, hb6⟩
    have b06 := b04.trans (hb6.mono b04.size)
    clear T4 b04 hb6
    go_wp2
    go_ret
    exact ⟨rfl, b06⟩
  · rw [if_neg hn] at hN
    subst hN
    go_enter Tryd.func4, Tryd.ntmps4
    go_wp2_with fail
    refine hF1.mono ?_
    rintro e w1 ⟨p1, c1, rfl, k1, hw⟩
    have hw2 := hw.symm
    clear hw hF1
    subst hw2
    go_wp2_with fail
    refine hF2.mono ?_
    rintro e w2 ⟨p2, c2, rfl, k2, hw⟩
    have hw2 := hw.symm
    clear hw hF2
    subst hw2
    have cF' := cF _ _ _ k1 k2 hT
    clear cF
    go_wp2_with fail
    refine cF'.mono ?_
    rintro e w3 ⟨p3, c3, rfl, k3, hb3⟩
    have T3 := hT.later hb3
    have dF' := dF _ _ w3 (k1.later hb3) (k2.later hb3)
    clear cF' dF k1 k2 hT
    go_wp2_with fail
    refine dF'.mono ?_
    rintro e w4 ⟨p4, c4, rfl, k4, hb4⟩
    have T4 := T3.later hb4
    have b04 := hb3.trans (hb4.mono hb3.size)
    have E1 := equal_t _ _ R.1 R.1 w4 (k3.later hb4) k4 rfl
    clear dF' T3 k3 k4 hb3 hb4
    go_wp2_with fail
    refine E1.mono ?_
    rintro e w5 ⟨rfl, hw⟩
    have hw2 := hw.symm
    clear hw E1
    subst hw2
    go_wp2_with fail
    refine (mkAwake_any _ T4).mono ?_
    rintro e w6 ⟨rfl, hb6⟩
    have b06 := b04.trans (hb6.mono b04.size)
    clear T4 b04 hb6
    go_wp2
    go_ret
    exact ⟨rfl, b06⟩

end Go.Proofs.YtichffdkihifpaaDoor

namespace Go.Proofs.YtichffdkihifpaaDoor
open Go.ChangeShapes Go.WideShapes Go.ChangeAt Go.RowKit

set_option maxRecDepth 100000 in
theorem merkleFoldsContract (H : Type) (enc : TypeId × Value → H) (W : World) (base : Nat) (args : Array Value) (ds gs : List (DataW H)) (before : List MemPlace)
    (hval : ∀ (j : Nat) t v, Tryd.f4.params[j]? = some t → args[j]? = some v → Value.okWide Tryd.prog W .any base t v)
    (hW : DataW.Whole enc Tryd.prog Tryd.f4.params.toList Rows.merkleFoldsSpec.vars false W args.toList ds gs before) (hsz0 : (DataW.weightsEach Tryd.prog (Tryd.f4.params.toList ++ (OpenSpec.ofChange Rows.merkleFoldsSpec).bare.plain.varTypes Tryd.prog) (ds ++ gs)).all (· ≤ reachBytes) = true) (hL : laidMetH Tryd.prog Rows.merkleFoldsRow.laid W) :
    Calls Tryd.prog 4 args W fun e W' => ∃ v, e = .returned v ∧ Rows.merkleFoldsSpec.post enc Tryd.prog Tryd.f4 false true false false W args v W' := by
  have hT : Tabs W := tabs_of hL
  have hW' := hW
  obtain ⟨p, q, hA0, hV, rfl, hfz, hnd⟩ := hW
  have hA : DataW.TrodAll enc Tryd.prog W 0 (fun _ => true) true Tryd.f4.params.toList args.toList ds p := hA0
  rw [Tryd.params4] at hA hval hsz0
  obtain ⟨v0, vs0, d0, ds0, p0, q0, hargs, rfl, rfl, h0, r0⟩ := trodAll_cons hA
  obtain ⟨v1, vs1, d1, ds1, p1, q1, rfl, rfl, rfl, h1, r1⟩ := trodAll_cons r0
  obtain ⟨v2, vs2, d2, ds2, p2, q2, rfl, rfl, rfl, h2, r2⟩ := trodAll_cons r1
  obtain ⟨v3, vs3, d3, ds3, p3, q3, rfl, rfl, rfl, h3, r3⟩ := trodAll_cons r2
  obtain ⟨v4, vs4, d4, ds4, p4, q4, rfl, rfl, rfl, h4, r4⟩ := trodAll_cons r3
  obtain ⟨rfl, rfl, rfl⟩ := trodAll_nil r4
  obtain rfl : args = #[v0, v1, v2, v3, v4] := by cases args; simp_all
  obtain ⟨rfl, rfl⟩ := trodVars_none hV
  obtain ⟨a0, rfl, rfl, rfl, w0⟩ := open_int Tryd.underlying3 (hval 0 3 v0 rfl rfl) h0
  obtain ⟨a1, rfl, rfl, rfl, w1⟩ := open_int Tryd.underlying3 (hval 1 3 v1 rfl rfl) h1
  obtain ⟨a2, rfl, rfl, rfl, w2⟩ := open_int Tryd.underlying3 (hval 2 3 v2 rfl rfl) h2
  have k3 := h3
  have lt3 : ∀ x ∈ p3, x.block < W.heap.size := by obtain ⟨m, hm⟩ := k3; exact DataW.trod_lt m _ _ _ hm
  obtain ⟨ls3, hl3⟩ := open_pa (hval 3 22 v3 rfl rfl) h3
  have k4 := h4
  have lt4 : ∀ x ∈ p4, x.block < W.heap.size := by obtain ⟨m, hm⟩ := k4; exact DataW.trod_lt m _ _ _ hm
  obtain ⟨ls4, hl4⟩ := open_pa (hval 4 22 v4 rfl rfl) h4
  clear hA0
  simp only [List.append_nil] at hW'
  refine (kfoldsWalk a0 a1 a2 v3 v4 ls3 ls4 W hl3 hl4 hT (bounds_i64 w1).1 (bounds_i64 w1).2).mono fun e W' ⟨he, bel⟩ => ?_
  subst he
  exact ⟨_, rfl, _, _, _, [], _, [], hW', trodAll_mk1 (shut_bool Tryd.underlying4 _), (trodAll_cons_mk (shut_int Tryd.underlying3 w0) (trodAll_cons_mk (shut_int Tryd.underlying3 w1) (trodAll_cons_mk (shut_int Tryd.underlying3 w2) (trodAll_cons_mk (Below.trod laidOut (by kernel_rfl) (of_decide_eq_true (by kernel_rfl)) k3 bel lt3) (trodAll_cons_mk (Below.trod laidOut (by kernel_rfl) (of_decide_eq_true (by kernel_rfl)) k4 bel lt4) trodAll_mk0))))), rfl, bel.frame _, fun h => by cases h⟩

theorem merkleFoldsMet (os : Os) : laidMet Tryd.prog Rows.merkleFoldsRow.laid (({ World.holding Tryd.prog os ⟨#[], #[], []⟩ with heap := ((World.holding Tryd.prog os ⟨#[], #[], []⟩).heap.modify 0 fun | .cells _ t frozen => .cells startCells t frozen | o => o).modify 1 fun | .cells _ t frozen => .cells roundsCells t frozen | o => o } : World).forCall (fun _ _ => 0) ⟨#[], #[.int .i64 0, .int .i64 0, .int .i64 0, .slice none 0 0, .slice none 0 0], []⟩).memory :=
  laidMet_of_run' 8 (by kernel_rfl) (by kernel_rfl)
theorem merkleFoldsReads (os : Os) {H : Type} (enc : TypeId × Value → H) : ∃ places, DataW.whole enc Tryd.prog (({ World.holding Tryd.prog os ⟨#[], #[], []⟩ with heap := ((World.holding Tryd.prog os ⟨#[], #[], []⟩).heap.modify 0 fun | .cells _ t frozen => .cells startCells t frozen | o => o).modify 1 fun | .cells _ t frozen => .cells roundsCells t frozen | o => o } : World).forCall (fun _ _ => 0) ⟨#[], #[.int .i64 0, .int .i64 0, .int .i64 0, .slice none 0 0, .slice none 0 0], []⟩).memory Tryd.f4.params.toList Rows.merkleFoldsSpec.vars false (#[.int .i64 0, .int .i64 0, .int .i64 0, .slice none 0 0, .slice none 0 0] : Array Value).toList 8 = some ([.lit (.int .i64 0), .lit (.int .i64 0), .lit (.int .i64 0), .nil, .nil], [], places) :=
  ⟨[], by kernel_rfl⟩

set_option maxRecDepth 100000 in
theorem merkleFoldsLifted (os : Os) (started : os.Started) (H : Type) (enc : TypeId × Value → H) (F : Stop.Interp) :
    ReturnsInHanded {} Tryd.checked os 4 .any ((OpenSpec.ofChange Rows.merkleFoldsSpec).preRow enc Tryd.prog Tryd.f4 Rows.merkleFoldsRow.domain false Rows.merkleFoldsRow.laid) (((OpenSpec.ofChange Rows.merkleFoldsSpec).at F).post enc Tryd.prog Tryd.f4 false true false false) := by
  obtain ⟨places, hx⟩ := merkleFoldsReads os enc
  refine returnsInHanded_of_row (C := Tryd.checked) (s := OpenSpec.ofChange Rows.merkleFoldsSpec) own started (by kernel_rfl) Tryd.func4
    (witness_row_at (enc := enc) (C := Tryd.checked) false ({ World.holding Tryd.prog os ⟨#[], #[], []⟩ with heap := ((World.holding Tryd.prog os ⟨#[], #[], []⟩).heap.modify 0 fun | .cells _ t frozen => .cells startCells t frozen | o => o).modify 1 fun | .cells _ t frozen => .cells roundsCells t frozen | o => o } : World) #[.int .i64 0, .int .i64 0, .int .i64 0, .slice none 0 0, .slice none 0 0] rfl (by kernel_rfl) (by kernel_rfl) (by kernel_rfl)
      (OpenSpec.preRow_of_cond 8 hx (by kernel_rfl) (fun k hk => by cases hk) (by kernel_rfl) (merkleFoldsMet os))) ?_
  intro W base args ds gs before hval hW _ _ hsz hL _ _
  exact merkleFoldsContract H enc W base args ds gs before hval hW hsz hL

theorem merkleFoldsSaid_holds : Rows.MerkleFoldsSaid :=
  OpenClaim.holds_of_cond 4 Tryd.f4 rfl rfl rfl rfl rfl rfl rfl ⟨rfl, rfl, rfl, rfl, rfl⟩ rfl rfl rfl rfl rfl (by kernel_rfl) Tryd.func4 (by kernel_rfl)
    (of_decide_eq_true (by kernel_rfl)) (by unfold Func.isWrapper; first | (rw [if_pos (by decide +kernel)]; kernel_rfl) | (rw [if_neg (by decide +kernel)]; exact ⟨rfl, rfl⟩))
    (fun os started H enc _ F => by rw [OpenClaim.pre_eq_preRow]; exact merkleFoldsLifted os started H enc F)

theorem merkleFoldsPlain (f : FuncId) (fn : Func) (hf : Tryd.pinned.checked.prog.funcNamed "annals/annalslaw11.MerkleFolds" = some f) (hfn : Tryd.pinned.checked.prog.funcs[f]? = some fn) :
    false = Tryd.pinned.checked.prog.looks [] ∧ ∀ (j : Nat) t, fn.params[j]? = some t → Tryd.pinned.checked.prog.wantsStandIn t = false := by
  obtain rfl : f = 4 := Option.some.inj ((show Tryd.prog.funcNamed "annals/annalslaw11.MerkleFolds" = some 4 by kernel_rfl).symm.trans hf) |>.symm
  obtain rfl : fn = Tryd.f4 := (Option.some.inj (Tryd.func4.symm.trans hfn)).symm
  refine ⟨by kernel_rfl, fun j t ht => ?_⟩
  rw [Tryd.params4] at ht
  have hm : t = 3 ∨ t = 3 ∨ t = 3 ∨ t = 22 ∨ t = 22 := by simpa using Array.mem_of_getElem? ht
  rcases hm with rfl | rfl | rfl | rfl | rfl
  · exact (show Tryd.prog.wantsStandIn 3 = false by kernel_rfl)
  · exact (show Tryd.prog.wantsStandIn 3 = false by kernel_rfl)
  · exact (show Tryd.prog.wantsStandIn 3 = false by kernel_rfl)
  · exact (show Tryd.prog.wantsStandIn 22 = false by kernel_rfl)
  · exact (show Tryd.prog.wantsStandIn 22 = false by kernel_rfl)

theorem merkleFolds_holds : Rows.MerkleFoldsCardSaid :=
  Claim7.holds_tied_plain_at .later [] _ _ _ _ merkleFoldsSaid_holds (fun _ h => by cases h) (by kernel_rfl) (fun _ h => by cases h) merkleFolds_row_tie rfl ⟨rfl, rfl⟩ (by kernel_rfl) rfl merkleFoldsPlain (by kernel_rfl)

#print axioms merkleFolds_holds
end Go.Proofs.YtichffdkihifpaaDoor
