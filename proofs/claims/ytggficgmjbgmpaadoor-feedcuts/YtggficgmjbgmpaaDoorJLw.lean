/- What this text proves: the walk of the statement FeedCuts over this program: it answers true for any arguments, and writes nothing that was there. Proved here: Rows.FeedCutsCardSaid: for every list of counts, every size, all batches and every page the Go function annalslaw19.FeedCuts returns true (the cuts of the page, and what shows it, are the document's). No condition. -/
import Derived.Test.YtggficgmjbgmpaaDoorJPv
import Derived.Test.YtggficgmjbgmpaaDoorJFw
import Derived.Deep.RegionWith
import Derived.Test.YtggficgmjbgmpaaDoorJOb
namespace Go.Proofs.YtggficgmjbgmpaaDoor
open Go.RowKit

theorem s_intF : (Tryd.prog.info? 3).map (·.size) = some 1 := by kernel_rfl

set_option maxRecDepth 100000 in
set_option maxHeartbeats 4000000 in
theorem fdCutsWalk (v lv : Value) (T : List Int) (bss : List (List (List UInt8 × List UInt8))) (size ix lm : Int) (w : World) (hi : IZ w v T) (h : GA BA w lv bss) (hix : -9223372036854775808 ≤ ix ∧ ix ≤ 9223372036854775807) (hlm : -9223372036854775808 ≤ lm ∧ lm ≤ 9223372036854775807) (hwT : ∀ x ∈ T, -9223372036854775808 ≤ x ∧ x ≤ 9223372036854775807) (hT : Tabs w) :
    Calls Tryd.prog 3 #[v, .int .i64 size, lv, .int .i64 ix, .int .i64 lm] w fun x w' => x = .returned (.bool true) ∧ Below w.heap.size w w' := by
  obtain ⟨p, c, rfl⟩ := hi.shape
  obtain ⟨_, hc1, hc2⟩ := hi.caps
  have hm := hi.len_le
  unfold maxLen at hm hc2
  obtain ⟨k, hk⟩ : ∃ k, k = min T.length 60 := ⟨_, rfl⟩
  have hk1 : k ≤ T.length := by omega
  have hk2 : k ≤ 60 := by omega
  have emin : (if (60 : Int) < (T.length : Int) then (60 : Int) else (T.length : Int)) = (k : Int) := by split <;> omega
  have emin2 : min (T.length : Int) 60 = (k : Int) := by omega
  have hf := hi.front k hk1
  obtain ⟨T', hT'⟩ : ∃ T', T' = T.take k := ⟨_, rfl⟩
  have hl' : T'.length = k := by rw [hT', List.length_take]; omega
  have hw' : ∀ x ∈ T', -9223372036854775808 ≤ x ∧ x ≤ 9223372036854775807 := by
    intro x hx
    rw [hT'] at hx
    exact hwT x (List.mem_of_mem_take hx)
  rw [← hT'] at hf
  have k1 : ∀ w, (Instr.slice 22 (.slice p T.length c) none (some (.int .i64 (k : Int))) none).run Tryd.prog w = .ok (.slice p k c) w := fun w => run_upto (P := Tryd.prog) Tryd.underlying22 s_intF p T.length c k k rfl (by omega) w
  have HC : Hid (∀ W, Below w.heap.size w W → Calls Tryd.prog 10 #[.slice p k c, .int .i64 ix, .int .i64 lm] W fun e w' => ∃ u, e = .returned u ∧ w'.ownsRow W.heap.size 30 2 u (cutsG 0 T' ix lm).length (cutCs (cutsG 0 T' ix lm)) ∧ Below W.heap.size W w') := fun W hW => cuts_any _ T' ix lm W (hf.later hW) (by omega) hix hlm hw'
  have HR : Hid (∀ W, Below w.heap.size w W → Calls Tryd.prog 11 #[.slice p k c, .int .i64 ix, .int .i64 lm] W fun e w' => ∃ u, e = .returned u ∧ w'.ownsRow W.heap.size 30 2 u (cutsG 0 T' ix lm).length (cutCs (cutsG 0 T' ix lm)) ∧ Below W.heap.size W w') := fun W hW => rcuts_any _ T' ix lm W (hf.later hW) (by omega) hix hlm hw'
  obtain ⟨q, d, rfl⟩ := h.shape
  have hF := fun W (hW : Below w.heap.size w W) => few_any19 (.slice q bss.length d) bss W (h.later hW (fun _ _ h => h.later hW))
  have hfl := fewF_len bss
  have hfe := fewF_each bss
  have HP : Hid (∀ v W, GA BA W v (fewF bss) → Tabs W → Calls Tryd.prog 7 #[.int .i64 size, v, .int .i64 ix, .int .i64 lm] W fun e w' => ∃ p c, e = .returned (.slice p (prvF size (fewF bss) ix lm).length c) ∧ GA LR w' (.slice p (prvF size (fewF bss) ix lm).length c) (prvF size (fewF bss) ix lm) ∧ Below W.heap.size W w') := fun v W hv hT => prove_any size ix lm v _ W hv (by omega) (fun b hb => by have := hfe b hb; omega) hix hlm hT
  have HQ : Hid (∀ v W, GA BA W v (fewF bss) → Calls Tryd.prog 8 #[.int .i64 size, v, .int .i64 ix, .int .i64 lm] W fun e w' => ∃ p c, e = .returned (.slice p (prvF size (fewF bss) ix lm).length c) ∧ GA LR w' (.slice p (prvF size (fewF bss) ix lm).length c) (prvF size (fewF bss) ix lm) ∧ Below W.heap.size W w') := fun v W hv => rprove_any size ix lm v _ W hv (by omega) (fun b hb => by have := hfe b hb; omega) hix hlm
  generalize prvF size (fewF bss) ix lm = PF at *
  generalize fewF bss = fb at *
  generalize cutsG 0 T' ix lm = X at *
  clear hT' hl' hwT hw' hi hk hf h hfl hfe hix hlm
  go_enter Tryd.func3, Tryd.ntmps3
  go_wp2
  go_region_with (refine (hF _ (by repeat (first | exact Below.refl _ _ | refine Below.drew ?_))).mono ?_; rintro e w1 ⟨p1, c1, rfl, g1, b1'⟩)
  all_goals
    have b1 : Below w.heap.size w w1 := Below.trans (by repeat (first | exact Below.refl _ _ | refine Below.drew ?_)) b1'
    have T1 := hT.later b1
    clear b1' hF hT
    go_wp2_with fail
    refine (HP.out _ _ g1 T1).mono ?_
    rintro e w2 ⟨p2, c2, rfl, k2, b2'⟩
    have b2 := b1.trans (b2'.mono b1.size)
    have g2 := g1.later b2' (fun _ _ h => h.later b2')
    clear HP g1 T1
    go_wp2_with fail
    refine (HQ.out _ _ g2).mono ?_
    rintro e w3 ⟨p3, c3, rfl, k3, b3'⟩
    have b3 := b2.trans (b3'.mono b2.size)
    have m2 : GA PA w3 _ PF := k2.imp b3' (fun _ _ h => h.pa.later b3')
    have m3 : GA PA w3 _ PF := k3.imp (Below.refl _ _) (fun _ _ h => h.pa)
    clear HQ g2 k2 k3 b2' b3' b1 b2
    go_wp2_with fail
    refine (HC.out _ b3).mono ?_
    rintro e w4 ⟨u4, rfl, o4, b4'⟩
    have b4 := b3.trans (b4'.mono b3.size)
    have a4 := CA.of_owns o4
    obtain ⟨p4, c4, rfl⟩ := owns_shape o4
    clear HC o4
    go_wp2_with fail
    refine (HR.out _ b4).mono ?_
    rintro e w5 ⟨u5, rfl, o5, b5'⟩
    have b5 := b4.trans (b5'.mono b4.size)
    have a5 := CA.of_owns o5
    obtain ⟨p5, c5, rfl⟩ := owns_shape o5
    have hE := cutsEqual_same _ _ _ w5 (a4.later b5') a5
    have b35 := b4'.trans (b5'.mono b4'.size)
    clear HR o5 a4 a5 b5' b4' b4
    go_wp2_with fail
    refine hE.mono ?_
    rintro e w6 ⟨rfl, b6'⟩
    have b6 := b5.trans (b6'.mono b5.size)
    have b36 := b35.trans (b6'.mono b35.size)
    have hL := eqfuncL_same _ _ PF w6 (m2.later b36 (fun _ _ h => h.later b36)) (m3.later b36 (fun _ _ h => h.later b36))
    clear hE b6' b35 b36 m2 m3
    go_wp2_with fail
    refine hL.mono ?_
    rintro e w7 ⟨rfl, hw7⟩
    subst hw7
    clear hL
    go_wp2_with fail
    refine (fdAwake_any _).mono ?_
    rintro e w8 ⟨rfl, b8'⟩
    have b8 := b6.trans (b8'.mono b6.size)
    go_wp2
    go_ret
    exact ⟨rfl, b8⟩

end Go.Proofs.YtggficgmjbgmpaaDoor

namespace Go.Proofs.YtggficgmjbgmpaaDoor
open Go.ChangeShapes Go.WideShapes Go.ChangeAt Go.RowKit

set_option maxRecDepth 100000 in
theorem feedCutsContract (H : Type) (enc : TypeId × Value → H) (W : World) (base : Nat) (args : Array Value) (ds gs : List (DataW H)) (before : List MemPlace)
    (hval : ∀ (j : Nat) t v, Tryd.f3.params[j]? = some t → args[j]? = some v → Value.okWide Tryd.prog W .any base t v)
    (hW : DataW.Whole enc Tryd.prog Tryd.f3.params.toList Rows.feedCutsSpec.vars false W args.toList ds gs before) (hsz0 : (DataW.weightsEach Tryd.prog (Tryd.f3.params.toList ++ (OpenSpec.ofChange Rows.feedCutsSpec).bare.plain.varTypes Tryd.prog) (ds ++ gs)).all (· ≤ reachBytes) = true) (hL : laidMetH Tryd.prog Rows.feedCutsRow.laid W) :
    Calls Tryd.prog 3 args W fun e W' => ∃ v, e = .returned v ∧ Rows.feedCutsSpec.post enc Tryd.prog Tryd.f3 false true false false W args v W' := by
  have hT : Tabs W := tabs_of hL
  have hW' := hW
  obtain ⟨p, q, hA0, hV, rfl, hfz, hnd⟩ := hW
  have hA : DataW.TrodAll enc Tryd.prog W 0 (fun _ => true) true Tryd.f3.params.toList args.toList ds p := hA0
  rw [Tryd.params3] at hA hval hsz0
  obtain ⟨v0, vs0, d0, ds0, p0, q0, hargs, rfl, rfl, h0, r0⟩ := trodAll_cons hA
  obtain ⟨v1, vs1, d1, ds1, p1, q1, rfl, rfl, rfl, h1, r1⟩ := trodAll_cons r0
  obtain ⟨v2, vs2, d2, ds2, p2, q2, rfl, rfl, rfl, h2, r2⟩ := trodAll_cons r1
  obtain ⟨v3, vs3, d3, ds3, p3, q3, rfl, rfl, rfl, h3, r3⟩ := trodAll_cons r2
  obtain ⟨v4, vs4, d4, ds4, p4, q4, rfl, rfl, rfl, h4, r4⟩ := trodAll_cons r3
  obtain ⟨rfl, rfl, rfl⟩ := trodAll_nil r4
  obtain rfl : args = #[v0, v1, v2, v3, v4] := by cases args; simp_all
  obtain ⟨rfl, rfl⟩ := trodVars_none hV
  have k0 := h0
  have lt0 : ∀ x ∈ p0, x.block < W.heap.size := by obtain ⟨m, hm⟩ := k0; exact DataW.trod_lt m _ _ _ hm
  obtain ⟨ls0, hl0, hw0⟩ := open_izD (hval 0 22 v0 rfl rfl) h0
  obtain ⟨a1, rfl, rfl, rfl, w1⟩ := open_int Tryd.underlying3 (hval 1 3 v1 rfl rfl) h1
  have k2 := h2
  have lt2 : ∀ x ∈ p2, x.block < W.heap.size := by obtain ⟨m, hm⟩ := k2; exact DataW.trod_lt m _ _ _ hm
  obtain ⟨bss2, hl2⟩ := open_bindss (hval 2 23 v2 rfl rfl) h2
  obtain ⟨a3, rfl, rfl, rfl, w3⟩ := open_int Tryd.underlying3 (hval 3 3 v3 rfl rfl) h3
  obtain ⟨a4, rfl, rfl, rfl, w4⟩ := open_int Tryd.underlying3 (hval 4 3 v4 rfl rfl) h4
  clear hA0
  simp only [List.append_nil] at hW'
  refine (fdCutsWalk v0 v2 ls0 bss2 a1 a3 a4 W hl0 hl2 (bounds_i64 w3) (bounds_i64 w4) (fun x hx => bounds_i64 (hw0 x hx)) hT).mono fun e W' ⟨he, bel⟩ => ?_
  subst he
  exact ⟨_, rfl, _, _, _, [], _, [], hW', trodAll_mk1 (shut_bool Tryd.underlying4 _), (trodAll_cons_mk (Below.trod laidOut (by kernel_rfl) (of_decide_eq_true (by kernel_rfl)) k0 bel lt0) (trodAll_cons_mk (shut_int Tryd.underlying3 w1) (trodAll_cons_mk (Below.trod laidOut (by kernel_rfl) (of_decide_eq_true (by kernel_rfl)) k2 bel lt2) (trodAll_cons_mk (shut_int Tryd.underlying3 w3) (trodAll_cons_mk (shut_int Tryd.underlying3 w4) trodAll_mk0))))), rfl, bel.frame _, fun h => by cases h⟩

theorem feedCutsMet (os : Os) : laidMet Tryd.prog Rows.feedCutsRow.laid (({ World.holding Tryd.prog os ⟨#[], #[], []⟩ with heap := ((World.holding Tryd.prog os ⟨#[], #[], []⟩).heap.modify 0 fun | .cells _ t frozen => .cells startCells t frozen | o => o).modify 1 fun | .cells _ t frozen => .cells roundsCells t frozen | o => o } : World).forCall (fun _ _ => 0) ⟨#[], #[.slice none 0 0, .int .i64 0, .slice none 0 0, .int .i64 0, .int .i64 0], []⟩).memory :=
  laidMet_of_run' 8 (by kernel_rfl) (by kernel_rfl)
theorem feedCutsReads (os : Os) {H : Type} (enc : TypeId × Value → H) : ∃ places, DataW.whole enc Tryd.prog (({ World.holding Tryd.prog os ⟨#[], #[], []⟩ with heap := ((World.holding Tryd.prog os ⟨#[], #[], []⟩).heap.modify 0 fun | .cells _ t frozen => .cells startCells t frozen | o => o).modify 1 fun | .cells _ t frozen => .cells roundsCells t frozen | o => o } : World).forCall (fun _ _ => 0) ⟨#[], #[.slice none 0 0, .int .i64 0, .slice none 0 0, .int .i64 0, .int .i64 0], []⟩).memory Tryd.f3.params.toList Rows.feedCutsSpec.vars false (#[.slice none 0 0, .int .i64 0, .slice none 0 0, .int .i64 0, .int .i64 0] : Array Value).toList 8 = some ([.nil, .lit (.int .i64 0), .nil, .lit (.int .i64 0), .lit (.int .i64 0)], [], places) :=
  ⟨[], by kernel_rfl⟩

set_option maxRecDepth 100000 in
theorem feedCutsLifted (os : Os) (started : os.Started) (H : Type) (enc : TypeId × Value → H) (F : Stop.Interp) :
    ReturnsInHanded {} Tryd.checked os 3 .any ((OpenSpec.ofChange Rows.feedCutsSpec).preRow enc Tryd.prog Tryd.f3 Rows.feedCutsRow.domain false Rows.feedCutsRow.laid) (((OpenSpec.ofChange Rows.feedCutsSpec).at F).post enc Tryd.prog Tryd.f3 false true false false) := by
  obtain ⟨places, hx⟩ := feedCutsReads os enc
  refine returnsInHanded_of_row (C := Tryd.checked) (s := OpenSpec.ofChange Rows.feedCutsSpec) own started (by kernel_rfl) Tryd.func3
    (witness_row_at (enc := enc) (C := Tryd.checked) false ({ World.holding Tryd.prog os ⟨#[], #[], []⟩ with heap := ((World.holding Tryd.prog os ⟨#[], #[], []⟩).heap.modify 0 fun | .cells _ t frozen => .cells startCells t frozen | o => o).modify 1 fun | .cells _ t frozen => .cells roundsCells t frozen | o => o } : World) #[.slice none 0 0, .int .i64 0, .slice none 0 0, .int .i64 0, .int .i64 0] rfl (by kernel_rfl) (by kernel_rfl) (by kernel_rfl)
      (OpenSpec.preRow_of_cond 8 hx (by kernel_rfl) (fun k hk => by cases hk) (by kernel_rfl) (feedCutsMet os))) ?_
  intro W base args ds gs before hval hW _ _ hsz hL _ _
  exact feedCutsContract H enc W base args ds gs before hval hW hsz hL

theorem feedCutsSaid_holds : Rows.FeedCutsSaid :=
  OpenClaim.holds_of_cond 3 Tryd.f3 rfl rfl rfl rfl rfl rfl rfl ⟨rfl, rfl, rfl, rfl, rfl⟩ rfl rfl rfl rfl rfl (by kernel_rfl) Tryd.func3 (by kernel_rfl)
    (of_decide_eq_true (by kernel_rfl)) (by unfold Func.isWrapper; first | (rw [if_pos (by decide +kernel)]; kernel_rfl) | (rw [if_neg (by decide +kernel)]; exact ⟨rfl, rfl⟩))
    (fun os started H enc _ F => by rw [OpenClaim.pre_eq_preRow]; exact feedCutsLifted os started H enc F)

theorem feedCutsPlain (f : FuncId) (fn : Func) (hf : Tryd.pinned.checked.prog.funcNamed "annals/annalslaw19.FeedCuts" = some f) (hfn : Tryd.pinned.checked.prog.funcs[f]? = some fn) :
    false = Tryd.pinned.checked.prog.looks [] ∧ ∀ (j : Nat) t, fn.params[j]? = some t → Tryd.pinned.checked.prog.wantsStandIn t = false := by
  obtain rfl : f = 3 := Option.some.inj ((show Tryd.prog.funcNamed "annals/annalslaw19.FeedCuts" = some 3 by kernel_rfl).symm.trans hf) |>.symm
  obtain rfl : fn = Tryd.f3 := (Option.some.inj (Tryd.func3.symm.trans hfn)).symm
  refine ⟨by kernel_rfl, fun j t ht => ?_⟩
  rw [Tryd.params3] at ht
  have hm : t = 22 ∨ t = 3 ∨ t = 23 ∨ t = 3 ∨ t = 3 := by simpa using Array.mem_of_getElem? ht
  rcases hm with rfl | rfl | rfl | rfl | rfl
  · exact (show Tryd.prog.wantsStandIn 22 = false by kernel_rfl)
  · exact (show Tryd.prog.wantsStandIn 3 = false by kernel_rfl)
  · exact (show Tryd.prog.wantsStandIn 23 = false by kernel_rfl)
  · exact (show Tryd.prog.wantsStandIn 3 = false by kernel_rfl)
  · exact (show Tryd.prog.wantsStandIn 3 = false by kernel_rfl)

theorem feedCuts_holds : Rows.FeedCutsCardSaid :=
  Claim7.holds_tied_plain_at .later [] _ _ _ _ feedCutsSaid_holds (fun _ h => by cases h) (by kernel_rfl) (fun _ h => by cases h) feedCuts_row_tie rfl ⟨rfl, rfl⟩ (by kernel_rfl) rfl feedCutsPlain (by kernel_rfl)

#print axioms feedCuts_holds
end Go.Proofs.YtggficgmjbgmpaaDoor
