/- What this text proves: the walk of annalslaw10.PtreeErrs over this program: it answers true. Proved here: Rows.PtreeErrsCardSaid: for every two numbers and every two slices of bytes the Go function annalslaw10.PtreeErrs returns true, and each argument reads afterwards as it read before. No condition. -/
import Derived.Test.YtofchcheoanmdaaDoorJB
import Derived.Test.YtofchcheoanmdaaDoorJC
import Derived.Test.YtofchcheoanmdaaDoorOpenD
namespace Go.Proofs.YtofchcheoanmdaaDoor
open Go.RowKit

theorem leafF_pos (id key : List UInt8) (since : Int) (h1 : id.length ≤ 255) (h2 : key.length ≤ 65535) : (leafF 4 id key since).length = 4 := by
  have h8 : (numB since).length = 8 := be64_length _
  unfold leafF hashF
  rw [if_pos]
  · rw [List.length_take, sha_length]
    decide
  · intro p hp
    simp only [List.mem_cons, List.not_mem_nil, or_false] at hp
    rcases hp with rfl | rfl | rfl
    · omega
    · omega
    · omega

set_option maxRecDepth 100000 in
set_option maxHeartbeats 2000000 in
theorem perrs_any (root since : Int) (vi vk : Value) (id key : List UInt8) (w : World) (hT : Tabs w) (hid : HB w vi id) (hkey : HB w vk key) : Calls Tryd.prog 8 #[.int .i64 root, vi, vk, .int .i64 since] w fun e w' => e = .returned (.bool true) ∧ Below w.heap.size w w' := by
  obtain ⟨pi, ci, rfl⟩ := hid.shape
  obtain ⟨pk, ck, rfl⟩ := hkey.shape
  have hN := anew_ok 4 9 w (by decide) (by decide) (by decide) (by decide)
  have hAw := fun w' h' => ptreeAwake_any w' h'
  have hroot : root < 0 ∨ ((0 : Nat) : Int) ≤ root := by omega
  go_enter Tryd.func8, Tryd.ntmps8
  go_wp2_with fail
  refine hN.mono ?_
  rintro e w1 ⟨rfl, h1, hb1⟩
  have hlt : w.heap.size < w1.heap.size := (Array.getElem?_eq_some_iff.1 h1).1
  have hR := ranew_ok 4 9 w1 (by decide) (by decide) (by decide) (by decide)
  clear hN
  go_wp2_with fail
  refine hR.mono ?_
  rintro e w2 ⟨rfl, x2, hb2⟩
  have h2 := h1.later hb2
  have b2 := hb1.trans (hb2.mono hb1.size)
  clear hR h1
  by_cases hbad : root ≠ -1 ∨ 255 < id.length ∨ 65535 < key.length ∨ since < 0
  · have hI := insert_arg w.heap.size 4 9 root since none 0 0 _ _ id key w2 h2 (by decide) hroot (hid.later b2) (hkey.later b2) hbad
    go_wp2_with fail
    refine hI.mono ?_
    rintro e w3 ⟨rfl, hb3⟩
    have b3 := b2.trans (hb3.mono b2.size)
    have hRI := rinsert_arg w1.heap.size 4 9 root since none 0 0 _ _ id key w3 (x2.later hb3) hroot (hid.later b3) (hkey.later b3) hbad
    clear hI
    go_wp2_with fail
    refine hRI.mono ?_
    rintro e w4 ⟨rfl, hb4⟩
    have b34 := hb3.trans (hb4.mono hb3.size)
    have b4 := b3.trans (hb4.mono b3.size)
    have h4 := h2.later b34
    have x4 := x2.later b34
    clear hRI
    have hG := get_out w.heap.size 4 9 root none 0 0 _ id w4 h4 (by decide) hroot (hid.later b4)
    go_wp2_with fail
    refine hG.mono ?_
    rintro e w5 ⟨rfl, hb5⟩
    have b5 := b4.trans (hb5.mono b4.size)
    have h5 := h4.later hb5
    have x5 := x4.later hb5
    clear hG
    have bI := (Below.refl _ w5).alloc (Nat.le_refl _) (.cells #[.slice none 0 0, .slice none 0 0, .int .i64 0] 71)
    have b6 := b5.trans (bI.mono b5.size)
    have h6 := h5.later bI
    have x6 := x5.later bI
    have hU := used_any w.heap.size 4 9 none 0 0 _ h6 (by decide) (by decide)
    go_wp2_with fail
    refine hU.mono ?_
    rintro e w7 ⟨rfl, hb7⟩
    have b7 := b6.trans (hb7.mono b6.size)
    have h7 := h6.later hb7
    have x7 := x6.later hb7
    clear hU
    have hRU := rused_none w1.heap.size 4 9 w7 x7
    go_wp2_with fail
    refine hRU.mono ?_
    rintro e w8 ⟨rfl, hb8⟩
    have b8 := b7.trans (hb8.mono b7.size)
    have h8 := h7.later hb8
    clear hRU
    have hIt := items_out w.heap.size 4 9 5 none 0 0 w8 h8 (by decide) (.inr (by decide))
    go_wp2_with fail
    refine hIt.mono ?_
    rintro e w9 ⟨rfl, hb9⟩
    have b9 := b8.trans (hb9.mono b8.size)
    clear hIt
    have hA9 := hAw w9 (hT.later b9)
    go_wp2_with fail
    refine hA9.mono ?_
    rintro e w10 ⟨rfl, hb10⟩
    have b10 := b9.trans (hb10.mono b9.size)
    clear hA9
    go_wp2
    go_ret
    exact ⟨rfl, b10⟩
  · have hr1 : root = -1 := by omega
    have h255 : id.length ≤ 255 := by omega
    have h655 : key.length ≤ 65535 := by omega
    have hs0 : 0 ≤ since := by omega
    subst hr1
    have hm1 : (-1 : Int) < 0 ∨ ((1 : Nat) : Int) ≤ -1 := .inl (by decide)
    have hI := insert_first w.heap.size w.heap.size 4 9 since _ _ id key w2 h2 b2.size (by decide) (by decide) (by decide) (hid.later b2) (hkey.later b2) (hT.later b2) h255 h655 hs0
    go_wp2_with fail
    refine hI.mono ?_
    rintro e w3 ⟨p3, c3, nb, rfl, h3, _, _, _, on3⟩
    have b3 := b2.trans (on3.below (Nat.le_refl _))
    have x3 : XG w3 w1.heap.size 4 9 none 0 0 := (on3.block _ (by omega) x2.lt).trans x2
    have hRI := rinsert_first w1.heap.size 4 9 since _ _ id key w3 x3 (by decide) (by decide) (hid.later b3) (hkey.later b3) h255 h655 hs0
    rw [leafF_pos id key since h255 h655] at hRI
    clear hI
    go_wp2_with fail
    refine hRI.mono ?_
    rintro e w4 ⟨q4, c4, rfl, x4, ⟨ph, ch, g9⟩, on4⟩
    have h4 : AG w4 w.heap.size 4 9 p3 1 c3 := (on4.block _ (by omega) h3.lt).trans h3
    have b4 := b3.trans (on4.below (by omega))
    clear hRI
    have hG := get_out w.heap.size 4 9 (-1) p3 1 c3 _ id w4 h4 (by decide) hm1 (hid.later b4)
    go_wp2_with fail
    refine hG.mono ?_
    rintro e w5 ⟨rfl, hb5⟩
    have b5 := b4.trans (hb5.mono b4.size)
    have h5 := h4.later hb5
    have x5 := x4.later hb5
    have g9' := cell_later hb5 g9
    clear hG
    have bI := (Below.refl _ w5).alloc (Nat.le_refl _) (.cells #[.slice none 0 0, .slice none 0 0, .int .i64 0] 71)
    have b6 := b5.trans (bI.mono b5.size)
    have h6 := h5.later bI
    have x6 := x5.later bI
    have hU := used_any w.heap.size 4 9 p3 1 c3 _ h6 (by decide) (by decide)
    go_wp2_with fail
    refine hU.mono ?_
    rintro e w7 ⟨rfl, hb7⟩
    have b7 := b6.trans (hb7.mono b6.size)
    have h7 := h6.later hb7
    have x7 := x6.later hb7
    clear hU
    have hRU := rused_one w1.heap.size q4 c4 4 9 ph 4 ch w7 x7 (cell_later hb7 (cell_later bI g9')) (by decide)
    go_wp2_with fail
    refine hRU.mono ?_
    rintro e w8 ⟨rfl, hb8⟩
    have b8 := b7.trans (hb8.mono b7.size)
    have h8 := h7.later hb8
    clear hRU
    have hIt := items_out w.heap.size 4 9 5 p3 1 c3 w8 h8 (by decide) (.inr (by decide))
    go_wp2_with fail
    refine hIt.mono ?_
    rintro e w9 ⟨rfl, hb9⟩
    have b9 := b8.trans (hb9.mono b8.size)
    clear hIt
    have hA9 := hAw w9 (hT.later b9)
    go_wp2_with fail
    refine hA9.mono ?_
    rintro e w10 ⟨rfl, hb10⟩
    have b10 := b9.trans (hb10.mono b9.size)
    clear hA9
    go_wp2
    go_ret
    exact ⟨rfl, b10⟩

end Go.Proofs.YtofchcheoanmdaaDoor

namespace Go.Proofs.YtofchcheoanmdaaDoor
open Go.ChangeShapes Go.WideShapes Go.ChangeAt Go.RowKit

set_option maxRecDepth 100000 in
theorem ptreeErrsContract (H : Type) (enc : TypeId × Value → H) (W : World) (base : Nat) (args : Array Value) (ds gs : List (DataW H)) (before : List MemPlace)
    (hval : ∀ (j : Nat) t v, Tryd.f8.params[j]? = some t → args[j]? = some v → Value.okWide Tryd.prog W .any base t v)
    (hW : DataW.Whole enc Tryd.prog Tryd.f8.params.toList Rows.ptreeErrsSpec.vars false W args.toList ds gs before) (hsz0 : (DataW.weightsEach Tryd.prog (Tryd.f8.params.toList ++ (OpenSpec.ofChange Rows.ptreeErrsSpec).bare.plain.varTypes Tryd.prog) (ds ++ gs)).all (· ≤ reachBytes) = true) (hL : laidMetH Tryd.prog Rows.ptreeErrsRow.laid W) :
    Calls Tryd.prog 8 args W fun e W' => ∃ v, e = .returned v ∧ Rows.ptreeErrsSpec.post enc Tryd.prog Tryd.f8 false true false false W args v W' := by
  have hT : Tabs W := tabs_of hL
  have hW' := hW
  obtain ⟨p, q, hA0, hV, rfl, hfz, hnd⟩ := hW
  have hA : DataW.TrodAll enc Tryd.prog W 0 (fun _ => true) true Tryd.f8.params.toList args.toList ds p := hA0
  rw [Tryd.params8] at hA hval hsz0
  obtain ⟨v0, vs0, d0, ds0, p0, q0, hargs, rfl, rfl, h0, r0⟩ := trodAll_cons hA
  obtain ⟨v1, vs1, d1, ds1, p1, q1, rfl, rfl, rfl, h1, r1⟩ := trodAll_cons r0
  obtain ⟨v2, vs2, d2, ds2, p2, q2, rfl, rfl, rfl, h2, r2⟩ := trodAll_cons r1
  obtain ⟨v3, vs3, d3, ds3, p3, q3, rfl, rfl, rfl, h3, r3⟩ := trodAll_cons r2
  obtain ⟨rfl, rfl, rfl⟩ := trodAll_nil r3
  obtain rfl : args = #[v0, v1, v2, v3] := by cases args; simp_all
  obtain ⟨rfl, rfl⟩ := trodVars_none hV
  obtain ⟨a0, rfl, rfl, rfl, w0⟩ := open_int Tryd.underlying3 (hval 0 3 v0 rfl rfl) h0
  have k1 := h1
  have lt1 : ∀ x ∈ p1, x.block < W.heap.size := by obtain ⟨m, hm⟩ := k1; exact DataW.trod_lt m _ _ _ hm
  obtain ⟨l1, hl1, he1⟩ := open_hb (hval 1 31 v1 rfl rfl) h1
  have hr1 : l1.length ≤ 140737488351232 := hb_reach hsz0 1 rfl rfl he1
  have k2 := h2
  have lt2 : ∀ x ∈ p2, x.block < W.heap.size := by obtain ⟨m, hm⟩ := k2; exact DataW.trod_lt m _ _ _ hm
  obtain ⟨l2, hl2, he2⟩ := open_hb (hval 2 31 v2 rfl rfl) h2
  have hr2 : l2.length ≤ 140737488351232 := hb_reach hsz0 2 rfl rfl he2
  obtain ⟨a3, rfl, rfl, rfl, w3⟩ := open_int Tryd.underlying3 (hval 3 3 v3 rfl rfl) h3
  clear hA0
  simp only [List.append_nil] at hW'
  refine (perrs_any a0 a3 v1 v2 l1 l2 W hT hl1 hl2).mono fun e W' ⟨he, bel⟩ => ?_
  subst he
  exact ⟨_, rfl, _, _, _, [], _, [], hW', trodAll_mk1 (shut_bool Tryd.underlying4 _), (trodAll_cons_mk (shut_int Tryd.underlying3 w0) (trodAll_cons_mk (Below.trod laidOut (by kernel_rfl) (of_decide_eq_true (by kernel_rfl)) k1 bel lt1) (trodAll_cons_mk (Below.trod laidOut (by kernel_rfl) (of_decide_eq_true (by kernel_rfl)) k2 bel lt2) (trodAll_cons_mk (shut_int Tryd.underlying3 w3) trodAll_mk0)))), rfl, bel.frame _, fun h => by cases h⟩

theorem ptreeErrsMet (os : Os) : laidMet Tryd.prog Rows.ptreeErrsRow.laid (({ World.holding Tryd.prog os ⟨#[], #[], []⟩ with heap := ((World.holding Tryd.prog os ⟨#[], #[], []⟩).heap.modify 0 fun | .cells _ t frozen => .cells startCells t frozen | o => o).modify 1 fun | .cells _ t frozen => .cells roundsCells t frozen | o => o } : World).forCall (fun _ _ => 0) ⟨#[], #[.int .i64 0, .slice none 0 0, .slice none 0 0, .int .i64 0], []⟩).memory :=
  laidMet_of_run' 8 (by kernel_rfl) (by kernel_rfl)
theorem ptreeErrsReads (os : Os) {H : Type} (enc : TypeId × Value → H) : ∃ places, DataW.whole enc Tryd.prog (({ World.holding Tryd.prog os ⟨#[], #[], []⟩ with heap := ((World.holding Tryd.prog os ⟨#[], #[], []⟩).heap.modify 0 fun | .cells _ t frozen => .cells startCells t frozen | o => o).modify 1 fun | .cells _ t frozen => .cells roundsCells t frozen | o => o } : World).forCall (fun _ _ => 0) ⟨#[], #[.int .i64 0, .slice none 0 0, .slice none 0 0, .int .i64 0], []⟩).memory Tryd.f8.params.toList Rows.ptreeErrsSpec.vars false (#[.int .i64 0, .slice none 0 0, .slice none 0 0, .int .i64 0] : Array Value).toList 8 = some ([.lit (.int .i64 0), .nil, .nil, .lit (.int .i64 0)], [], places) :=
  ⟨[], by kernel_rfl⟩

set_option maxRecDepth 100000 in
theorem ptreeErrsLifted (os : Os) (started : os.Started) (H : Type) (enc : TypeId × Value → H) (F : Stop.Interp) :
    ReturnsInHanded {} Tryd.checked os 8 .any ((OpenSpec.ofChange Rows.ptreeErrsSpec).preRow enc Tryd.prog Tryd.f8 Rows.ptreeErrsRow.domain false Rows.ptreeErrsRow.laid) (((OpenSpec.ofChange Rows.ptreeErrsSpec).at F).post enc Tryd.prog Tryd.f8 false true false false) := by
  obtain ⟨places, hx⟩ := ptreeErrsReads os enc
  refine returnsInHanded_of_row (C := Tryd.checked) (s := OpenSpec.ofChange Rows.ptreeErrsSpec) own started (by kernel_rfl) Tryd.func8
    (witness_row_at (enc := enc) (C := Tryd.checked) false ({ World.holding Tryd.prog os ⟨#[], #[], []⟩ with heap := ((World.holding Tryd.prog os ⟨#[], #[], []⟩).heap.modify 0 fun | .cells _ t frozen => .cells startCells t frozen | o => o).modify 1 fun | .cells _ t frozen => .cells roundsCells t frozen | o => o } : World) #[.int .i64 0, .slice none 0 0, .slice none 0 0, .int .i64 0] rfl (by kernel_rfl) (by kernel_rfl) (by kernel_rfl)
      (OpenSpec.preRow_of_cond 8 hx (by kernel_rfl) (fun k hk => by cases hk) (by kernel_rfl) (ptreeErrsMet os))) ?_
  intro W base args ds gs before hval hW _ _ hsz hL _ _
  exact ptreeErrsContract H enc W base args ds gs before hval hW hsz hL

theorem ptreeErrsSaid_holds : Rows.PtreeErrsSaid :=
  OpenClaim.holds_of_cond 8 Tryd.f8 rfl rfl rfl rfl rfl rfl rfl ⟨rfl, rfl, rfl, rfl, rfl⟩ rfl rfl rfl rfl rfl (by kernel_rfl) Tryd.func8 (by kernel_rfl)
    (of_decide_eq_true (by kernel_rfl)) (by unfold Func.isWrapper; first | (rw [if_pos (by decide +kernel)]; kernel_rfl) | (rw [if_neg (by decide +kernel)]; exact ⟨rfl, rfl⟩))
    (fun os started H enc _ F => by rw [OpenClaim.pre_eq_preRow]; exact ptreeErrsLifted os started H enc F)

theorem ptreeErrsPlain (f : FuncId) (fn : Func) (hf : Tryd.pinned.checked.prog.funcNamed "annals/annalslaw10.PtreeErrs" = some f) (hfn : Tryd.pinned.checked.prog.funcs[f]? = some fn) :
    true = Tryd.pinned.checked.prog.looks [] ∧ ∀ (j : Nat) t, fn.params[j]? = some t → Tryd.pinned.checked.prog.wantsStandIn t = false := by
  obtain rfl : f = 8 := Option.some.inj ((show Tryd.prog.funcNamed "annals/annalslaw10.PtreeErrs" = some 8 by kernel_rfl).symm.trans hf) |>.symm
  obtain rfl : fn = Tryd.f8 := (Option.some.inj (Tryd.func8.symm.trans hfn)).symm
  refine ⟨by kernel_rfl, fun j t ht => ?_⟩
  rw [Tryd.params8] at ht
  have hm : t = 3 ∨ t = 31 ∨ t = 31 ∨ t = 3 := by simpa using Array.mem_of_getElem? ht
  rcases hm with rfl | rfl | rfl | rfl
  · exact (show Tryd.prog.wantsStandIn 3 = false by kernel_rfl)
  · exact (show Tryd.prog.wantsStandIn 31 = false by kernel_rfl)
  · exact (show Tryd.prog.wantsStandIn 31 = false by kernel_rfl)
  · exact (show Tryd.prog.wantsStandIn 3 = false by kernel_rfl)

theorem ptreeErrs_holds : Rows.PtreeErrsCardSaid :=
  Claim7.holds_tied_plain_at .later [] _ _ _ _ ptreeErrsSaid_holds (fun _ h => by cases h) (by kernel_rfl) (fun _ h => by cases h) ptreeErrs_row_tie rfl ⟨rfl, rfl⟩ (by kernel_rfl) rfl ptreeErrsPlain (by kernel_rfl)

#print axioms ptreeErrs_holds
end Go.Proofs.YtofchcheoanmdaaDoor
