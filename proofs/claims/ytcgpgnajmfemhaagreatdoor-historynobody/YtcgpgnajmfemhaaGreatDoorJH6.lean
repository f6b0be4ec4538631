/- What this text proves: the walk of annalslaw24.HistoryNobody over this program: it answers true. Proved here: Rows.HistoryNobodyCardSaid: for every slice of bindings and every number the Go function annalslaw24.HistoryNobody returns true (a directory, and a device, that no call made, answer as the document says). No condition; the tables of packages sha and math/bits start as the text of the program lays them. -/
import Derived.Test.YtcgpgnajmfemhaaGreatDoorJH5
import Derived.Test.YtcgpgnajmfemhaaGreatDoorJOp
namespace Go.Proofs.YtcgpgnajmfemhaaGreatDoor.Vf
open Go.RowKit

set_option maxRecDepth 100000 in
set_option maxHeartbeats 1600000 in
theorem hopen_none (w : World) :
    Calls Tryz.prog 18 #[.pointer none, .agg #[.int .i64 3, .int .i64 3, .int .i64 2, .int .i64 4, .int .i64 30, .int .i64 2400, .int .i64 1, .int .i64 3], .slice none 0 0] w fun x w' => x = .returned (.tuple #[.pointer none, .int .i64 2]) ∧ Below w.heap.size w w' := by
  have b0 := (Below.refl w.heap.size w).alloc (Nat.le_refl _) (.cells #[.int .i64 3, .int .i64 3, .int .i64 2, .int .i64 4, .int .i64 30, .int .i64 2400, .int .i64 1, .int .i64 3] 25)
  have g0 := heap_alloc_new w (.cells #[.int .i64 3, .int .i64 3, .int .i64 2, .int .i64 4, .int .i64 30, .int .i64 2400, .int .i64 1, .int .i64 3] 25)
  obtain ⟨V, hV⟩ : ∃ V, w.alloc (.cells #[.int .i64 3, .int .i64 3, .int .i64 2, .int .i64 4, .int .i64 30, .int .i64 2400, .int .i64 1, .int .i64 3] 25) = V := ⟨_, rfl⟩
  rw [hV] at b0 g0
  obtain ⟨q0, q1, q2, q3, q4, q5, q6, q7⟩ := par_cells g0
  have hO := lopen_none 3 3 2 4 30 2400 1 3 hchk (.pointer none) V (.inl rfl)
  go_enter Tryz.func18, Tryz.ntmps18
  go_wp2_with (go_at_call 37; refine hO.mono ?_; rintro e w1 ⟨rfl, b1⟩)
  go_ret2
  exact ⟨rfl, b0.trans (b1.mono b0.size)⟩

set_option maxRecDepth 100000 in
set_option maxHeartbeats 8000000 in
theorem hyNobodyWalk (p : Option Addr) (n c : Nat) (m : Int) (w : World) (hT : Tabs w) (hTD : TD w) (hs : 4 ≤ w.heap.size) :
    Calls Tryz.prog 3 #[.slice p n c, .int .i64 m] w fun e w' => e = .returned (.bool true) ∧ Below w.heap.size w w' := by
  obtain ⟨W1, hW1⟩ : ∃ W1, (w.alloc (.cells #[.int .i64 0, .int .i64 0, .int .i64 0, .int .i64 0, .int .i64 0, .int .i64 0, .int .i64 0, .int .i64 0, .pointer none, .pointer none, .pointer none, .slice none 0 0, .slice none 0 0, .int .i64 0] 32)).alloc (.cells #[.pointer none, .pointer (some ⟨w.heap.size, 0, none⟩)] 23) = W1 := ⟨_, rfl⟩
  have b1 : Below w.heap.size w W1 := by rw [← hW1]; exact ((Below.refl _ w).alloc (Nat.le_refl _) _).alloc (by simp) _
  have g1 : W1.heap[w.heap.size]? = some (.cells #[.int .i64 0, .int .i64 0, .int .i64 0, .int .i64 0, .int .i64 0, .int .i64 0, .int .i64 0, .int .i64 0, .pointer none, .pointer none, .pointer none, .slice none 0 0, .slice none 0 0, .int .i64 0] 32 (0, 0)) := by
    rw [← hW1, Below.heap_alloc _ _ _ (by simp)]
    exact heap_alloc_new w _
  have g2 : W1.heap[w.heap.size + 1]? = some (.cells #[.pointer none, .pointer (some ⟨w.heap.size, 0, none⟩)] 23 (0, 0)) := by
    rw [← hW1]
    have := heap_alloc_new (w.alloc (.cells #[.int .i64 0, .int .i64 0, .int .i64 0, .int .i64 0, .int .i64 0, .int .i64 0, .int .i64 0, .int .i64 0, .pointer none, .pointer none, .pointer none, .slice none 0 0, .slice none 0 0, .int .i64 0] 32)) (.cells #[.pointer none, .pointer (some ⟨w.heap.size, 0, none⟩)] 23)
    simpa using this
  have d8 : W1.cell? ⟨w.heap.size, 8, none⟩ = some (.pointer none) := by rw [cell_of_row _ _ _ _ _ _ g1]; rfl
  have HC : Hid (∀ W, Below W1.heap.size W1 W → W.cell? ⟨w.heap.size + 1, 0, none⟩ = some (.pointer none) ∧ W.cell? ⟨w.heap.size + 1, 1, none⟩ = some (.pointer (some ⟨w.heap.size, 0, none⟩))) := by
    intro W hb
    have h2 := (hb.block _ (Array.getElem?_eq_some_iff.1 g2).1).trans g2
    exact ⟨by rw [cell_of_row _ _ _ _ _ _ h2]; rfl, by rw [cell_of_row _ _ _ _ _ _ h2]; rfl⟩
  have HG0 : ∀ W, Below W1.heap.size W1 W → GoneH none W := fun W _ => hgone_nil W
  have HG1 : ∀ W, Below W1.heap.size W1 W → GoneH (some ⟨w.heap.size, 0, none⟩) W := fun W hb => hgone_zero W _ (cell_later hb d8)
  have hh0 : Hid _ := HG0
  have hh1 : Hid _ := HG1
  clear HG0 HG1 g1 g2 d8
  go_enter Tryz.func3, Tryz.ntmps3
  go_wp2
  clear hW1
  go_loopw [18] (fun j wr => ∃ k : Nat, k ≤ 2 ∧ j = .int .i64 k ∧ Below W1.heap.size W1 wr) (fun j _ => 2 - (Go.RowKit.intOf j).toNat)
  case atStart => exact ⟨0, by omega, rfl, Below.refl _ _⟩
  case round =>
    obtain ⟨k, hk, rfl, hb⟩ := hrel
    obtain ⟨ep0, ep1⟩ := HC.out _ hb
    have hk3 : k = 0 ∨ k = 1 ∨ k = 2 := by omega
    rcases hk3 with rfl | rfl | rfl
    · clear hh1
      go_wp2_with (first
        | (go_at_call 4; refine (hpub_gone none _ _ (hh0.out _ hb)).mono ?_; rintro e w4 ⟨rfl, hw⟩; have hw2 := hw.symm; clear hw; subst hw2)
        | (go_at_call 5; refine (hsigned_gone none _ _ (fun W hbb => hh0.out W (hb.trans (hbb.mono hb.size)))).mono ?_; rintro e w5 ⟨rfl, c5⟩; have hb5 := hb.trans ((c5.alloc c5.size (.cells #[.int .i64 0, .int .i64 0, .slice none 0 0, .int .i64 0, .slice none 0 0, .slice none 0 0, .int .i64 0, .slice none 0 0, .slice none 0 0] 44)).mono hb.size); have hG5 := hh0.out _ hb5)
        | (go_at_call 6; refine (hepoch_gone none _ hG5).mono ?_; rintro e w6 ⟨rfl, hw⟩; have hw2 := hw.symm; clear hw; subst hw2)
        | (go_at_call 7; refine (hchanges_gone none _ hG5).mono ?_; rintro e w6 ⟨rfl, hw⟩; have hw2 := hw.symm; clear hw; subst hw2)
        | (go_at_call 8; refine (hnow_gone none _ hG5).mono ?_; rintro e w6 ⟨rfl, hw⟩; have hw2 := hw.symm; clear hw; subst hw2)
        | (go_at_call 9; refine (hpublic_gone none _ hG5).mono ?_; rintro e w6 ⟨rfl, hw⟩; have hw2 := hw.symm; clear hw; subst hw2)
        | (go_at_call 10; refine (hbatch_gone none _ _ hG5).mono ?_; rintro e w6 ⟨rfl, hw⟩; have hw2 := hw.symm; clear hw; subst hw2)
        | (go_at_call 11; refine (htimes_gone none _ hG5).mono ?_; rintro e w6 ⟨rfl, hw⟩; have hw2 := hw.symm; clear hw; subst hw2)
        | (go_at_call 12; refine (hway_gone none _ _ _ hG5).mono ?_; rintro e w6 ⟨rfl, hw⟩; have hw2 := hw.symm; clear hw; subst hw2)
        | (go_at_call 13; refine (htick_gone none _ _ hG5).mono ?_; rintro e w6 ⟨rfl, hw⟩; have hw2 := hw.symm; clear hw; subst hw2)
        | (go_at_call 14; refine (hparams_gone none _ (fun W hbb => hh0.out W (hb5.trans (hbb.mono hb5.size)))).mono ?_; rintro e w7 ⟨rfl, c7⟩; have hb7 := hb5.trans (c7.mono hb5.size); have hG7 := hh0.out _ hb7)
        | (go_at_call 15; refine (hsnaps_gone none _ hG7).mono ?_; rintro e w8 ⟨rfl, hw⟩; have hw2 := hw.symm; clear hw; subst hw2)
        | (go_at_call 16; refine (hgauge_gone none _ (fun W hbb => hh0.out W (hb7.trans (hbb.mono hb7.size)))).mono ?_; rintro e w9 ⟨rfl, c9⟩; have hb9 := hb7.trans (c9.mono hb7.size); have hG9 := hh0.out _ hb9)
        | (go_at_call 17; refine (hstopped_gone none _ hG9).mono ?_; rintro e w10 ⟨rfl, hw⟩; have hw2 := hw.symm; clear hw; subst hw2))
      go_roundw
      case rel => first | exact ⟨1, by omega, rfl, hb9⟩ | ((repeat apply Exists.intro); exact ⟨⟨1, by omega, rfl, hb9⟩, rfl⟩)
      case measure => simp [Go.RowKit.intOf]
    · clear hh0
      go_wp2_with (first
          | (go_at_call 4; refine (hpub_gone (some ⟨w.heap.size, 0, none⟩) _ _ (hh1.out _ hb)).mono ?_; rintro e w4 ⟨rfl, hw⟩; have hw2 := hw.symm; clear hw; subst hw2)
          | (go_at_call 5; refine (hsigned_gone (some ⟨w.heap.size, 0, none⟩) _ _ (fun W hbb => hh1.out W (hb.trans (hbb.mono hb.size)))).mono ?_; rintro e w5 ⟨rfl, c5⟩; have hb5 := hb.trans ((c5.alloc c5.size (.cells #[.int .i64 0, .int .i64 0, .slice none 0 0, .int .i64 0, .slice none 0 0, .slice none 0 0, .int .i64 0, .slice none 0 0, .slice none 0 0] 44)).mono hb.size); have hG5 := hh1.out _ hb5)
          | (go_at_call 6; refine (hepoch_gone (some ⟨w.heap.size, 0, none⟩) _ hG5).mono ?_; rintro e w6 ⟨rfl, hw⟩; have hw2 := hw.symm; clear hw; subst hw2)
          | (go_at_call 7; refine (hchanges_gone (some ⟨w.heap.size, 0, none⟩) _ hG5).mono ?_; rintro e w6 ⟨rfl, hw⟩; have hw2 := hw.symm; clear hw; subst hw2)
          | (go_at_call 8; refine (hnow_gone (some ⟨w.heap.size, 0, none⟩) _ hG5).mono ?_; rintro e w6 ⟨rfl, hw⟩; have hw2 := hw.symm; clear hw; subst hw2)
          | (go_at_call 9; refine (hpublic_gone (some ⟨w.heap.size, 0, none⟩) _ hG5).mono ?_; rintro e w6 ⟨rfl, hw⟩; have hw2 := hw.symm; clear hw; subst hw2)
          | (go_at_call 10; refine (hbatch_gone (some ⟨w.heap.size, 0, none⟩) _ _ hG5).mono ?_; rintro e w6 ⟨rfl, hw⟩; have hw2 := hw.symm; clear hw; subst hw2)
          | (go_at_call 11; refine (htimes_gone (some ⟨w.heap.size, 0, none⟩) _ hG5).mono ?_; rintro e w6 ⟨rfl, hw⟩; have hw2 := hw.symm; clear hw; subst hw2)
          | (go_at_call 12; refine (hway_gone (some ⟨w.heap.size, 0, none⟩) _ _ _ hG5).mono ?_; rintro e w6 ⟨rfl, hw⟩; have hw2 := hw.symm; clear hw; subst hw2)
          | (go_at_call 13; refine (htick_gone (some ⟨w.heap.size, 0, none⟩) _ _ hG5).mono ?_; rintro e w6 ⟨rfl, hw⟩; have hw2 := hw.symm; clear hw; subst hw2)
          | (go_at_call 14; refine (hparams_gone (some ⟨w.heap.size, 0, none⟩) _ (fun W hbb => hh1.out W (hb5.trans (hbb.mono hb5.size)))).mono ?_; rintro e w7 ⟨rfl, c7⟩; have hb7 := hb5.trans (c7.mono hb5.size); have hG7 := hh1.out _ hb7)
          | (go_at_call 15; refine (hsnaps_gone (some ⟨w.heap.size, 0, none⟩) _ hG7).mono ?_; rintro e w8 ⟨rfl, hw⟩; have hw2 := hw.symm; clear hw; subst hw2)
          | (go_at_call 16; refine (hgauge_gone (some ⟨w.heap.size, 0, none⟩) _ (fun W hbb => hh1.out W (hb7.trans (hbb.mono hb7.size)))).mono ?_; rintro e w9 ⟨rfl, c9⟩; have hb9 := hb7.trans (c9.mono hb7.size); have hG9 := hh1.out _ hb9)
          | (go_at_call 17; refine (hstopped_gone (some ⟨w.heap.size, 0, none⟩) _ hG9).mono ?_; rintro e w10 ⟨rfl, hw⟩; have hw2 := hw.symm; clear hw; subst hw2))
      go_roundw
      case rel => first | exact ⟨2, by omega, rfl, hb9⟩ | ((repeat apply Exists.intro); exact ⟨⟨2, by omega, rfl, hb9⟩, rfl⟩)
      case measure => simp [Go.RowKit.intOf]
    · clear hh0 hh1 HC ep0 ep1
      have bwX := b1.trans (hb.mono b1.size)
      have hAw := fun W (hbW : Below w.heap.size w W) => hyAwake_any W (hT.later hbW) (hTD.later hbW) (Nat.le_trans hs hbW.size)
      have HAw : Hid _ := hAw
      clear hAw
      go_wp2_with (first
        | (go_at_call 19; refine (hsmall_any _).mono ?_; rintro e w4 ⟨rfl, c4⟩; have bw4 := bwX.trans (c4.mono bwX.size))
        | (go_at_call 18; refine (hopen_none _).mono ?_; rintro e w5 ⟨rfl, c5⟩; have bw5 := bw4.trans (c5.mono bw4.size))
        | (go_at_call 20; refine (HAw.out _ bw5).mono ?_; rintro e w6 ⟨rfl, c6⟩))
      go_ret
      exact ⟨rfl, bw5.trans (c6.mono bw5.size)⟩

end Go.Proofs.YtcgpgnajmfemhaaGreatDoor.Vf

namespace Go.Proofs.YtcgpgnajmfemhaaGreatDoor
open Go.ChangeShapes Go.WideShapes Go.ChangeAt Go.RowKit

set_option maxRecDepth 100000 in
theorem historyNobodyContract (H : Type) (enc : TypeId × Value → H) (W : World) (base : Nat) (args : Array Value) (ds gs : List (DataW H)) (before : List MemPlace)
    (hval : ∀ (j : Nat) t v, Tryz.f3.params[j]? = some t → args[j]? = some v → Value.okWide Tryz.prog W .any base t v)
    (hW : DataW.Whole enc Tryz.prog Tryz.f3.params.toList Rows.historyNobodySpec.vars false W args.toList ds gs before) (hsz0 : (DataW.weightsEach Tryz.prog (Tryz.f3.params.toList ++ (OpenSpec.ofChange Rows.historyNobodySpec).bare.plain.varTypes Tryz.prog) (ds ++ gs)).all (· ≤ reachBytes) = true) (hL : laidMetH Tryz.prog Rows.historyNobodyRow.laid W) :
    Calls Tryz.prog 3 args W fun e W' => ∃ v, e = .returned v ∧ Rows.historyNobodySpec.post enc Tryz.prog Tryz.f3 false true false false W args v W' := by
  have hT : Tabs W := tabs_of (laidMet.tail (laidMet.tail hL))
  have hD : TD W := td_of hL
  have hW' := hW
  obtain ⟨p, q, hA0, hV, rfl, hfz, hnd⟩ := hW
  have hA : DataW.TrodAll enc Tryz.prog W 0 (fun _ => true) true Tryz.f3.params.toList args.toList ds p := hA0
  rw [Tryz.params3] at hA hval hsz0
  obtain ⟨v0, vs0, d0, ds0, p0, q0, hargs, rfl, rfl, h0, r0⟩ := trodAll_cons hA
  obtain ⟨v1, vs1, d1, ds1, p1, q1, rfl, rfl, rfl, h1, r1⟩ := trodAll_cons r0
  obtain ⟨rfl, rfl, rfl⟩ := trodAll_nil r1
  obtain rfl : args = #[v0, v1] := by cases args; simp_all
  obtain ⟨rfl, rfl⟩ := trodVars_none hV
  have k0 := h0
  have lt0 : ∀ x ∈ p0, x.block < W.heap.size := by obtain ⟨m, hm⟩ := k0; exact DataW.trod_lt m _ _ _ hm
  obtain ⟨pp0, pn0, pc0, rfl⟩ := open_bindsH (hval 0 22 v0 rfl rfl)
  obtain ⟨a1, rfl, rfl, rfl, w1⟩ := open_int Tryz.underlying3 (hval 1 3 v1 rfl rfl) h1
  clear hA0
  simp only [List.append_nil] at hW'
  refine (Vf.hyNobodyWalk pp0 pn0 pc0 a1 W hT hD (cell_in (hD 0 (by decide)))).mono fun e W' ⟨he, bel⟩ => ?_
  subst he
  exact ⟨_, rfl, _, _, _, [], _, [], hW', trodAll_mk1 (shut_bool Tryz.underlying4 _), (trodAll_cons_mk (Below.trod laidOut (by kernel_rfl) (of_decide_eq_true (by kernel_rfl)) k0 bel lt0) (trodAll_cons_mk (shut_int Tryz.underlying3 w1) trodAll_mk0)), rfl, bel.frame _, fun h => by cases h⟩

theorem historyNobodyMet (os : Os) : laidMet Tryz.prog Rows.historyNobodyRow.laid (({ World.holding Tryz.prog os ⟨#[], #[], []⟩ with heap := (((((((((World.holding Tryz.prog os ⟨#[], #[], []⟩).heap).modify 2 fun | .cells _ t frozen => .cells tab32Cells t frozen | o => o)).modify 3 fun | .cells _ t frozen => .cells tab64Cells t frozen | o => o)).modify 0 fun | .cells _ t frozen => .cells startCells t frozen | o => o)).modify 1 fun | .cells _ t frozen => .cells roundsCells t frozen | o => o) } : World).forCall (fun _ _ => 0) ⟨#[], #[.slice none 0 0, .int .i64 0], []⟩).memory :=
  laidMet_of_run' 8 (by kernel_rfl) (by kernel_rfl)
theorem historyNobodyReads (os : Os) {H : Type} (enc : TypeId × Value → H) : ∃ places, DataW.whole enc Tryz.prog (({ World.holding Tryz.prog os ⟨#[], #[], []⟩ with heap := (((((((((World.holding Tryz.prog os ⟨#[], #[], []⟩).heap).modify 2 fun | .cells _ t frozen => .cells tab32Cells t frozen | o => o)).modify 3 fun | .cells _ t frozen => .cells tab64Cells t frozen | o => o)).modify 0 fun | .cells _ t frozen => .cells startCells t frozen | o => o)).modify 1 fun | .cells _ t frozen => .cells roundsCells t frozen | o => o) } : World).forCall (fun _ _ => 0) ⟨#[], #[.slice none 0 0, .int .i64 0], []⟩).memory Tryz.f3.params.toList Rows.historyNobodySpec.vars false (#[.slice none 0 0, .int .i64 0] : Array Value).toList 8 = some ([.nil, .lit (.int .i64 0)], [], places) :=
  ⟨[], by kernel_rfl⟩

set_option maxRecDepth 100000 in
theorem historyNobodyLifted (os : Os) (started : os.Started) (H : Type) (enc : TypeId × Value → H) (F : Stop.Interp) :
    ReturnsInHanded {} Tryz.checked os 3 .any ((OpenSpec.ofChange Rows.historyNobodySpec).preRow enc Tryz.prog Tryz.f3 Rows.historyNobodyRow.domain false Rows.historyNobodyRow.laid) (((OpenSpec.ofChange Rows.historyNobodySpec).at F).post enc Tryz.prog Tryz.f3 false true false false) := by
  obtain ⟨places, hx⟩ := historyNobodyReads os enc
  refine returnsInHanded_of_row (C := Tryz.checked) (s := OpenSpec.ofChange Rows.historyNobodySpec) own started (by kernel_rfl) Tryz.func3
    (witness_row_at (enc := enc) (C := Tryz.checked) false ({ World.holding Tryz.prog os ⟨#[], #[], []⟩ with heap := (((((((((World.holding Tryz.prog os ⟨#[], #[], []⟩).heap).modify 2 fun | .cells _ t frozen => .cells tab32Cells t frozen | o => o)).modify 3 fun | .cells _ t frozen => .cells tab64Cells t frozen | o => o)).modify 0 fun | .cells _ t frozen => .cells startCells t frozen | o => o)).modify 1 fun | .cells _ t frozen => .cells roundsCells t frozen | o => o) } : World) #[.slice none 0 0, .int .i64 0] rfl (by kernel_rfl) (by kernel_rfl) (by kernel_rfl)
      (OpenSpec.preRow_of_cond 8 hx (by kernel_rfl) (fun k hk => by cases hk) (by kernel_rfl) (historyNobodyMet os))) ?_
  intro W base args ds gs before hval hW _ _ hsz hL _ _
  exact historyNobodyContract H enc W base args ds gs before hval hW hsz hL

theorem historyNobodySaid_holds : Rows.HistoryNobodySaid :=
  OpenClaim.holds_of_cond 3 Tryz.f3 rfl rfl rfl rfl rfl rfl rfl ⟨rfl, rfl, rfl, rfl, rfl⟩ rfl rfl rfl rfl rfl (by kernel_rfl) Tryz.func3 (by kernel_rfl)
    (of_decide_eq_true (by kernel_rfl)) (by unfold Func.isWrapper; first | (rw [if_pos (by decide +kernel)]; kernel_rfl) | (rw [if_neg (by decide +kernel)]; exact ⟨rfl, rfl⟩))
    (fun os started H enc _ F => by rw [OpenClaim.pre_eq_preRow]; exact historyNobodyLifted os started H enc F)

theorem historyNobodyPlain (f : FuncId) (fn : Func) (hf : Tryz.pinned.checked.prog.funcNamed "annals/annalslaw24.HistoryNobody" = some f) (hfn : Tryz.pinned.checked.prog.funcs[f]? = some fn) :
    true = Tryz.pinned.checked.prog.looks [] ∧ ∀ (j : Nat) t, fn.params[j]? = some t → Tryz.pinned.checked.prog.wantsStandIn t = false := by
  obtain rfl : f = 3 := Option.some.inj ((show Tryz.prog.funcNamed "annals/annalslaw24.HistoryNobody" = some 3 by kernel_rfl).symm.trans hf) |>.symm
  obtain rfl : fn = Tryz.f3 := (Option.some.inj (Tryz.func3.symm.trans hfn)).symm
  refine ⟨by kernel_rfl, fun j t ht => ?_⟩
  rw [Tryz.params3] at ht
  have hm : t = 22 ∨ t = 3 := by simpa using Array.mem_of_getElem? ht
  rcases hm with rfl | rfl
  · exact (show Tryz.prog.wantsStandIn 22 = false by kernel_rfl)
  · exact (show Tryz.prog.wantsStandIn 3 = false by kernel_rfl)

theorem historyNobody_holds : Rows.HistoryNobodyCardSaid :=
  Claim7.holds_tied_plain_at .later [] _ _ _ _ historyNobodySaid_holds (fun _ h => by cases h) (by kernel_rfl) (fun _ h => by cases h) historyNobody_row_tie rfl ⟨rfl, rfl⟩ (by kernel_rfl) rfl historyNobodyPlain (by kernel_rfl)

#print axioms historyNobody_holds
end Go.Proofs.YtcgpgnajmfemhaaGreatDoor
