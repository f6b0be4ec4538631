/- What this text proves: the walk of mts.Write over this program: a signature's bytes behind bytes. -/
import Derived.Test.YtkgoiemnhhdlbaaDoorSgBase
import Derived.Test.YtkgoiemnhhdlbaaDoorCUintT
namespace Go.Proofs.YtkgoiemnhhdlbaaDoor
open Go.RowKit

set_option maxRecDepth 100000 in
set_option maxHeartbeats 4000000 in
theorem mwrite_any (v ca pa : Value) (l : List UInt8) (idx : Int) (ls ps : List (List UInt8)) (w : World) (h : HB w v l) (hc : PA w ca ls) (hp : PA w pa ps) (hbig : l.length + ls.flatten.length + ps.flatten.length ≤ 140737488355200) :
    Calls Tryd.prog 12 #[v, .agg #[.int .i64 idx, ca, pa]] w fun e w' => ∃ p c, e = .returned (.slice p (wrF l idx ls ps).length c) ∧ w'.ownsRow w.heap.size 5 1 (.slice p (wrF l idx ls ps).length c) (wrF l idx ls ps).length (bcs (wrF l idx ls ps)) ∧ Below w.heap.size w w' := by
  obtain ⟨pv, cv, rfl⟩ := h.shape
  obtain ⟨pc, cc, rfl⟩ := hc.shape
  obtain ⟨pp, cp, rfl⟩ := hp.shape
  have hU := fun w' h' => cuint_any (.slice pv l.length cv) l idx w' h' (by omega)
  have hns := num_short idx
  have HF : Hid (wrF l idx ls ps = l ++ numL (clampN idx) ++ ls.flatten ++ ps.flatten) := rfl
  generalize wrF l idx ls ps = F at *
  have hRl : (l ++ numL (clampN idx)).length = l.length + (numL (clampN idx)).length := List.length_append
  generalize l ++ numL (clampN idx) = R at *
  have hR : R.length + ls.flatten.length + ps.flatten.length ≤ 140737488355300 := by omega
  clear hRl hns hbig
  obtain ⟨EE, hEE⟩ : ∃ EE : Nat → List UInt8, EE = fun k => R ++ (ls.take k).flatten := ⟨_, rfl⟩
  have HE0 : Hid (EE 0 = R) := by show _ = _; rw [hEE]; simp
  have HE1 : Hid (∀ k x, ls[k]? = some x → EE (k + 1) = EE k ++ x) := by
    show ∀ k x, _ → _
    intro k x hx
    rw [hEE]
    simp only [flat_snoc hx, List.append_assoc]
  have HEn : Hid (EE ls.length = R ++ ls.flatten) := by show _ = _; rw [hEE]; simp
  have HEL : Hid (∀ k, (EE k).length ≤ R.length + ls.flatten.length) := by
    show ∀ k, _
    intro k
    have := flat_le (ls := ls) k
    rw [hEE]
    simp only [List.length_append]
    omega
  clear hEE
  obtain ⟨GG, hGG⟩ : ∃ GG : Nat → List UInt8, GG = fun k => (R ++ ls.flatten) ++ (ps.take k).flatten := ⟨_, rfl⟩
  have HG0 : Hid (GG 0 = EE ls.length) := by show _ = _; rw [HEn.out, hGG]; simp
  have HG1 : Hid (∀ k x, ps[k]? = some x → GG (k + 1) = GG k ++ x) := by
    show ∀ k x, _ → _
    intro k x hx
    rw [hGG]
    simp only [flat_snoc hx, List.append_assoc]
  have HGn : Hid (GG ps.length = F) := by show _ = _; rw [HF.out, hGG]; simp
  have HGL : Hid (∀ k, (GG k).length ≤ R.length + ls.flatten.length + ps.flatten.length) := by
    show ∀ k, _
    intro k
    have := flat_le (ls := ps) k
    rw [hGG]
    simp only [List.length_append]
    omega
  clear hGG HF HEn
  generalize ls.flatten.length = LL at *
  generalize ps.flatten.length = PL at *
  have bA := (Below.refl _ w).alloc (Nat.le_refl _) (.cells #[.int .i64 idx, .slice pc ls.length cc, .slice pp ps.length cp] 27)
  have g1 := heap_alloc_new w (.cells #[.int .i64 idx, .slice pc ls.length cc, .slice pp ps.length cp] 27)
  have mc := hc.len.2
  have mp := hp.len.2
  unfold maxLen at mc mp
  go_enter Tryd.func12, Tryd.ntmps12
  go_wp2_with fail
  generalize hW : w.alloc (.cells #[.int .i64 idx, .slice pc ls.length cc, .slice pp ps.length cp] 27) = W at *
  clear hW
  have s1 : W.cell? ⟨w.heap.size, 1, none⟩ = some (.slice pc ls.length cc) := by rw [cell_of_row _ _ 1 _ _ _ g1]; rfl
  have s2 : W.cell? ⟨w.heap.size, 2, none⟩ = some (.slice pp ps.length cp) := by rw [cell_of_row _ _ 2 _ _ _ g1]; rfl
  refine (hU _ (h.later bA)).mono ?_
  rintro e w1 ⟨p1, c1, rfl, o1, hb1⟩
  have x1 := cell_later hb1 s1
  have sA := bA.size
  have s0 : W.cell? ⟨w.heap.size, 0, none⟩ = some (.int .i64 idx) := by rw [cell_of_row _ _ 0 _ _ _ g1]; rfl
  have x0 := cell_later hb1 s0
  have x2 := cell_later hb1 s2
  have hcW := hc.later bA
  have hpW := hp.later bA
  have hS := fun w' => lists_any idx pc pp ls.length cc ps.length cp w'
  clear hU h hc hp g1 s0 s1 s2
  go_wp2_with fail
  refine (hS _).mono ?_
  rintro e w2 ⟨rfl, hb2⟩
  have o2 := owns_later o1 hb2
  have hbe0 := hb1.trans (hb2.mono hb1.size)
  clear x0 x1 x2 hS o1 hb1 hb2
  obtain ⟨HH, h0, h1, h2⟩ : ∃ HH : Nat → List UInt8, Hid (HH 0 = R) ∧ Hid (HH 1 = GG 0) ∧ Hid (HH 2 = F) := ⟨fun j => if j = 0 then R else if j = 1 then GG 0 else F, rfl, rfl, rfl⟩
  have HI := fun n0 n1 w' => run_index2 pc pp n0 cc n1 cp w'
  have hI0 := fun n0 n1 w' => (HI n0 n1 w').1
  have hI1 := fun n0 n1 w' => (HI n0 n1 w').2
  clear HI
  rw [← h0.out] at o2
  have HR0 : Hid (R = HH 0) := h0.out.symm
  obtain ⟨N, hN⟩ : ∃ N, N = ls.length := ⟨_, rfl⟩
  obtain ⟨M, hM⟩ : ∃ M, M = ps.length := ⟨_, rfl⟩
  rw [← hN] at hcW mc HG0 ⊢
  rw [← hM] at hpW mp HGn ⊢
  clear hN hM
  go_wp2
  rw [HR0.out]
  go_loopw [0, 15] (fun v i wr => ∃ j : Nat, j ≤ 2 ∧ i = .int .i64 j ∧ wr.ownsRow W.heap.size 5 1 v (HH j).length (bcs (HH j)) ∧ Below W.heap.size W wr) (fun _ i _ => 2 - (intOf i).toNat)
  case atStart => exact ⟨0, by omega, rfl, o2, hbe0⟩
  case round =>
    obtain ⟨j, hj, rfl, hown, hbe⟩ := hrel
    clear o2 hbe0
    rcases (show j = 0 ∨ j = 1 ∨ j = 2 by omega) with rfl | rfl | rfl
    · rw [h0.out, ← HE0.out] at hown
      obtain ⟨wo, hwo⟩ : ∃ wo, wo = wr := ⟨_, rfl⟩
      subst hwo
      go_wp2
      go_loopw [0, 20] (fun v i wr => ∃ k : Nat, k ≤ N ∧ i = .int .i64 k ∧ wr.ownsRow W.heap.size 5 1 v (EE k).length (bcs (EE k)) ∧ Below W.heap.size W wr) (fun _ i _ => N - (intOf i).toNat)
      case atStart => exact ⟨0, Nat.zero_le _, rfl, hown, hbe⟩
      case round =>
        clear hown hbe
        obtain ⟨k, hk, rfl, hown, hbe⟩ := hrel
        by_cases hlt : k < N
        · obtain ⟨b1, o1, rfl⟩ := hcW.addr (by omega)
          obtain ⟨q6, k6, x, gx, ec, hx⟩ := (hcW.later hbe).get k hlt
          have hlt2 : (k : Int) < (N : Int) := by omega
          have HZ : Hid (EE (k + 1) = EE k ++ x) := HE1.out k x gx.out
          have hEk := HEL.out (k + 1)
          rw [HZ.out, List.length_append] at hEk
          have hsz := hbe.size
          generalize hX : EE k = X at *
          clear hX gx
          go_wp2_with (first | (at_builtin; refine wpList_append_hb rfl (.tmp 24) (.tmp 25) 22 rfl W.heap.size 5 Tryd.underlying22 i_u8 _ _ _ rfl hown _ _ _ x rfl hx ?sa ?sb ?_))
          case sa => omega
          case sb => omega
          intro v5 w5 hown5 hgrow5
          have hb5 : Below W.heap.size W w5 := hbe.grown hgrow5 hsz (fun k hk => (hown.lt k hk).1)
          have hown6 : w5.ownsRow W.heap.size 5 1 v5 (EE (k + 1)).length (bcs (EE (k + 1))) := by
            rw [HZ.out, List.length_append, bcs_append]
            exact hown5
          clear hown hown5 hgrow5 hbe hx
          go_wp2
          go_roundw
          case rel => first | exact ⟨k + 1, by omega, by go_num, hown6, hb5⟩ | ((repeat apply Exists.intro); exact ⟨⟨k + 1, by omega, by go_num, hown6, hb5⟩, rfl⟩)
          case measure => simp [intOf]; omega
        · obtain rfl : N = k := by omega
          rw [← HG0.out, ← h1.out] at hown
          go_wp2
          go_roundw
          case rel => exact ⟨1, by omega, by go_num, hown, hbe⟩
          case measure => simp [intOf]
    · rw [h1.out] at hown
      obtain ⟨wo, hwo⟩ : ∃ wo, wo = wr := ⟨_, rfl⟩
      subst hwo
      go_wp2
      go_loopw [0, 20] (fun v i wr => ∃ k : Nat, k ≤ M ∧ i = .int .i64 k ∧ wr.ownsRow W.heap.size 5 1 v (GG k).length (bcs (GG k)) ∧ Below W.heap.size W wr) (fun _ i _ => M - (intOf i).toNat)
      case atStart => exact ⟨0, Nat.zero_le _, rfl, hown, hbe⟩
      case round =>
        clear hown hbe
        obtain ⟨k, hk, rfl, hown, hbe⟩ := hrel
        by_cases hlt : k < M
        · obtain ⟨b1, o1, rfl⟩ := hpW.addr (by omega)
          obtain ⟨q6, k6, x, gx, ec, hx⟩ := (hpW.later hbe).get k hlt
          have hlt2 : (k : Int) < (M : Int) := by omega
          have HZ : Hid (GG (k + 1) = GG k ++ x) := HG1.out k x gx.out
          have hEk := HGL.out (k + 1)
          rw [HZ.out, List.length_append] at hEk
          have hsz := hbe.size
          generalize hX : GG k = X at *
          clear hX gx
          go_wp2_with (first | (at_builtin; refine wpList_append_hb rfl (.tmp 24) (.tmp 25) 22 rfl W.heap.size 5 Tryd.underlying22 i_u8 _ _ _ rfl hown _ _ _ x rfl hx ?ta ?tb ?_))
          case ta => omega
          case tb => omega
          intro v5 w5 hown5 hgrow5
          have hb5 : Below W.heap.size W w5 := hbe.grown hgrow5 hsz (fun k hk => (hown.lt k hk).1)
          have hown6 : w5.ownsRow W.heap.size 5 1 v5 (GG (k + 1)).length (bcs (GG (k + 1))) := by
            rw [HZ.out, List.length_append, bcs_append]
            exact hown5
          clear hown hown5 hgrow5 hbe hx
          go_wp2
          go_roundw
          case rel => first | exact ⟨k + 1, by omega, by go_num, hown6, hb5⟩ | ((repeat apply Exists.intro); exact ⟨⟨k + 1, by omega, by go_num, hown6, hb5⟩, rfl⟩)
          case measure => simp [intOf]; omega
        · obtain rfl : M = k := by omega
          rw [HGn.out, ← h2.out] at hown
          go_wp2
          go_roundw
          case rel => exact ⟨2, by omega, by go_num, hown, hbe⟩
          case measure => simp [intOf]
    · rw [h2.out] at hown
      have hown' := owns_mono hown sA
      have hb := bA.trans (hbe.mono sA)
      obtain ⟨p7, c7, rfl⟩ := owns_shape hown'
      clear hown hbe
      go_wp2
      go_ret
      exact ⟨_, _, rfl, hown', hb⟩

end Go.Proofs.YtkgoiemnhhdlbaaDoor
