/- What this text proves: the walk of feed.Cuts over this program: the cuts of any page, in new memory. What this text proves: the walk of annalsref19.Cuts over this program: the cuts of any page, in new memory. What this text proves: a slice of cuts in memory; the walk of slices.Equal of two slices of the same cuts; annalslaw19.awake answers true. -/
import Derived.Test.YtggficgmjbgmpaaDoorJFs
import Derived.Deep.AppendLies
namespace Go.Proofs.YtggficgmjbgmpaaDoor
open Go.RowKit Go.Shelf

attribute [local go_sem] Oper.semAt_some

/-- The cells of cuts. -/
def cutCs (X : List (Nat × Int × Int)) : List Value := X.flatMap fun x => [.int .i64 x.2.1, .int .i64 x.2.2]
theorem cutCs_snoc (X : List (Nat × Int × Int)) (x : Nat × Int × Int) : cutCs (X ++ [x]) = cutCs X ++ [.int .i64 x.2.1, .int .i64 x.2.2] := by simp [cutCs]
theorem cutCs_len (X : List (Nat × Int × Int)) : (cutCs X).length = X.length * 2 := by
  induction X with
  | nil => rfl
  | cons x r ih =>
    rw [show cutCs (x :: r) = [.int .i64 x.2.1, .int .i64 x.2.2] ++ cutCs r from rfl, List.length_append, ih]
    simp
    omega

theorem i_cut : (Tryd.prog.info? 30).map (fun i => (i.zero, i.size, i.bytes)) = some (some (.agg #[.int .i64 0, .int .i64 0]), 2, 16) := by kernel_rfl

set_option maxRecDepth 100000 in
set_option maxHeartbeats 4000000 in
theorem cuts_any (v : Value) (T : List Int) (fr lf : Int) (w : World) (hi : IZ w v T) (hT : T.length ≤ 1000000) (hfr : -9223372036854775808 ≤ fr ∧ fr ≤ 9223372036854775807) (hlf : -9223372036854775808 ≤ lf ∧ lf ≤ 9223372036854775807) (hwT : ∀ x ∈ T, -9223372036854775808 ≤ x ∧ x ≤ 9223372036854775807) :
    Calls Tryd.prog 10 #[v, .int .i64 fr, .int .i64 lf] w fun e w' => ∃ u, e = .returned u ∧ w'.ownsRow w.heap.size 30 2 u (cutsG 0 T fr lf).length (cutCs (cutsG 0 T fr lf)) ∧ Below w.heap.size w w' := by
  obtain ⟨p, c, rfl⟩ := hi.shape
  obtain ⟨i0, hi0, hz0, hz1, hz2⟩ := info_parts i_cut
  have bP := Boxed.new w 28 (.slice none 0 0)
  have b1 := (Below.refl w.heap.size w).alloc (Nat.le_refl _) (.cells #[.slice none 0 0] 28)
  have s1 : (w.alloc (.cells #[.slice none 0 0] 28)).heap.size = w.heap.size + 1 := by simp
  generalize hwP : w.alloc (.cells #[.slice none 0 0] 28) = wP at *
  have hS := seq_any (.slice p T.length c) fr lf wP p T.length c rfl
  have b2 := cuW_below wP (.slice p T.length c) fr lf
  obtain ⟨k0, k1, k2⟩ := cuW_cells wP (.slice p T.length c) fr lf
  have s2 := cuW_size wP (.slice p T.length c) fr lf
  rw [s1] at hS k0 k1 k2 s2
  have bP2 : Boxed (cuW wP (.slice p T.length c) fr lf) w.heap.size 28 (.slice none 0 0) := (b2.block _ (by omega)).trans bP
  generalize cuW wP (.slice p T.length c) fr lf = W0 at *
  have hB0 : Below w.heap.size w W0 := b1.trans (b2.mono (by omega))
  have hlen := cutsG_len T 0 fr lf
  have hseq := cuts_stops 5 (w.heap.size + 1) (.slice p T.length c) T fr lf W0 (by omega) hfr hlf hwT k0 k1 k2 w hi hB0
  generalize cutsG 0 T fr lf = X at *
  clear bP b1 b2 k0 k1 k2 hi hfr hlf hwT
  refine (callsIn_wide (n := 6)).1 ?_
  refine callsIn_of_wp_marks Tryd.func10 rfl trivial ?_ rfl
  simp only [Tryd.ntmps10, List.size_toArray, List.length_cons, List.length_nil, Nat.reduceAdd, Nat.reduceSub, Array.replicate_succ, Array.replicate_zero, List.push_toArray, List.append_toArray, List.nil_append, List.cons_append]
  gi_wp2_with (refine ⟨trivial, ?_⟩; gi_at_call 21; refine (callsIn_wide.2 hS).mono ?_; rintro e w1 ⟨rfl, rfl⟩)
  refine wpIn_rangeFunc_ownH (F := Fence.wide) (n := 6) rfl (by omega) (gf := 32) (lb := #[.pointer (some ⟨w.heap.size + 1 + 1, 0, none⟩), .pointer (some ⟨w.heap.size + 1 + 2, 0, none⟩), .pointer (some ⟨w.heap.size + 1, 0, none⟩)]) rfl trivial (enters_of Tryd.func32 (by kernel_rfl) rfl)
    hseq belowK_t (belowK_b (by omega)) (Below.refl _ _) (fun _ => rfl)
    (fun pre W => (∃ u, Boxed W w.heap.size 28 u ∧ W.ownsRow w.heap.size 30 2 u pre.length (cutCs pre) ∧ True) ∧ Below w.heap.size w W)
    (fun _ _ _ => False)
    (OwnFrom.and (Own.from (holdsRow_own w.heap.size w.heap.size 28 30 2 (fun pre => pre.length) (fun pre => cutCs pre) (fun _ _ => True)) _) (ownFrom_below (Nat.le_refl _) (by omega)))
    (fun _ _ _ _ _ hs _ _ => hs)
    ⟨⟨_, bP2, World.ownsRow_nil _ _ _ _, trivial⟩, hB0⟩
    (fun x a' W => ∃ Bx, w.heap.size < Bx ∧ W.heap[Bx]? = some (.cells #[.int .i64 x.2.1, .int .i64 x.2.2] 30 (0, 0)) ∧ a' = { tmps := #[.slice p T.length c, .int .i64 fr, .int .i64 lf, undef, undef, undef, .slice none 0 0, .pointer (some ⟨w.heap.size, 0, none⟩), undef, .pointer (some ⟨Bx, 0, none⟩), .slice p T.length c, .int .i64 fr, .int .i64 lf, .func (.func 32) #[] #[.pointer (some ⟨w.heap.size + 1 + 1, 0, none⟩), .pointer (some ⟨w.heap.size + 1 + 2, 0, none⟩), .pointer (some ⟨w.heap.size + 1, 0, none⟩)], .int .i64 (x.1 : Int), .agg #[.int .i64 x.2.1, .int .i64 x.2.2], undef, undef, undef, undef, undef], defers := [] })
    ?hax ?assign ?body ?done ?stop
  case hax =>
    rintro x a' s A B row ⟨Bx, h1, h2, h3⟩ hg hr
    refine ⟨Bx, h1, ?_, h3⟩
    refine (hg.block Bx (Array.getElem?_eq_some_iff.1 h2).1 fun e => ?_).trans h2
    obtain ⟨_, o, ho, hc⟩ := hr Bx e.symm
    rw [h2] at ho
    cases ho
    cases hc
  case assign =>
    rintro l pre x W K ⟨⟨u, hu, hr, _⟩, hB⟩ hK
    have hsz := hB.size
    have hn := heap_alloc_new W (.cells #[.int .i64 x.2.1, .int .i64 x.2.2] 30)
    have hK' := hK { tmps := #[.slice p T.length c, .int .i64 fr, .int .i64 lf, undef, undef, undef, .slice none 0 0, .pointer (some ⟨w.heap.size, 0, none⟩), undef, .pointer (some ⟨W.heap.size, 0, none⟩), .slice p T.length c, .int .i64 fr, .int .i64 lf, .func (.func 32) #[] #[.pointer (some ⟨w.heap.size + 1 + 1, 0, none⟩), .pointer (some ⟨w.heap.size + 1 + 2, 0, none⟩), .pointer (some ⟨w.heap.size + 1, 0, none⟩)], .int .i64 (x.1 : Int), .agg #[.int .i64 x.2.1, .int .i64 x.2.2], undef, undef, undef, undef, undef], defers := [] } (W.alloc (.cells #[.int .i64 x.2.1, .int .i64 x.2.2] 30)) ((KeepsOthers.alloc _ _).from _) ((Below.refl _ W).alloc hsz _) ⟨⟨u, hu.alloc _, hr.alloc _, trivial⟩, hB.alloc hsz _⟩ ⟨W.heap.size, hu.lt, hn, rfl⟩
    clear hK hn
    dsimp only [encC]
    gi_wp2
    exact hK'
  case body =>
    rintro l pre x a' W hl hr0 ⟨⟨u, hu, hr, _⟩, hB⟩ ⟨Bx, hBx, hbx, rfl⟩ hlt
    have hsz := hB.size
    have cu := hu.cell
    have cx0 : W.cell? ⟨Bx, 0, none⟩ = some (.int .i64 x.2.1) := by rw [cell_of_row W _ _ _ _ _ hbx]; rfl
    have cx1 : W.cell? ⟨Bx, 1, none⟩ = some (.int .i64 x.2.2) := by rw [cell_of_row W _ _ _ _ _ hbx]; rfl
    gi_wp2_with (gi_at_builtin; refine wpListIn_append_own _ rfl _ _ 28 rfl w.heap.size 30 i0 (.agg #[.int .i64 0, .int .i64 0]) 2 16 Tryd.underlying28 hi0 hz0 hz1 hz2 ?q6 ?q7 u pre.length (cutCs pre) ?q8a ?q8 ⟨W.heap.size, 0, none⟩ 1 1 [.int .i64 x.2.1, .int .i64 x.2.2] ?q9 ?q10 ?q11 ?q12 ?q13 ?q14 ?q15 ?q16)
    case q6 => kernel_rfl
    case q7 => decide
    case q8a => rfl
    case q8 => exact hr.alloc _
    case q9 => rfl
    case q10 => rfl
    case q11 => exact World.news_of_block (cs := #[.int .i64 x.2.1, .int .i64 x.2.2]) (t := 30) (fr := (0, 0)) (heap_alloc_new W _)
    case q12 => simp [Value.oneCell']
    case q13 => unfold maxLen; omega
    case q14 => omega
    case q15 => simp; omega
    intro v' w2 hown' hgrow _
    obtain ⟨g', cap', rfl⟩ := ownsRow_succ hown'
    obtain ⟨hv1, hv2, hr2, hk2, hb2⟩ := hu.appended (by decide) hr hB.size (Nat.le_refl _) hown' hgrow
    have hc1 := hv1.cell
    have hf1 := hv1.frozen
    gi_wp2
    refine ⟨hk2.from _, hb2, ⟨_, hv2, ?_, trivial⟩, hB.trans hb2⟩
    rw [cutCs_snoc, List.length_append]
    exact hr2
  case stop =>
    intro D c pre W _ _ h
    exact h.elim
  case done =>
    rintro D ys W hD rfl ⟨⟨u, hu, hr, _⟩, hB⟩ hK
    have cu := hu.cell
    obtain ⟨pu, cu', hue⟩ := owns_shape hr
    subst hue
    gi_wp2
    refine ⟨by simp, .inl ⟨_, _, rfl, run_takeDeferred hK, ?_⟩⟩
    exact ⟨_, results_tmp rfl _ _ _, _, rfl, ownsRow_putObj hr _ hK rfl, hB.trans (belowK_b (w := w) (Nat.le_refl _) W D _ _ (by omega) hK rfl rfl)⟩

end Go.Proofs.YtggficgmjbgmpaaDoor

namespace Go.Proofs.YtggficgmjbgmpaaDoor
open Go.RowKit

set_option maxRecDepth 100000 in
set_option maxHeartbeats 4000000 in
theorem rcuts_any (v : Value) (T : List Int) (fr0 lf0 : Int) (w : World) (hi : IZ w v T) (hT : T.length ≤ 1000000) (hfr : -9223372036854775808 ≤ fr0 ∧ fr0 ≤ 9223372036854775807) (hlf : -9223372036854775808 ≤ lf0 ∧ lf0 ≤ 9223372036854775807) (hwT : ∀ x ∈ T, -9223372036854775808 ≤ x ∧ x ≤ 9223372036854775807) :
    Calls Tryd.prog 11 #[v, .int .i64 fr0, .int .i64 lf0] w fun e w' => ∃ u, e = .returned u ∧ w'.ownsRow w.heap.size 30 2 u (cutsG 0 T fr0 lf0).length (cutCs (cutsG 0 T fr0 lf0)) ∧ Below w.heap.size w w' := by
  obtain ⟨p, c, rfl⟩ := hi.shape
  obtain ⟨i0, hi0, hz0, hz1, hz2⟩ := info_parts i_cut
  have none_of : ∀ X : List (Nat × Int × Int), X = [] → ∀ w', Below w.heap.size w w' → (∃ u, Ending.returned (.slice none 0 0) = .returned u ∧ w'.ownsRow w.heap.size 30 2 u X.length (cutCs X) ∧ Below w.heap.size w w') := by
    intro X hX w' hb
    subst hX
    exact ⟨_, rfl, World.ownsRow_nil _ _ _ _, hb⟩
  have HN : Hid (∀ X : List (Nat × Int × Int), X = [] → ∀ w', Below w.heap.size w w' → (∃ u, Ending.returned (.slice none 0 0) = .returned u ∧ w'.ownsRow w.heap.size 30 2 u X.length (cutCs X) ∧ Below w.heap.size w w')) := none_of
  clear none_of
  by_cases g1 : lf0 < 1
  · have hX : cutsG 0 T fr0 lf0 = [] := by
      cases T with
      | nil => rfl
      | cons c cs => exact cutsG_stop _ _ _ _ _ (.inl g1)
    generalize cutsG 0 T fr0 lf0 = X at *
    have HX : Hid (X = []) := hX
    clear hX
    clear hwT hi
    go_enter Tryd.func11, Tryd.ntmps11
    go_wp2
    go_ret
    exact HN.out X HX.out _ (Below.refl _ _)
  by_cases g2 : T.length = 0
  · have hX : cutsG 0 T fr0 lf0 = [] := by
      rw [List.eq_nil_of_length_eq_zero g2]
      rfl
    generalize cutsG 0 T fr0 lf0 = X at *
    have HX : Hid (X = []) := hX
    clear hX
    clear hwT hi
    rw [g2]
    clear g2
    go_enter Tryd.func11, Tryd.ntmps11
    go_wp2
    go_ret
    exact HN.out X HX.out _ (Below.refl _ _)
  obtain ⟨t0, ht0⟩ : ∃ t0, T[0]? = some t0 := ⟨_, List.getElem?_eq_getElem (by omega)⟩
  have g2' : ((T.length : Int) == 0) = false := beq_eq_false_iff_ne.2 (by omega)
  have b0 := hwT t0 (List.mem_of_getElem? ht0)
  obtain ⟨gb, o, rfl, hcell⟩ := hi.addr (by omega)
  have c0 := hcell 0 t0 ht0
  have hd := drop_cons ht0
  simp only [List.drop_zero, Nat.add_zero] at hd c0
  by_cases g3 : fr0 < 0 ∨ t0 ≤ fr0
  · have hX : cutsG 0 T fr0 lf0 = [] := by
      rw [hd]
      exact cutsG_stop _ _ _ _ _ (.inr g3)
    generalize cutsG 0 T fr0 lf0 = X at *
    have HX : Hid (X = []) := hX
    clear hX
    clear hwT hi hd ht0 hcell
    by_cases g4 : fr0 < 0
    · go_enter Tryd.func11, Tryd.ntmps11
      go_wp2
      go_ret
      exact HN.out X HX.out _ (Below.refl _ _)
    · have g5 : t0 ≤ fr0 := by omega
      clear g3
      go_enter Tryd.func11, Tryd.ntmps11
      go_wp2
      go_ret
      exact HN.out X HX.out _ (Below.refl _ _)
  have g4 : ¬ fr0 < 0 := by omega
  have g5 : ¬ t0 ≤ fr0 := by omega
  have HX0 : Hid ([] ++ cutsG 0 (T.drop 0) fr0 lf0 = cutsG 0 T fr0 lf0) := by show _ = _; simp
  have H0 : Hid (∀ c, T[0]? = some c → fr0 < c ∨ fr0 = 0) := by
    intro c hc
    rw [ht0] at hc
    cases hc
    omega
  have HW : Hid (∀ x ∈ T, -9223372036854775808 ≤ x ∧ x ≤ 9223372036854775807) := hwT
  have hXl := cutsG_len T 0 fr0 lf0
  generalize cutsG 0 T fr0 lf0 = X at *
  clear hwT hd ht0 HN g3
  go_enter Tryd.func11, Tryd.ntmps11
  go_wp2
  go_loopw [1, 2, 7, 31] (fun a b v i wr => ∃ (k : Nat) (pre : List (Nat × Int × Int)) (fr lf : Int), k ≤ T.length ∧ a = .int .i64 fr ∧ b = .int .i64 lf ∧ i = .int .i64 (k : Int) ∧ (0 ≤ fr ∧ fr ≤ 9223372036854775807) ∧ (0 ≤ lf ∧ lf ≤ 9223372036854775807) ∧ Hid (∀ c, T[k]? = some c → fr < c ∨ fr = 0) ∧ Hid (pre ++ cutsG k (T.drop k) fr lf = X) ∧ wr.ownsRow w.heap.size 30 2 v pre.length (cutCs pre) ∧ Below w.heap.size w wr) (fun _ _ _ i _ => T.length - (intOf i).toNat)
  case atStart => exact ⟨0, [], fr0, lf0, Nat.zero_le _, rfl, rfl, rfl, ⟨by omega, by omega⟩, ⟨by omega, by omega⟩, H0, HX0, World.ownsRow_nil _ _ _ _, Below.refl _ _⟩
  case round =>
    obtain ⟨k, pre, fr, lf, hk, rfl, rfl, rfl, hr1, hr2, hK, hX, hown, hbe⟩ := hrel
    have hsz := hbe.size
    by_cases hlt : k < T.length
    · obtain ⟨y, hy⟩ : ∃ y, T[k]? = some y := ⟨_, List.getElem?_eq_getElem hlt⟩
      have hyb := HW.out y (List.mem_of_getElem? hy)
      have hyk := hK.out y hy
      have HD : Hid (T.drop k = y :: T.drop (k + 1)) := drop_cons hy
      have e1 := cell_later hbe (hcell k y hy)
      have hlt2 : (k : Int) < (T.length : Int) := by omega
      clear hy hK
      by_cases hs : y < 1 ∨ lf < 1
      · have hE : pre = X := by
          have := hX.out
          rw [HD.out, cutsG_stop _ _ _ _ _ (by omega), List.append_nil] at this
          exact this
        subst hE
        obtain ⟨pu, cu, rfl⟩ := owns_shape hown
        clear hX HD HX0 HW H0 hcell
        by_cases h1 : y < 1
        · go_wp2
          go_ret
          exact ⟨_, rfl, hown, hbe⟩
        · have h2 : lf < 1 := by omega
          clear hs
          go_wp2
          go_ret
          exact ⟨_, rfl, hown, hbe⟩
      · have h1 : ¬ y < 1 := by omega
        have h2 : ¬ lf < 1 := by omega
        have h3 : fr < y := by omega
        obtain ⟨N, hN⟩ : ∃ N, N = min lf (y - fr) := ⟨_, rfl⟩
        have hE : Hid ((pre ++ [(k, fr, fr + N)]) ++ cutsG (k + 1) (T.drop (k + 1)) 0 (lf - N) = X) := by
          have := hX.out
          rw [HD.out, cutsG_go _ _ _ _ _ (by omega), ← hN] at this
          show _ = _
          rw [List.append_assoc]
          exact this
        have hlen : pre.length < X.length := by
          rw [← hE.out]
          simp
        have n1 : (if y - fr < lf then y - fr else lf) = N := by split <;> omega
        have n2 : min lf (y - fr) = N := hN.symm
        have n3 : 0 < N := by omega
        have n4 : N ≤ lf := by omega
        have n5 : N ≤ y - fr := by omega
        have n6 : fr + N - fr = N := by omega
        obtain ⟨pu, cu, rfl⟩ := owns_shape hown
        have hsn := cutCs_snoc pre (k, fr, fr + N)
        have bC := (Below.refl wr.heap.size wr).alloc (Nat.le_refl _) (.cells #[.int .i64 fr, .int .i64 (fr + N)] 30)
        have sC : (wr.alloc (.cells #[.int .i64 fr, .int .i64 (fr + N)] 30)).heap.size = wr.heap.size + 1 := by simp
        have oC := owns_later hown bC
        have hbC := hbe.alloc hsz (.cells #[.int .i64 fr, .int .i64 (fr + N)] 30)
        have bD := (Below.refl _ (wr.alloc (.cells #[.int .i64 fr, .int .i64 (fr + N)] 30))).alloc (Nat.le_refl _) (.cells #[.int .i64 fr, .int .i64 (fr + N)] 30)
        have oD := owns_later oC bD
        have hnews : ((wr.alloc (.cells #[.int .i64 fr, .int .i64 (fr + N)] 30)).alloc (.cells #[.int .i64 fr, .int .i64 (fr + N)] 30)).heap[wr.heap.size + 1]? = some (.cells #[.int .i64 fr, .int .i64 (fr + N)] 30 (0, 0)) := by
          have := heap_alloc_new (wr.alloc (.cells #[.int .i64 fr, .int .i64 (fr + N)] 30)) (.cells #[.int .i64 fr, .int .i64 (fr + N)] 30)
          rwa [sC] at this
        clear hX HD HX0 HW H0 hcell hN hs hown oC bC bD
        go_wp2_with (first | (at_builtin; refine wpList_append_own _ rfl (.tmp 57) (.tmp 59) 28 rfl w.heap.size 30 i0 (.agg #[.int .i64 0, .int .i64 0]) 2 16 Tryd.underlying28 hi0 hz0 hz1 hz2 rfl (by decide) _ _ _ rfl oD ⟨wr.heap.size + 1, 0, none⟩ 1 1 [.int .i64 fr, .int .i64 (fr + N)] rfl rfl (World.news_of_block (cs := #[.int .i64 fr, .int .i64 (fr + N)]) (t := 30) (fr := (0, 0)) hnews) ?ub ?uc ?ud ?ue ?_))
        case ub => simp [Value.oneCell']
        case uc => unfold maxLen; omega
        case ud => omega
        case ue => first | omega | (simp; omega)
        intro v6 w6 hown6 hgrow6 _
        have hb6 : Below w.heap.size w w6 := (hbC.alloc hbC.size _).grown hgrow6 (by simp; omega) (fun k hk => (oD.lt k hk).1)
        have o6 : w6.ownsRow w.heap.size 30 2 v6 (pre ++ [(k, fr, fr + N)]).length (cutCs (pre ++ [(k, fr, fr + N)])) := by
          rw [hsn, List.length_append]
          exact hown6
        clear hown6 hgrow6 oD hnews hsn
        go_wp2
        go_roundw
        case rel => exact ⟨k + 1, pre ++ [(k, fr, fr + N)], 0, lf - N, by omega, rfl, by go_num, by go_num, ⟨by omega, by omega⟩, ⟨by omega, by omega⟩, (fun _ _ => .inr rfl), hE, o6, hb6⟩
        case measure => simp [intOf]; omega
    · have hE : pre = X := by
        have := hX.out
        rw [List.drop_eq_nil_of_le (by omega)] at this
        simpa [cutsG] using this
      subst hE
      obtain ⟨pu, cu, rfl⟩ := owns_shape hown
      have hge : ¬ ((k : Int) < (T.length : Int)) := by omega
      clear hX HX0 HW H0 hcell hK
      go_wp2
      go_ret
      exact ⟨_, rfl, hown, hbe⟩

end Go.Proofs.YtggficgmjbgmpaaDoor

namespace Go.Proofs.YtggficgmjbgmpaaDoor
open Go.RowKit

/-- The value v is a slice of the cuts l. -/
def CA (w : World) (v : Value) (l : List (Int × Int)) : Prop :=
  ∃ (p : Option Addr) (cap : Nat), v = .slice p l.length cap ∧ l.length ≤ cap ∧ cap ≤ maxLen ∧
    (l ≠ [] → ∃ b o, p = some ⟨b, o, none⟩ ∧ ∀ i x, l[i]? = some x → w.cell? ⟨b, o + i * 2, none⟩ = some (.int .i64 x.1) ∧ w.cell? ⟨b, o + i * 2 + 1, none⟩ = some (.int .i64 x.2))

theorem CA.later {w w' : World} {v : Value} {l : List (Int × Int)} (h : CA w v l) (hb : Below w.heap.size w w') : CA w' v l := by
  obtain ⟨p, cap, e, h1, h2, h4⟩ := h
  refine ⟨p, cap, e, h1, h2, fun hn => ?_⟩
  obtain ⟨b, o, e1, e2⟩ := h4 hn
  exact ⟨b, o, e1, fun i x hx => ⟨cell_later hb (e2 i x hx).1, cell_later hb (e2 i x hx).2⟩⟩

theorem CA.shape {w : World} {v : Value} {l : List (Int × Int)} (h : CA w v l) : ∃ p c, v = .slice p l.length c := by
  obtain ⟨p', cap, e, _⟩ := h
  exact ⟨p', cap, e⟩

theorem CA.len_le {w : World} {v : Value} {l : List (Int × Int)} (h : CA w v l) : l.length ≤ maxLen := by
  obtain ⟨p, cap, e, h1, h2, h4⟩ := h
  omega

theorem CA.addr {w : World} {p : Option Addr} {n c : Nat} {l : List (Int × Int)} (h : CA w (.slice p n c) l) (hn : 0 < n) : ∃ b o, p = some ⟨b, o, none⟩ ∧ ∀ (i : Nat) (x : Int × Int), l[i]? = some x → w.cell? ⟨b, o + i * 2, none⟩ = some (.int .i64 x.1) ∧ w.cell? ⟨b, o + i * 2 + 1, none⟩ = some (.int .i64 x.2) := by
  obtain ⟨p', cap, e, h1, h2, h4⟩ := h
  simp only [Value.slice.injEq] at e
  obtain ⟨rfl, rfl, rfl⟩ := e
  exact h4 (fun h => by subst h; simp at hn)

theorem cutCs_get (X : List (Nat × Int × Int)) : ∀ (i : Nat) (x : Nat × Int × Int), X[i]? = some x → (cutCs X)[i * 2]? = some (.int .i64 x.2.1) ∧ (cutCs X)[i * 2 + 1]? = some (.int .i64 x.2.2) := by
  induction X with
  | nil => intro i x h; simp at h
  | cons y r ih =>
    intro i x h
    rw [show cutCs (y :: r) = .int .i64 y.2.1 :: .int .i64 y.2.2 :: cutCs r from rfl]
    cases i with
    | zero =>
      simp at h
      subst h
      exact ⟨rfl, rfl⟩
    | succ i =>
      have := ih i x (by simpa using h)
      rw [show (i + 1) * 2 = i * 2 + 1 + 1 by omega]
      simpa using this

theorem CA.of_owns {w : World} {base : Nat} {e : TypeId} {v : Value} {X : List (Nat × Int × Int)} (h : w.ownsRow base e 2 v X.length (cutCs X)) : CA w v (X.map (·.2)) := by
  obtain ⟨h1, h2⟩ := h
  rcases h2 with ⟨rfl, h0⟩ | ⟨g, cap, cur, rfl, hb, hg, hl, hm, hs, ht⟩
  · obtain rfl : X = [] := List.eq_nil_of_length_eq_zero h0
    exact ⟨none, 0, rfl, Nat.le_refl _, Nat.zero_le _, fun h => absurd rfl h⟩
  · refine ⟨_, cap, by rw [List.length_map], by rw [List.length_map]; exact hl, hm, fun _ => ⟨g, 0, rfl, fun i x hx => ?_⟩⟩
    rw [List.getElem?_map] at hx
    obtain ⟨y, hy, rfl⟩ := Option.map_eq_some_iff.1 hx
    have hi : i < X.length := (List.getElem?_eq_some_iff.1 hy).1
    obtain ⟨e1, e2⟩ := cutCs_get X i y hy
    rw [Nat.zero_add, cell_of_row w g _ cur e (0, 0) hg, cell_of_row w g _ cur e (0, 0) hg]
    rw [← ht, List.getElem?_take, if_pos (by omega)] at e1 e2
    exact ⟨by simpa using e1, by simpa using e2⟩

set_option maxRecDepth 100000 in
set_option maxHeartbeats 1000000 in
theorem cutsEqual_same (v u : Value) (l : List (Int × Int)) (w : World) (h : CA w v l) (h' : CA w u l) :
    Calls Tryd.prog 9 #[v, u] w fun e w' => e = .returned (.bool true) ∧ Below w.heap.size w w' := by
  obtain ⟨p, c, rfl⟩ := h.shape
  obtain ⟨p', c', rfl⟩ := h'.shape
  have hm := h.len_le
  unfold maxLen at hm
  go_enter Tryd.func9, Tryd.ntmps9
  go_wp2
  go_loopw [13] (fun i wr => ∃ k : Nat, k ≤ l.length ∧ i = .int .i64 k ∧ Below w.heap.size w wr) (fun i _ => l.length - (intOf i).toNat)
  case atStart => exact ⟨0, Nat.zero_le _, rfl, Below.refl _ w⟩
  case round =>
    obtain ⟨k, hk, rfl, hbe⟩ := hrel
    by_cases hlt : k < l.length
    · obtain ⟨b, o, rfl, f1⟩ := (h.later hbe).addr (by omega)
      obtain ⟨b', o', rfl, f2⟩ := (h'.later hbe).addr (by omega)
      obtain ⟨c1, c2⟩ := f1 k l[k] (List.getElem?_eq_getElem hlt)
      obtain ⟨c3, c4⟩ := f2 k l[k] (List.getElem?_eq_getElem hlt)
      generalize l[k] = x at *
      clear f1 f2
      have hlt2 : (k : Int) < (l.length : Int) := by omega
      go_wp2
      go_region
      go_wp2
      go_roundw
      case rel => first | exact ⟨k + 1, by omega, by go_num, hbe.drew⟩ | ((repeat apply Exists.intro); exact ⟨⟨k + 1, by omega, by go_num, hbe.drew⟩, rfl⟩)
      case measure => simp [intOf]; omega
    · go_wp2
      go_ret
      exact ⟨rfl, hbe⟩

theorem cuts_23 : (cutsG 0 [2, 3] 1 3).map (·.2) = [(1, 2), (0, 2)] := by decide +kernel

theorem cutlit (w : World) (l : List (Int × Int)) (hl : l = [(1, 2), (0, 2)]) : CA (w.alloc (.cells #[.int .i64 1, .int .i64 2, .int .i64 0, .int .i64 2] 30)) (.slice (some ⟨w.heap.size, 0, none⟩) 2 2) l := by
  subst hl
  refine ⟨_, 2, rfl, Nat.le_refl _, by decide, fun _ => ⟨_, 0, rfl, fun i x hx => ?_⟩⟩
  rw [cell_of_row _ _ _ _ _ _ (heap_alloc_new w _), cell_of_row _ _ _ _ _ _ (heap_alloc_new w _)]
  match i with
  | 0 => simp at hx; subst hx; exact ⟨rfl, rfl⟩
  | 1 => simp at hx; subst hx; exact ⟨rfl, rfl⟩
  | n + 2 => simp at hx

set_option maxRecDepth 100000 in
set_option maxHeartbeats 1000000 in
theorem fdAwake_any (w : World) :
    Calls Tryd.prog 14 #[] w fun x w' => x = .returned (.bool true) ∧ Below w.heap.size w w' := by
  have bA := (Below.refl w.heap.size w).alloc (Nat.le_refl _) (.cells #[.int .i64 2, .int .i64 3] 3)
  have hC := cuts_any (.slice (some ⟨w.heap.size, 0, none⟩) 2 2) [2, 3] 1 3 (w.alloc (.cells #[.int .i64 2, .int .i64 3] 3)) (IZ.litF w 3 [2, 3] _ 2 (0, 0) rfl rfl (by decide)) (by decide) (by decide) (by decide) (by intro x hx; simp at hx; omega)
  obtain ⟨X, hX⟩ : ∃ X, cutsG 0 [2, 3] 1 3 = X := ⟨_, rfl⟩
  have hl := cuts_23
  rw [hX] at hC hl
  obtain ⟨L, hL⟩ : ∃ L, L = X.map (·.2) := ⟨_, rfl⟩
  have HL : Hid (L = [(1, 2), (0, 2)]) := hL.trans hl
  have HM : Hid (X.map (·.2) = L) := hL.symm
  have hN2 : X.length = 2 := by
    have := congrArg List.length hl
    simpa using this
  have HN : Hid (X.length = 2) := hN2
  clear hN2
  clear hX hl hL
  go_enter Tryd.func14, Tryd.ntmps14
  go_wp2_with fail
  refine hC.mono ?_
  rintro x w1 ⟨u, rfl, ho, b1⟩
  have hc := CA.of_owns ho
  rw [HM.out] at hc
  obtain ⟨p1, c1, hu⟩ := owns_shape ho
  subst hu
  rw [HN.out] at hc
  have hA := (Below.refl w1.heap.size w1).alloc (Nat.le_refl _) (.cells #[.int .i64 1, .int .i64 2, .int .i64 0, .int .i64 2] 30)
  have hE := cutsEqual_same _ _ L _ (hc.later hA) (cutlit w1 L HL.out)
  have hbA : Below w.heap.size w (w1.alloc (.cells #[.int .i64 1, .int .i64 2, .int .i64 0, .int .i64 2] 30)) := (bA.trans (b1.mono bA.size)).trans (hA.mono (Nat.le_trans bA.size b1.size))
  rw [HN.out]
  clear hC ho hc hA b1 bA HL HM HN
  go_wp2_with fail
  refine hE.mono ?_
  rintro x w2 ⟨rfl, b2⟩
  have hbB := hbA.trans (b2.mono hbA.size)
  clear hE hbA b2
  go_wp2
  go_ret
  exact ⟨rfl, hbB⟩

end Go.Proofs.YtggficgmjbgmpaaDoor
