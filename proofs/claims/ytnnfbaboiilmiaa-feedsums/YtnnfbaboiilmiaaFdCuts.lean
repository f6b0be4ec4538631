/- What this text proves: the walk of feed.Cuts over this program: the cuts of any page, in new memory. -/
import Derived.Test.YtnnfbaboiilmiaaFdSeq
import Derived.Deep.AppendLies
namespace Go.Proofs.Ytnnfbaboiilmiaa
open Go.RowKit Go.Shelf

attribute [local go_sem] Oper.semAt_some

/-- The cells of cuts. -/
def cutCs (X : List (Nat × Int × Int)) : List Value := X.flatMap fun x => [.int .i64 x.2.1, .int .i64 x.2.2]
theorem cutCs_snoc (X : List (Nat × Int × Int)) (x : Nat × Int × Int) : cutCs (X ++ [x]) = cutCs X ++ [.int .i64 x.2.1, .int .i64 x.2.2] := by simp [cutCs]
theorem cutCs_len (X : List (Nat × Int × Int)) : (cutCs X).length = X.length * 2 := by
  induction X with
  | nil => rfl
  | cons x r ih =>
    rw [show cutCs (x :: r) = [.int .i64 x.2.1, .int .i64 x.2.2] ++ cutCs r from rfl, List.length_append, ih]
    simp
    omega

theorem i_cut : (Try.prog.info? 26).map (fun i => (i.zero, i.size, i.bytes)) = some (some (.agg #[.int .i64 0, .int .i64 0]), 2, 16) := by kernel_rfl

set_option maxRecDepth 100000 in
set_option maxHeartbeats 4000000 in
theorem cuts_any (v : Value) (T : List Int) (fr lf : Int) (w : World) (hi : IZ w v T) (hT : T.length ≤ 1000000) (hfr : -9223372036854775808 ≤ fr ∧ fr ≤ 9223372036854775807) (hlf : -9223372036854775808 ≤ lf ∧ lf ≤ 9223372036854775807) (hwT : ∀ x ∈ T, -9223372036854775808 ≤ x ∧ x ≤ 9223372036854775807) :
    Calls Try.prog 4 #[v, .int .i64 fr, .int .i64 lf] w fun e w' => ∃ u, e = .returned u ∧ w'.ownsRow w.heap.size 26 2 u (cutsG 0 T fr lf).length (cutCs (cutsG 0 T fr lf)) ∧ Below w.heap.size w w' := by
  obtain ⟨p, c, rfl⟩ := hi.shape
  obtain ⟨i0, hi0, hz0, hz1, hz2⟩ := info_parts i_cut
  have bP := Boxed.new w 23 (.slice none 0 0)
  have b1 := (Below.refl w.heap.size w).alloc (Nat.le_refl _) (.cells #[.slice none 0 0] 23)
  have s1 : (w.alloc (.cells #[.slice none 0 0] 23)).heap.size = w.heap.size + 1 := by simp
  generalize hwP : w.alloc (.cells #[.slice none 0 0] 23) = wP at *
  have hS := seq_any (.slice p T.length c) fr lf wP p T.length c rfl
  have b2 := cuW_below wP (.slice p T.length c) fr lf
  obtain ⟨k0, k1, k2⟩ := cuW_cells wP (.slice p T.length c) fr lf
  have s2 := cuW_size wP (.slice p T.length c) fr lf
  rw [s1] at hS k0 k1 k2 s2
  have bP2 : Boxed (cuW wP (.slice p T.length c) fr lf) w.heap.size 23 (.slice none 0 0) := (b2.block _ (by omega)).trans bP
  generalize cuW wP (.slice p T.length c) fr lf = W0 at *
  have hB0 : Below w.heap.size w W0 := b1.trans (b2.mono (by omega))
  have hlen := cutsG_len T 0 fr lf
  have hseq := cuts_stops 5 (w.heap.size + 1) (.slice p T.length c) T fr lf W0 (by omega) hfr hlf hwT k0 k1 k2 w hi hB0
  generalize cutsG 0 T fr lf = X at *
  clear bP b1 b2 k0 k1 k2 hi hfr hlf hwT
  refine (callsIn_wide (n := 6)).1 ?_
  refine callsIn_of_wp_marks Try.func4 rfl trivial ?_ rfl
  simp only [Try.ntmps4, List.size_toArray, List.length_cons, List.length_nil, Nat.reduceAdd, Nat.reduceSub, Array.replicate_succ, Array.replicate_zero, List.push_toArray, List.append_toArray, List.nil_append, List.cons_append]
  gi_wp2_with (refine ⟨trivial, ?_⟩; gi_at_call 6; refine (callsIn_wide.2 hS).mono ?_; rintro e w1 ⟨rfl, rfl⟩)
  refine wpIn_rangeFunc_ownH (F := Fence.wide) (n := 6) rfl (by omega) (gf := 8) (lb := #[.pointer (some ⟨w.heap.size + 1 + 1, 0, none⟩), .pointer (some ⟨w.heap.size + 1 + 2, 0, none⟩), .pointer (some ⟨w.heap.size + 1, 0, none⟩)]) rfl trivial (enters_of Try.func8 (by kernel_rfl) rfl)
    hseq belowK_t (belowK_b (by omega)) (Below.refl _ _) (fun _ => rfl)
    (fun pre W => (∃ u, Boxed W w.heap.size 23 u ∧ W.ownsRow w.heap.size 26 2 u pre.length (cutCs pre) ∧ True) ∧ Below w.heap.size w W)
    (fun _ _ _ => False)
    (OwnFrom.and (Own.from (holdsRow_own w.heap.size w.heap.size 23 26 2 (fun pre => pre.length) (fun pre => cutCs pre) (fun _ _ => True)) _) (ownFrom_below (Nat.le_refl _) (by omega)))
    (fun _ _ _ _ _ hs _ _ => hs)
    ⟨⟨_, bP2, World.ownsRow_nil _ _ _ _, trivial⟩, hB0⟩
    (fun x a' W => ∃ Bx, w.heap.size < Bx ∧ W.heap[Bx]? = some (.cells #[.int .i64 x.2.1, .int .i64 x.2.2] 26 (0, 0)) ∧ a' = { tmps := #[.slice p T.length c, .int .i64 fr, .int .i64 lf, undef, undef, undef, .slice none 0 0, .pointer (some ⟨w.heap.size, 0, none⟩), undef, .pointer (some ⟨Bx, 0, none⟩), .slice p T.length c, .int .i64 fr, .int .i64 lf, .func (.func 8) #[] #[.pointer (some ⟨w.heap.size + 1 + 1, 0, none⟩), .pointer (some ⟨w.heap.size + 1 + 2, 0, none⟩), .pointer (some ⟨w.heap.size + 1, 0, none⟩)], .int .i64 (x.1 : Int), .agg #[.int .i64 x.2.1, .int .i64 x.2.2], undef, undef, undef, undef, undef], defers := [] })
    ?hax ?assign ?body ?done ?stop
  case hax =>
    rintro x a' s A B row ⟨Bx, h1, h2, h3⟩ hg hr
    refine ⟨Bx, h1, ?_, h3⟩
    refine (hg.block Bx (Array.getElem?_eq_some_iff.1 h2).1 fun e => ?_).trans h2
    obtain ⟨_, o, ho, hc⟩ := hr Bx e.symm
    rw [h2] at ho
    cases ho
    cases hc
  case assign =>
    rintro l pre x W K ⟨⟨u, hu, hr, _⟩, hB⟩ hK
    have hsz := hB.size
    have hn := heap_alloc_new W (.cells #[.int .i64 x.2.1, .int .i64 x.2.2] 26)
    have hK' := hK { tmps := #[.slice p T.length c, .int .i64 fr, .int .i64 lf, undef, undef, undef, .slice none 0 0, .pointer (some ⟨w.heap.size, 0, none⟩), undef, .pointer (some ⟨W.heap.size, 0, none⟩), .slice p T.length c, .int .i64 fr, .int .i64 lf, .func (.func 8) #[] #[.pointer (some ⟨w.heap.size + 1 + 1, 0, none⟩), .pointer (some ⟨w.heap.size + 1 + 2, 0, none⟩), .pointer (some ⟨w.heap.size + 1, 0, none⟩)], .int .i64 (x.1 : Int), .agg #[.int .i64 x.2.1, .int .i64 x.2.2], undef, undef, undef, undef, undef], defers := [] } (W.alloc (.cells #[.int .i64 x.2.1, .int .i64 x.2.2] 26)) ((KeepsOthers.alloc _ _).from _) ((Below.refl _ W).alloc hsz _) ⟨⟨u, hu.alloc _, hr.alloc _, trivial⟩, hB.alloc hsz _⟩ ⟨W.heap.size, hu.lt, hn, rfl⟩
    clear hK hn
    dsimp only [encC]
    gi_wp2
    exact hK'
  case body =>
    rintro l pre x a' W hl hr0 ⟨⟨u, hu, hr, _⟩, hB⟩ ⟨Bx, hBx, hbx, rfl⟩ hlt
    have hsz := hB.size
    have cu := hu.cell
    have cx0 : W.cell? ⟨Bx, 0, none⟩ = some (.int .i64 x.2.1) := by rw [cell_of_row W _ _ _ _ _ hbx]; rfl
    have cx1 : W.cell? ⟨Bx, 1, none⟩ = some (.int .i64 x.2.2) := by rw [cell_of_row W _ _ _ _ _ hbx]; rfl
    gi_wp2_with (gi_at_builtin; refine wpListIn_append_own _ rfl _ _ 23 rfl w.heap.size 26 i0 (.agg #[.int .i64 0, .int .i64 0]) 2 16 Try.underlying23 hi0 hz0 hz1 hz2 ?q6 ?q7 u pre.length (cutCs pre) ?q8a ?q8 ⟨W.heap.size, 0, none⟩ 1 1 [.int .i64 x.2.1, .int .i64 x.2.2] ?q9 ?q10 ?q11 ?q12 ?q13 ?q14 ?q15 ?q16)
    case q6 => kernel_rfl
    case q7 => decide
    case q8a => rfl
    case q8 => exact hr.alloc _
    case q9 => rfl
    case q10 => rfl
    case q11 => exact World.news_of_block (cs := #[.int .i64 x.2.1, .int .i64 x.2.2]) (t := 26) (fr := (0, 0)) (heap_alloc_new W _)
    case q12 => simp [Value.oneCell']
    case q13 => unfold maxLen; omega
    case q14 => omega
    case q15 => simp; omega
    intro v' w2 hown' hgrow _
    obtain ⟨g', cap', rfl⟩ := ownsRow_succ hown'
    obtain ⟨hv1, hv2, hr2, hk2, hb2⟩ := hu.appended (by decide) hr hB.size (Nat.le_refl _) hown' hgrow
    have hc1 := hv1.cell
    have hf1 := hv1.frozen
    gi_wp2
    refine ⟨hk2.from _, hb2, ⟨_, hv2, ?_, trivial⟩, hB.trans hb2⟩
    rw [cutCs_snoc, List.length_append]
    exact hr2
  case stop =>
    intro D c pre W _ _ h
    exact h.elim
  case done =>
    rintro D ys W hD rfl ⟨⟨u, hu, hr, _⟩, hB⟩ hK
    have cu := hu.cell
    obtain ⟨pu, cu', hue⟩ := owns_shape hr
    subst hue
    gi_wp2
    refine ⟨by simp, .inl ⟨_, _, rfl, run_takeDeferred hK, ?_⟩⟩
    exact ⟨_, results_tmp rfl _ _ _, _, rfl, ownsRow_putObj hr _ hK rfl, hB.trans (belowK_b (w := w) (Nat.le_refl _) W D _ _ (by omega) hK rfl rfl)⟩

end Go.Proofs.Ytnnfbaboiilmiaa
