/- What this text proves: the walks of the document's Probes and Find (layer 20) over this program. -/
import Derived.Test.YtjackljpikkidaaEkAmong
namespace Go.Proofs.Ytjackljpikkidaa
open Go.RowKit

theorem IA.nil (w : World) : IA w (.slice none 0 0) [] := ⟨none, 0, rfl, Nat.le_refl _, Nat.zero_le _, fun h => absurd rfl h⟩

set_option maxHeartbeats 2000000 in
theorem rprobes_any (v : Value) (T : List Int) (t : Int) (w : World) (hi : IZ w v T) (hsm : T.length ≤ 1000000000) :
    Calls Try.prog 7 #[v, .int .i64 t] w fun x w' => ∃ u, x = .returned u ∧ IA w' u (lookF T t).1 ∧ Below w.heap.size w w' := by
  obtain ⟨p, c, rfl⟩ := hi.shape
  by_cases h0 : T = []
  · subst h0
    have hN : (lookF [] t).1 = [] := rfl
    rw [hN]
    clear hN hi
    go_enter Try.func7, Try.ntmps7
    go_wp2
    go_ret
    exact ⟨_, rfl, IA.nil _, Below.refl _ _⟩
  · have hpos : 0 < T.length := List.length_pos_iff.2 h0
    obtain ⟨x0, hx0⟩ : ∃ x, T[0]? = some x := ⟨_, List.getElem?_eq_getElem hpos⟩
    have eT : T.getD 0 0 = x0 := by simp [List.getD, hx0]
    have HL : Hid (lookF T t = if x0 ≤ t then srchI (fitT T t) [0] 0 (T.length - 1) else ([0], none)) := by
      show _ = _
      rw [lookF_some h0]
      unfold srchA
      simp only [fitT, eT, decide_eq_true_eq, true_and]
    obtain ⟨R, hR⟩ : ∃ R, lookF T t = R := ⟨_, rfl⟩
    rw [hR] at HL ⊢
    obtain ⟨b, o, rfl, f1⟩ := hi.addr hpos
    have c0 := f1 0 x0 hx0
    have hn0 : ¬ ((T.length : Int) = 0) := by omega
    have hnn : ¬ (T.length = 0) := by omega
    have bA := (Below.refl w.heap.size w).alloc (Nat.le_refl _) (.cells #[.int .i64 0] 3)
    have oA : (w.alloc (.cells #[.int .i64 0] 3)).ownsRow w.heap.size 3 1 (.slice (some ⟨w.heap.size, 0, none⟩) 1 1) 1 (ics [0]) := World.ownsRow_lit w (base := w.heap.size) (e := 3) (size := 1) #[.int .i64 0] 1 (by simp) (by unfold maxLen; omega) (by simp)
    have iA := hi.later bA
    have c0A := cell_later bA c0
    rw [Nat.add_zero] at c0A c0
    generalize hwA : w.alloc (.cells #[.int .i64 0] 3) = wA at *
    by_cases hf : x0 ≤ t
    · have HR : Hid (srchI (fitT T t) [0] 0 (T.length - 1) = R) := by
        have := HL.out
        rw [if_pos hf] at this
        exact this.symm
      have hf2 : ¬ (t < x0) := by omega
      obtain ⟨i0, hi0, hz0, hz1, hz2⟩ := info_parts i_intE
      have es : (T.length : Int) - 1 = ((T.length - 1 : Nat) : Int) := by omega
      have F1 : Hid (∀ (i : Nat) (x : Int), T[i]? = some x → w.cell? ⟨b, o + i, none⟩ = some (.int .i64 x)) := f1
      clear HL eT hx0 f1 hi c0
      have hsA := bA.size
      go_enter Try.func7, Try.ntmps7
      go_wp2
      go_loopw [5, 6, 7] (fun v u1 u2 wr => ∃ (l : List Nat) (lo hi : Nat), lo ≤ hi ∧ hi ≤ T.length - 1 ∧ l.length + (hi - lo) ≤ T.length ∧ u1 = .int .i64 (lo : Int) ∧ u2 = .int .i64 (hi : Int) ∧ Hid (srchI (fitT T t) l lo hi = R) ∧ wr.ownsRow w.heap.size 3 1 v l.length (ics l) ∧ Below w.heap.size w wr) (fun _ u1 u2 _ => (intOf u2).toNat - (intOf u1).toNat)
      case atStart => exact ⟨[0], 0, T.length - 1, Nat.zero_le _, Nat.le_refl _, by simp; omega, rfl, rfl, HR, oA, bA⟩
      case round =>
        obtain ⟨l, lo, hi, h1, h2, h3, rfl, rfl, hI, hown, hbe⟩ := hrel
        have hsz := hbe.size
        by_cases hlt : lo < hi
        · obtain ⟨m, hm⟩ : ∃ m, m = (lo + hi + 1) / 2 := ⟨_, rfl⟩
          have hm1 : lo < m := by omega
          have hm2 : m ≤ hi := by omega
          have em : (((lo : Int) + (hi : Int) + 1) / 2) = (m : Int) := by omega
          have et : Int.tdiv ((lo : Int) + (hi : Int) + 1) 2 = (m : Int) := by rw [Int.tdiv_eq_ediv_of_nonneg (by omega)]; exact em
          obtain ⟨y, hy⟩ : ∃ y, T[m]? = some y := ⟨_, List.getElem?_eq_getElem (by omega)⟩
          have eY : T.getD m 0 = y := by simp [List.getD, hy]
          have Hy : Hid (y ≤ t → srchI (fitT T t) (l ++ [m]) m hi = R) := fun e => (srchI_yes _ l lo hi m hlt hm (by simp only [fitT, eY]; exact decide_eq_true e) rfl).symm.trans hI.out
          have Hn : Hid (¬ y ≤ t → srchI (fitT T t) (l ++ [m]) lo (m - 1) = R) := fun e => (srchI_no _ l lo hi m hlt hm (by simp only [fitT, eY]; exact decide_eq_false e) rfl).symm.trans hI.out
          have hlt2 : (lo : Int) < (hi : Int) := by omega
          have Hm : Hid (T[m]? = some y) := hy
          have hmT : (m : Int) < (T.length : Int) := by omega
          clear hm hI HR eY hy
          go_wp2_with (first | (at_builtin; refine wpList_append_own _ rfl (.tmp 30) (.tmp 32) 22 rfl w.heap.size 3 i0 (.int .i64 0) 1 8 Try.underlying22 hi0 hz0 hz1 hz2 rfl (by decide) _ _ _ rfl (hown.alloc _) ⟨wr.heap.size, 0, none⟩ 1 1 [.int .i64 (m : Int)] rfl rfl ?ra ?rb ?rc ?rd ?re ?_))
          case rb => rfl
          case rc => unfold maxLen; omega
          case rd => omega
          case re => omega
          intro v3 w3 hown3 hgrow3 _
          obtain ⟨p3, c3, rfl⟩ := owns_shape hown3
          have hb3 : Below w.heap.size w w3 := (hbe.alloc hsz _).grown hgrow3 (by simp; omega) (fun k hk => (hown.lt k hk).1)
          have hown4 : w3.ownsRow w.heap.size 3 1 (.slice p3 (l.length + 1) c3) (l ++ [m]).length (ics (l ++ [m])) := by
            have := hown3
            simp only [ics, List.map_append, List.map_cons, List.map_nil, ic, List.length_append, List.length_cons, List.length_nil, Nat.zero_add] at this ⊢
            exact this
          have cm := cell_later hb3 (F1.out m y Hm.out)
          clear hown hown3 hgrow3 hbe Hm
          by_cases hyt : y ≤ t
          · have hE : Hid (srchI (fitT T t) (l ++ [m]) m hi = R) := Hy.out hyt
            have hq : (l ++ [m]).length + (hi - m) ≤ T.length := by simp; omega
            clear Hy Hn
            go_wp2
            go_roundw
            case rel => first | exact ⟨l ++ [m], m, hi, hm2, h2, hq, rfl, rfl, hE, hown4, hb3⟩ | ((repeat apply Exists.intro); exact ⟨⟨l ++ [m], m, hi, hm2, h2, hq, rfl, rfl, hE, hown4, hb3⟩, rfl⟩)
            case measure => simp [intOf]; omega
          · have hE : Hid (srchI (fitT T t) (l ++ [m]) lo (m - 1) = R) := Hn.out (by omega)
            have hq : (l ++ [m]).length + (m - 1 - lo) ≤ T.length := by simp; omega
            clear Hy Hn
            go_wp2
            go_roundw
            case rel => first | exact ⟨l ++ [m], lo, m - 1, by omega, by omega, hq, rfl, by go_num, hE, hown4, hb3⟩ | ((repeat apply Exists.intro); exact ⟨⟨l ++ [m], lo, m - 1, by omega, by omega, hq, rfl, by go_num, hE, hown4, hb3⟩, rfl⟩)
            case measure => simp [intOf]; omega
        · have hE := hI.out
          rw [srchI_end _ l lo hi hlt] at hE
          clear hI HR
          have hle : ¬ ((lo : Int) < (hi : Int)) := by omega
          go_wp2
          go_ret
          subst hE
          exact ⟨_, rfl, IA.of_owns hown, hbe⟩
    · have hE := HL.out
      rw [if_neg hf] at hE
      have hf2 : t < x0 := by omega
      have hI := IA.of_owns oA
      clear HL eT hx0 f1 hi c0 oA
      go_enter Try.func7, Try.ntmps7
      go_wp2
      go_ret
      first | rw [hE] | skip
      exact ⟨_, rfl, hI, bA⟩

set_option maxHeartbeats 2000000 in
theorem rfind_any (v : Value) (T : List Int) (t : Int) (w : World) (hi : IZ w v T) (hsm : T.length ≤ 1000000000) :
    Calls Try.prog 9 #[v, .int .i64 t] w fun x w' => x = .returned (.int .i64 (foundZ T t)) ∧ Below w.heap.size w w' := by
  obtain ⟨p, c, rfl⟩ := hi.shape
  by_cases h0 : T = []
  · subst h0
    rw [found_none [] t (.inl rfl)]
    clear hi
    go_enter Try.func9, Try.ntmps9
    go_wp2
    go_ret
    exact ⟨rfl, Below.refl _ _⟩
  · have hpos : 0 < T.length := List.length_pos_iff.2 h0
    obtain ⟨x0, hx0⟩ : ∃ x, T[0]? = some x := ⟨_, List.getElem?_eq_getElem hpos⟩
    have eT : T.getD 0 0 = x0 := by simp [List.getD, hx0]
    have hP := rprobes_any _ T t w hi hsm
    obtain ⟨b, o, rfl, f1⟩ := hi.addr hpos
    have c0 := f1 0 x0 hx0
    rw [Nat.add_zero] at c0
    have hn0 : ¬ ((T.length : Int) = 0) := by omega
    have hnn : ¬ (T.length = 0) := by omega
    have hnb : ((T.length : Int) == 0) = false := by simp; omega
    by_cases hf : x0 ≤ t
    · have hz := found_last T t h0 (by rw [eT]; exact hf)
      have HF : Hid (∀ i (x : Int), T[i]? = some x → w.cell? ⟨b, o + i, none⟩ = some (.int .i64 x)) := f1
      have HL : Hid (∀ m ∈ (lookF T t).1, m < T.length) := looks_lt T t
      rw [hz]
      have hf2 : ¬ (t < x0) := by omega
      generalize (lookF T t).1 = P at *
      have HZ : Hid (lastFit T t (P.take P.length) = lastFit T t P) := by show _ = _; rw [List.take_length]
      obtain ⟨z, hzz⟩ : ∃ z, lastFit T t P = z := ⟨_, rfl⟩
      rw [hzz] at HZ ⊢
      clear hzz hz eT hx0 f1 hi
      go_enter Try.func9, Try.ntmps9
      go_wp2_with fail
      refine hP.mono ?_
      rintro x w1 ⟨u, rfl, hI, b1⟩
      clear hP
      obtain ⟨p1, c1, rfl⟩ := hI.shape
      have hPm := hI.len_le
      unfold maxLen at hPm
      go_wp2
      go_loopw [5, 22] (fun v i wr => ∃ (k low : Nat), k ≤ P.length ∧ i = .int .i64 (k : Int) ∧ v = .int .i64 (low : Int) ∧ Hid (lastFit T t (P.take k) = low) ∧ Below w1.heap.size w1 wr) (fun _ i _ => P.length - (intOf i).toNat)
      case atStart => exact ⟨0, 0, Nat.zero_le _, rfl, rfl, by show _ = _; simp [lastFit], Below.refl _ _⟩
      case round =>
        obtain ⟨k, low, hk, rfl, rfl, hlow, hbe⟩ := hrel
        by_cases hlt : k < P.length
        · obtain ⟨m, hm⟩ : ∃ m, P[k]? = some m := ⟨_, List.getElem?_eq_getElem hlt⟩
          have hmT : m < T.length := HL.out m (List.mem_of_getElem? hm)
          obtain ⟨y, hy⟩ : ∃ y, T[m]? = some y := ⟨_, List.getElem?_eq_getElem hmT⟩
          have eY : T.getD m 0 = y := by simp [List.getD, hy]
          have hstep : lastFit T t (P.take (k + 1)) = if y ≤ t then m else low := by
            rw [List.take_add_one, hm, Option.toList_some, lastFit_snoc, eY, hlow.out]
          obtain ⟨g1, o1, rfl, q1⟩ := (hI.later hbe).addr (by omega)
          have d1 := q1 k m hm
          have hbw : Below w.heap.size w wr := b1.trans (hbe.mono b1.size)
          have d2 := cell_later hbw (HF.out m y hy)
          have hlt2 : (k : Int) < (P.length : Int) := by omega
          have hmT2 : (m : Int) < (T.length : Int) := by omega
          clear hm hy eY q1 hlow hmT
          by_cases hyt : y ≤ t
          · rw [if_pos hyt] at hstep
            have HS : Hid (lastFit T t (P.take (k + 1)) = m) := hstep
            clear hstep
            go_wp2
            go_roundw
            case rel => first | exact ⟨k + 1, m, by omega, by go_num, rfl, HS, hbe⟩ | ((repeat apply Exists.intro); exact ⟨⟨k + 1, m, by omega, by go_num, rfl, HS, hbe⟩, rfl⟩)
            case measure => simp [intOf]; omega
          · rw [if_neg hyt] at hstep
            have HS : Hid (lastFit T t (P.take (k + 1)) = low) := hstep
            clear hstep
            go_wp2
            go_roundw
            case rel => first | exact ⟨k + 1, low, by omega, by go_num, rfl, HS, hbe⟩ | ((repeat apply Exists.intro); exact ⟨⟨k + 1, low, by omega, by go_num, rfl, HS, hbe⟩, rfl⟩)
            case measure => simp [intOf]; omega
        · obtain rfl : k = P.length := by omega
          obtain rfl : z = low := HZ.out.symm.trans hlow.out
          clear HZ hlow HL HF
          go_wp2
          go_ret
          exact ⟨rfl, b1.trans (hbe.mono b1.size)⟩
    · rw [found_none T t (.inr (by rw [eT]; exact hf))]
      have hf2 : t < x0 := by omega
      clear eT hx0 f1 hi hP
      go_enter Try.func9, Try.ntmps9
      go_wp2
      go_ret
      exact ⟨rfl, Below.refl _ _⟩

end Go.Proofs.Ytjackljpikkidaa
