/- What this text proves: the walk of the statement FeedSums over this program: it answers true for any counts and any page. -/
import Derived.Test.YtnnfbaboiilmiaaFdEqual
namespace Go.Proofs.Ytnnfbaboiilmiaa
open Go.RowKit

theorem s_intF : (Try.prog.info? 3).map (·.size) = some 1 := by kernel_rfl

set_option maxRecDepth 100000 in
set_option maxHeartbeats 4000000 in
theorem fdSumsWalk (v : Value) (T : List Int) (ix lm : Int) (w : World) (hi : IZ w v T) (hix : -9223372036854775808 ≤ ix ∧ ix ≤ 9223372036854775807) (hlm : -9223372036854775808 ≤ lm ∧ lm ≤ 9223372036854775807) (hwT : ∀ x ∈ T, -9223372036854775808 ≤ x ∧ x ≤ 9223372036854775807) :
    Calls Try.prog 3 #[v, .int .i64 ix, .int .i64 lm] w fun x w' => x = .returned (.bool true) ∧ Below w.heap.size w w' := by
  obtain ⟨p, c, rfl⟩ := hi.shape
  obtain ⟨_, hc1, hc2⟩ := hi.caps
  have hm := hi.len_le
  unfold maxLen at hm hc2
  obtain ⟨k, hk⟩ : ∃ k, k = min T.length 60 := ⟨_, rfl⟩
  have hk1 : k ≤ T.length := by omega
  have hk2 : k ≤ 60 := by omega
  have emin : (if (60 : Int) < (T.length : Int) then (60 : Int) else (T.length : Int)) = (k : Int) := by split <;> omega
  have emin2 : min (T.length : Int) 60 = (k : Int) := by omega
  have hf := hi.front k hk1
  obtain ⟨T', hT'⟩ : ∃ T', T' = T.take k := ⟨_, rfl⟩
  have hl' : T'.length = k := by rw [hT', List.length_take]; omega
  have hw' : ∀ x ∈ T', -9223372036854775808 ≤ x ∧ x ≤ 9223372036854775807 := by
    intro x hx
    rw [hT'] at hx
    exact hwT x (List.mem_of_mem_take hx)
  rw [← hT'] at hf
  have k1 : ∀ w, (Instr.slice 22 (.slice p T.length c) none (some (.int .i64 (k : Int))) none).run Try.prog w = .ok (.slice p k c) w := fun w => run_upto (P := Try.prog) Try.underlying22 s_intF p T.length c k k rfl (by omega) w
  have hC := cuts_any _ T' ix lm w hf (by omega) hix hlm hw'
  have hXl := cutsG_len T' 0 ix lm
  have HX0 : Hid ((cutsG 0 T' ix lm).drop 0 = cutsG 0 (T'.drop 0) ix lm) := by show _ = _; simp
  generalize cutsG 0 T' ix lm = X at *
  have HT : Hid (T'.length = k) := hl'
  have hXk : X.length ≤ k := by omega
  clear hT' hi hk hwT hw' hl' hXl
  go_enter Try.func3, Try.ntmps3
  go_wp2_with fail
  refine hC.mono ?_
  rintro x w1 ⟨u1, rfl, o1, b1⟩
  have hc := CA.of_owns o1
  obtain ⟨p1, c1, hu⟩ := owns_shape o1
  subst hu
  have hf1 := hf.later b1
  clear hC o1 hf
  go_wp2
  go_loopw [7, 23] (fun z i wr => ∃ (j : Nat) (fr lf : Int), j ≤ X.length ∧ i = .int .i64 (j : Int) ∧ z = .int .i64 (lm - lf) ∧ Hid (X.drop j = cutsG j (T'.drop j) fr lf) ∧ (-9223372036854775808 ≤ lm - lf ∧ lm - lf ≤ 9223372036854775807) ∧ (j = 0 → lf = lm) ∧ (0 < j → fr = 0 ∧ 0 ≤ lf ∧ lf ≤ lm) ∧ Below w1.heap.size w1 wr) (fun _ i _ => X.length - (intOf i).toNat)
  case atStart => exact ⟨0, ix, lm, Nat.zero_le _, rfl, by simp, HX0, ⟨by omega, by omega⟩, fun _ => rfl, fun h => by omega, Below.refl _ _⟩
  case round =>
    obtain ⟨j, fr, lf, hj, rfl, rfl, hX, hbd, hz, hp, hbe⟩ := hrel
    by_cases hlt : j < X.length
    · obtain ⟨x, hx⟩ : ∃ x, X[j]? = some x := ⟨_, List.getElem?_eq_getElem hlt⟩
      obtain ⟨y1, y2, y3, y4, y5⟩ := cutsG_next hX.out hx
      have hlf : lf ≤ lm := by
        rcases Nat.eq_zero_or_pos j with h | h
        · have := hz h; omega
        · exact (hp h).2.2
      obtain ⟨g1, o1, hpa, q1⟩ := (hc.later hbe).addr (by simpa using (show 0 < X.length by omega))
      subst hpa
      have hxm : (X.map (·.2))[j]? = some x.2 := by rw [List.getElem?_map, hx]; rfl
      obtain ⟨d1, d2⟩ := q1 j x.2 hxm
      have HX2 : Hid (X.drop (j + 1) = cutsG (j + 1) (T'.drop (j + 1)) 0 (lf - (x.2.2 - fr))) := y5
      rw [y2] at d1
      obtain ⟨to, hto⟩ : ∃ to, x.2.2 = to := ⟨_, rfl⟩
      rw [hto] at d2 y3 y4 HX2
      have hlt2 : (j : Int) < (X.length : Int) := by omega
      have bW := (Below.refl wr.heap.size wr).alloc (Nat.le_refl _) (.cells #[.int .i64 fr, .int .i64 to] 26)
      have hbe2 := hbe.trans (bW.mono hbe.size)
      have a1 : ¬ fr < 0 := by omega
      have a2 : ¬ to ≤ fr := by omega
      have a3 : lm - (lm - lf) = lf := by omega
      have a4 : ¬ lf < to - fr := by omega
      have a5 : lm - lf + (to - fr) = lm - (lf - (to - fr)) := by omega
      clear hx hX hxm q1 y5 hto bW hz hp y2
      go_wp2
      go_roundw
      case rel => first | exact ⟨j + 1, 0, lf - (to - fr), by omega, by go_num, by go_num, HX2, ⟨by omega, by omega⟩, fun h => by omega, fun _ => ⟨rfl, by omega, by omega⟩, hbe2⟩ | ((repeat apply Exists.intro); exact ⟨⟨j + 1, 0, lf - (to - fr), by omega, by go_num, by go_num, HX2, ⟨by omega, by omega⟩, fun h => by omega, fun _ => ⟨rfl, by omega, by omega⟩, hbe2⟩, rfl⟩)
      case measure => simp [intOf]; omega
    · obtain rfl : j = X.length := by omega
      have hend := cutsG_last hX.out (by have := HT.out; omega)
      have hw5 := fun wz => fdAwake_any wz
      have bA := b1.trans (hbe.mono b1.size)
      have hfr := hf1.later hbe
      clear hX HX0 hc hf1
      generalize X.length = L at *
      by_cases e0 : L = 0
      · subst e0
        by_cases e1 : k = 0
        · subst e1
          go_wp2_with fail
          refine (hw5 _).mono ?_
          rintro x w9 ⟨rfl, b9⟩
          have bZ := bA.trans (b9.mono bA.size)
          go_wp2
          go_ret
          exact ⟨rfl, bZ⟩
        · have e2 : ¬ ((0 : Int) = (k : Int)) := by omega
          have e3 : ((0 : Int) == (k : Int)) = false := by simpa using e2
          go_wp2_with fail
          refine (hw5 _).mono ?_
          rintro x w9 ⟨rfl, b9⟩
          have bZ := bA.trans (b9.mono bA.size)
          go_wp2
          go_ret
          exact ⟨rfl, bZ⟩
      · obtain ⟨p1, p2, p3⟩ := hp (by omega)
        have e2 : ¬ ((L : Int) = 0) := by omega
        have e3 : ((L : Int) == 0) = false := by simpa using e2
        have e4 : 0 < (L : Int) := by omega
        have e5 : (L : Int) ≤ (k : Int) := by omega
        by_cases f1 : L = k
        · subst f1
          by_cases f2 : lf = 0
          · subst f2
            go_wp2_with fail
            refine (hw5 _).mono ?_
            rintro x w9 ⟨rfl, b9⟩
            have bZ := bA.trans (b9.mono bA.size)
            go_wp2
            go_ret
            exact ⟨rfl, bZ⟩
          · have f3 : ((lm - lf : Int) == lm) = false := by simp; omega
            go_wp2_with fail
            refine (hw5 _).mono ?_
            rintro x w9 ⟨rfl, b9⟩
            have bZ := bA.trans (b9.mono bA.size)
            go_wp2
            go_ret
            exact ⟨rfl, bZ⟩
        · have f4 : ¬ ((L : Int) = (k : Int)) := by omega
          have f5 : ((L : Int) == (k : Int)) = false := by simpa using f4
          have f6 : (L : Int) < (k : Int) := by omega
          rcases hend with h | ⟨y, hy, hys⟩
          · exact absurd (h.trans HT.out) f1
          · obtain ⟨g1, o1, hpa, q1⟩ := hfr.addr (by omega)
            subst hpa
            have d1 := q1 L y hy
            clear q1 hy
            by_cases f2 : lf = 0
            · subst f2
              by_cases f7 : y < 1
              · go_wp2_with fail
                refine (hw5 _).mono ?_
                rintro x w9 ⟨rfl, b9⟩
                have bZ := bA.trans (b9.mono bA.size)
                go_wp2
                go_ret
                exact ⟨rfl, bZ⟩
              · go_wp2_with fail
                refine (hw5 _).mono ?_
                rintro x w9 ⟨rfl, b9⟩
                have bZ := bA.trans (b9.mono bA.size)
                go_wp2
                go_ret
                exact ⟨rfl, bZ⟩
            · have f3 : ((lm - lf : Int) == lm) = false := by simp; omega
              have f7 : y < 1 := by omega
              go_wp2_with fail
              refine (hw5 _).mono ?_
              rintro x w9 ⟨rfl, b9⟩
              have bZ := bA.trans (b9.mono bA.size)
              go_wp2
              go_ret
              exact ⟨rfl, bZ⟩

end Go.Proofs.Ytnnfbaboiilmiaa
