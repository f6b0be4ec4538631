/- What this text proves: the walk of the statement SeekRight over this program: it answers true for any times and any time. -/
import Derived.Test.YtjackljpikkidaaEkSort
import Derived.Test.YtjackljpikkidaaEkAwake
namespace Go.Proofs.Ytjackljpikkidaa
open Go.RowKit

theorem s_intR : (Try.prog.info? 3).map (·.size) = some 1 := by kernel_rfl

theorem sorted_leZ (l : List Int) : (l.mergeSort leZ).Pairwise (fun a b => a ≤ b) := by
  have := List.pairwise_mergeSort (le := leZ) (fun a b c h1 h2 => by simp [leZ] at *; omega) (fun a b => by simp [leZ]; omega) l
  exact this.imp (fun h => by simpa [leZ] using h)

set_option maxRecDepth 100000 in
set_option maxHeartbeats 2000000 in
theorem ekRightWalk (v : Value) (T : List Int) (t : Int) (w : World) (hi : IZ w v T) :
    Calls Try.prog 4 #[v, .int .i64 t] w fun x w' => x = .returned (.bool true) ∧ Below w.heap.size w w' := by
  obtain ⟨p, c, rfl⟩ := hi.shape
  obtain ⟨_, hc1, hc2⟩ := hi.caps
  have hm := hi.len_le
  unfold maxLen at hm hc2
  obtain ⟨k, hk⟩ : ∃ k, k = min T.length 300 := ⟨_, rfl⟩
  have hk1 : k ≤ T.length := by omega
  have hk2 : k ≤ 300 := by omega
  have emin : (if (300 : Int) < (T.length : Int) then (300 : Int) else (T.length : Int)) = (k : Int) := by split <;> omega
  have emin2 : min (T.length : Int) 300 = (k : Int) := by omega
  have hf := hi.front k hk1
  obtain ⟨T', hT'⟩ : ∃ T', T' = T.take k := ⟨_, rfl⟩
  have hl' : T'.length ≤ 300 := by rw [hT', List.length_take]; omega
  rw [← hT'] at hf
  have k1 : ∀ w, (Instr.slice 22 (.slice p T.length c) none (some (.int .i64 (k : Int))) none).run Try.prog w = .ok (.slice p k c) w := fun w => run_upto (P := Try.prog) Try.underlying22 s_intR p T.length c k k rfl (by omega) w
  have hCl := iclone_any _ T' w hf (by omega)
  have hSo := fun (v : Value) (w : World) (base : Nat) (h : w.ownsRow base 3 1 v T'.length (izs T')) => isort_any h (by omega)
  obtain ⟨S, hS⟩ : ∃ S, S = T'.mergeSort leZ := ⟨_, rfl⟩
  have hSl : S.length ≤ 300 := by rw [hS, List.length_mergeSort]; exact hl'
  have HS : Hid (S.Pairwise (fun a b => a ≤ b)) := by rw [hS]; exact sorted_leZ T'
  rw [← hS] at hSo
  have hFi := fun (v : Value) (w : World) (h : IZ w v S) => find_any v S t w h (by omega)
  have hPr := fun (v : Value) (w : World) (h : IZ w v S) => probes_any v S t w h (by omega)
  rw [found_want S t HS.out] at hFi
  have hPl := look_len S t hSl
  generalize (lookF S t).1 = R at *
  have HW : Hid (wantN S t 0 = -1) := rfl
  clear hS hT' hl' hi hk HS hf
  go_enter Try.func4, Try.ntmps4
  go_wp2_with fail
  refine hCl.mono ?_
  rintro x w1 ⟨u1, rfl, o1, b1⟩
  obtain ⟨p1, c1, rfl⟩ := owns_shape o1
  have hSo1 := hSo _ w1 _ o1
  clear hCl hSo o1
  go_wp2_with fail
  refine hSo1.mono ?_
  rintro x w2 ⟨rfl, i2, b2⟩
  obtain ⟨p2, c2, hv⟩ := i2.shape
  rw [hv] at i2
  have b12 := b1.trans b2
  clear hSo1
  simp only [hv]
  clear hv b1 b2
  go_wp2
  go_loopw [5, 18] (fun z i wr => ∃ (k : Nat) (q : Int), k ≤ S.length ∧ i = .int .i64 (k : Int) ∧ z = .int .i64 q ∧ Hid (wantN S t k = q) ∧ wr = w2) (fun _ i _ => S.length - (intOf i).toNat)
  case atStart => exact ⟨0, -1, Nat.zero_le _, rfl, rfl, HW, rfl⟩
  case round =>
    obtain ⟨k', q, hk', rfl, rfl, hq, rfl⟩ := hrel
    by_cases hlt : k' < S.length
    · obtain ⟨y, hy⟩ : ∃ y, S[k']? = some y := ⟨_, List.getElem?_eq_getElem hlt⟩
      have eY : S.getD k' 0 = y := by simp [List.getD, hy]
      have hstep : wantN S t (k' + 1) = if y ≤ t then (k' : Int) else q := by rw [wantN, eY, hq.out]
      obtain ⟨g1, o1, rfl, q1⟩ := i2.addr (by omega)
      have d1 := q1 k' y hy
      have hlt2 : (k' : Int) < (S.length : Int) := by omega
      clear hy eY q1 hq
      by_cases hyt : y ≤ t
      · rw [if_pos hyt] at hstep
        have HT : Hid (wantN S t (k' + 1) = (k' : Int)) := hstep
        clear hstep
        go_wp2
        go_roundw
        case rel => first | exact ⟨k' + 1, k', by omega, by go_num, rfl, HT, (by first | trivial | rfl)⟩ | ((repeat apply Exists.intro); exact ⟨⟨k' + 1, k', by omega, by go_num, rfl, HT, (by first | trivial | rfl)⟩, rfl⟩)
        case measure => simp [intOf]; omega
      · rw [if_neg hyt] at hstep
        have HT : Hid (wantN S t (k' + 1) = q) := hstep
        clear hstep
        go_wp2
        go_roundw
        case rel => first | exact ⟨k' + 1, q, by omega, by go_num, rfl, HT, (by first | trivial | rfl)⟩ | ((repeat apply Exists.intro); exact ⟨⟨k' + 1, q, by omega, by go_num, rfl, HT, (by first | trivial | rfl)⟩, rfl⟩)
        case measure => simp [intOf]; omega
    · obtain rfl : k' = S.length := by omega
      have hF := hFi _ _ i2
      rw [hq.out] at hF
      clear hFi hq HW
      go_wp2_with fail
      refine hF.mono ?_
      rintro x w3 ⟨rfl, b3⟩
      have hP := hPr _ _ (i2.later b3)
      have b13 := b12.trans (b3.mono b12.size)
      clear hF hPr
      go_wp2_with fail
      refine hP.mono ?_
      rintro x w4 ⟨u4, rfl, i4, b4⟩
      obtain ⟨p4, c4, rfl⟩ := i4.shape
      have b14 := b13.trans (b4.mono b13.size)
      have hle : (R.length : Int) ≤ 11 := by omega
      clear hP i4
      go_wp2_with fail
      refine (ekAwake_any _).mono ?_
      rintro x w5 ⟨rfl, b5⟩
      have b15 := b14.trans (b5.mono b14.size)
      go_wp2
      go_ret
      exact ⟨rfl, b15⟩

end Go.Proofs.Ytjackljpikkidaa
