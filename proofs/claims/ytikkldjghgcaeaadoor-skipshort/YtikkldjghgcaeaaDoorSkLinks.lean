/- What this text proves: the walk of skip.Links over this program: the links of any epoch, in new memory. -/
import Derived.Test.YtikkldjghgcaeaaDoorSkTz
import Derived.Test.YtikkldjghgcaeaaDoorIntsEq
namespace Go.Proofs.YtikkldjghgcaeaaDoor
open Go.RowKit

theorem i_intS : (Tryd.prog.info? 3).map (fun i => (i.zero, i.size, i.bytes)) = some (some (.int .i64 0), 1, 8) := by kernel_rfl

theorem shl_one (k : Nat) (h : k < 63) : wrap64 (2 ^ k) = ((2 ^ k : Nat) : Int) := by
  have h1 : 2 ^ k ≤ 2 ^ 62 := Nat.pow_le_pow_right (by decide) (by omega)
  have h2 : (2 : Nat) ^ 62 = 4611686018427387904 := by decide
  have e : ((2 : Int) ^ k) = ((2 ^ k : Nat) : Int) := by simp
  rw [e]
  generalize 2 ^ k = q at *
  unfold wrap64
  omega

theorem links_none (e : Int) (w : World) (h : e < 1) :
    Calls Tryd.prog 6 #[.int .i64 e] w fun x w' => x = .returned (.slice none 0 0) ∧ w' = w := by
  go_enter Tryd.func6, Tryd.ntmps6
  go_wp2
  go_ret
  exact ⟨rfl, rfl⟩

set_option maxHeartbeats 2000000 in
theorem links_pos (e : Nat) (w : World) (h0 : 0 < e) (he : e < 9223372036854775808) (hT : TD w) :
    Calls Tryd.prog 6 #[.int .i64 (e : Int)] w fun x w' => ∃ v', x = .returned v' ∧ w'.ownsRow w.heap.size 3 1 v' (tz e + 1) (ics (lk e (tz e + 1))) ∧ Below w.heap.size w w' := by
  have hC := tz_any e (by omega) (by omega) w hT
  have ht := (tz_spec e h0 he).choose_spec.2
  have HP : Hid (∀ k, k ≤ tz e → 2 ^ k ≤ e) := fun k hk => tz_pow_le e k h0 he hk
  generalize tz e = T at *
  obtain ⟨i0, hi, hz0, hz1, hz2⟩ := info_parts i_intS
  have hu : IntKind.u64.wrap (e : Int) = (e : Int) := by rw [IntKind.wrap_u64]; omega
  go_enter Tryd.func6, Tryd.ntmps6
  go_wp2_with fail
  refine hC.mono ?_
  rintro x w1 ⟨rfl, hw1⟩
  subst hw1
  clear hC hT hu
  go_wp2_with fail
  go_loopw [3, 11] (fun v i wr => ∃ k : Nat, k ≤ T + 1 ∧ i = .int .i64 (k : Int) ∧ wr.ownsRow w1.heap.size 3 1 v k (ics (lk e k)) ∧ Below w1.heap.size w1 wr) (fun _ i _ => T + 1 - (intOf i).toNat)
  case atStart => exact ⟨0, Nat.zero_le _, rfl, World.ownsRow_nil _ _ _ _, Below.refl _ _⟩
  case round =>
    obtain ⟨k, hk, rfl, hown, hbe⟩ := hrel
    have hsz := hbe.size
    by_cases hlt : k < T + 1
    · have hs1 := shl_one k (by omega)
      have hpe := HP.out k (by omega)
      obtain ⟨q, hq⟩ : ∃ q, q = 2 ^ k := ⟨_, rfl⟩
      have HQ : Hid (lk e (k + 1) = lk e k ++ [e - q]) := by rw [hq]; exact lk_succ e k
      rw [← hq] at hs1 hpe
      have hlt2 : (k : Int) < (T : Int) + 1 := by omega
      have hse : (e : Int) - (q : Int) = ((e - q : Nat) : Int) := by omega
      clear hq HP
      go_wp2_with (first | (at_builtin; refine wpList_append_own _ rfl (.tmp 14) (.tmp 19) 23 rfl w1.heap.size 3 i0 (.int .i64 0) 1 8 Tryd.underlying23 hi hz0 hz1 hz2 rfl (by decide) _ _ _ rfl (hown.alloc _) ⟨wr.heap.size, 0, none⟩ 1 1 [.int .i64 ((e - q : Nat) : Int)] rfl rfl ?ra ?rb ?rc ?rd ?re ?_))
      case ra => first | exact cell_one_new _ _ _ | (rw [← hse]; exact cell_one_new _ _ _)
      case rb => intro u hu; simp at hu; subst hu; rfl
      case rc => unfold maxLen; omega
      case rd => omega
      case re => simp; omega
      intro v3 w3 hown3 hgrow3 _
      have hb3 : Below w1.heap.size w1 w3 := (hbe.alloc hsz _).grown hgrow3 (by simp; omega) (fun k hk => (hown.lt k hk).1)
      have hown4 : w3.ownsRow w1.heap.size 3 1 v3 (k + 1) (ics (lk e (k + 1))) := by
        rw [HQ.out]
        have := hown3
        simp only [ics, List.map_append, List.map_cons, List.map_nil, ic] at this ⊢
        exact this
      clear hown hown3 hgrow3 hbe
      go_wp2
      go_roundw
      case rel => first | exact ⟨k + 1, by omega, by go_num, hown4, hb3⟩ | ((repeat apply Exists.intro); exact ⟨⟨k + 1, by omega, by go_num, hown4, hb3⟩, rfl⟩)
      case measure => simp [intOf]; omega
    · obtain rfl : k = T + 1 := by omega
      go_wp2
      go_ret
      exact ⟨_, rfl, hown, hbe⟩

theorem links_any (e : Int) (w : World) (he : e < 9223372036854775808) (hT : TD w) :
    Calls Tryd.prog 6 #[.int .i64 e] w fun x w' => ∃ v', x = .returned v' ∧ w'.ownsRow w.heap.size 3 1 v' (linksL e.toNat).length (ics (linksL e.toNat)) ∧ Below w.heap.size w w' := by
  by_cases h : e < 1
  · refine (links_none e w h).mono ?_
    rintro x w' ⟨rfl, rfl⟩
    rw [show e.toNat = 0 by omega]
    exact ⟨_, rfl, World.ownsRow_nil _ _ _ _, Below.refl _ _⟩
  · obtain ⟨n, rfl⟩ : ∃ n : Nat, e = (n : Int) := ⟨e.toNat, by omega⟩
    rw [Int.toNat_natCast, linksL_pos n (by omega), lk_length]
    exact links_pos n w (by omega) (by omega) hT

end Go.Proofs.YtikkldjghgcaeaaDoor
