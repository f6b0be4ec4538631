/- What this text proves: the walk of skip.Links over this program: the links of any epoch, in new memory. What this text proves: the walk of the document's Links (annalsref14) over this program: the links of any epoch, in new memory. What this text proves: the walks of skip.Next and of the document's Next over this program. What this text proves: the walks of skip.Way and of the document's Way over this program. What this text proves: the walks of slices.Index and slices.Contains at a slice of numbers over this program. -/
import Derived.Test.YtpndpmkoegmbkaaDoorSkTz
import Derived.Test.YtpndpmkoegmbkaaDoorJIn
namespace Go.Proofs.YtpndpmkoegmbkaaDoor
open Go.RowKit

theorem i_intS : (Tryd.prog.info? 3).map (fun i => (i.zero, i.size, i.bytes)) = some (some (.int .i64 0), 1, 8) := by kernel_rfl

theorem shl_one (k : Nat) (h : k < 63) : wrap64 (2 ^ k) = ((2 ^ k : Nat) : Int) := by
  have h1 : 2 ^ k ≤ 2 ^ 62 := Nat.pow_le_pow_right (by decide) (by omega)
  have h2 : (2 : Nat) ^ 62 = 4611686018427387904 := by decide
  have e : ((2 : Int) ^ k) = ((2 ^ k : Nat) : Int) := by simp
  rw [e]
  generalize 2 ^ k = q at *
  unfold wrap64
  omega

theorem links_none (e : Int) (w : World) (h : e < 1) :
    Calls Tryd.prog 36 #[.int .i64 e] w fun x w' => x = .returned (.slice none 0 0) ∧ w' = w := by
  go_enter Tryd.func36, Tryd.ntmps36
  go_wp2
  go_ret
  exact ⟨rfl, rfl⟩

set_option maxRecDepth 100000 in
set_option maxHeartbeats 2000000 in
theorem links_pos (e : Nat) (w : World) (h0 : 0 < e) (he : e < 9223372036854775808) (hT : TD w) :
    Calls Tryd.prog 36 #[.int .i64 (e : Int)] w fun x w' => ∃ v', x = .returned v' ∧ w'.ownsRow w.heap.size 3 1 v' (tz e + 1) (ics (lk e (tz e + 1))) ∧ Below w.heap.size w w' := by
  have hC := tz_any e (by omega) (by omega) w hT
  have ht := (tz_spec e h0 he).choose_spec.2
  have HP : Hid (∀ k, k ≤ tz e → 2 ^ k ≤ e) := fun k hk => tz_pow_le e k h0 he hk
  generalize tz e = T at *
  obtain ⟨i0, hi, hz0, hz1, hz2⟩ := info_parts i_intS
  have hu : IntKind.u64.wrap (e : Int) = (e : Int) := by rw [IntKind.wrap_u64]; omega
  go_enter Tryd.func36, Tryd.ntmps36
  go_wp2_with fail
  refine hC.mono ?_
  rintro x w1 ⟨rfl, hw1⟩
  subst hw1
  clear hC hT hu
  go_wp2_with fail
  go_loopw [3, 11] (fun v i wr => ∃ k : Nat, k ≤ T + 1 ∧ i = .int .i64 (k : Int) ∧ wr.ownsRow w1.heap.size 3 1 v k (ics (lk e k)) ∧ Below w1.heap.size w1 wr) (fun _ i _ => T + 1 - (intOf i).toNat)
  case atStart => exact ⟨0, Nat.zero_le _, rfl, World.ownsRow_nil _ _ _ _, Below.refl _ _⟩
  case round =>
    obtain ⟨k, hk, rfl, hown, hbe⟩ := hrel
    have hsz := hbe.size
    by_cases hlt : k < T + 1
    · have hs1 := shl_one k (by omega)
      have hpe := HP.out k (by omega)
      obtain ⟨q, hq⟩ : ∃ q, q = 2 ^ k := ⟨_, rfl⟩
      have HQ : Hid (lk e (k + 1) = lk e k ++ [e - q]) := by rw [hq]; exact lk_succ e k
      rw [← hq] at hs1 hpe
      have hlt2 : (k : Int) < (T : Int) + 1 := by omega
      have hse : (e : Int) - (q : Int) = ((e - q : Nat) : Int) := by omega
      clear hq HP
      go_wp2_with (first | (at_builtin; refine wpList_append_own _ rfl (.tmp 14) (.tmp 19) 42 rfl w1.heap.size 3 i0 (.int .i64 0) 1 8 Tryd.underlying42 hi hz0 hz1 hz2 rfl (by decide) _ _ _ rfl (hown.alloc _) ⟨wr.heap.size, 0, none⟩ 1 1 [.int .i64 ((e - q : Nat) : Int)] rfl rfl ?ra ?rb ?rc ?rd ?re ?_))
      case ra => first | exact cell_one_new _ _ _ | (rw [← hse]; exact cell_one_new _ _ _)
      case rb => intro u hu; simp at hu; subst hu; rfl
      case rc => unfold maxLen; omega
      case rd => omega
      case re => simp; omega
      intro v3 w3 hown3 hgrow3 _
      have hb3 : Below w1.heap.size w1 w3 := (hbe.alloc hsz _).grown hgrow3 (by simp; omega) (fun k hk => (hown.lt k hk).1)
      have hown4 : w3.ownsRow w1.heap.size 3 1 v3 (k + 1) (ics (lk e (k + 1))) := by
        rw [HQ.out]
        have := hown3
        simp only [ics, List.map_append, List.map_cons, List.map_nil, ic] at this ⊢
        exact this
      clear hown hown3 hgrow3 hbe
      go_wp2
      go_roundw
      case rel => first | exact ⟨k + 1, by omega, by go_num, hown4, hb3⟩ | ((repeat apply Exists.intro); exact ⟨⟨k + 1, by omega, by go_num, hown4, hb3⟩, rfl⟩)
      case measure => simp [intOf]; omega
    · obtain rfl : k = T + 1 := by omega
      go_wp2
      go_ret
      exact ⟨_, rfl, hown, hbe⟩

theorem links_any (e : Int) (w : World) (he : e < 9223372036854775808) (hT : TD w) :
    Calls Tryd.prog 36 #[.int .i64 e] w fun x w' => ∃ v', x = .returned v' ∧ w'.ownsRow w.heap.size 3 1 v' (linksL e.toNat).length (ics (linksL e.toNat)) ∧ Below w.heap.size w w' := by
  by_cases h : e < 1
  · refine (links_none e w h).mono ?_
    rintro x w' ⟨rfl, rfl⟩
    rw [show e.toNat = 0 by omega]
    exact ⟨_, rfl, World.ownsRow_nil _ _ _ _, Below.refl _ _⟩
  · obtain ⟨n, rfl⟩ : ∃ n : Nat, e = (n : Int) := ⟨e.toNat, by omega⟩
    rw [Int.toNat_natCast, linksL_pos n (by omega), lk_length]
    exact links_pos n w (by omega) (by omega) hT

end Go.Proofs.YtpndpmkoegmbkaaDoor

namespace Go.Proofs.YtpndpmkoegmbkaaDoor
open Go.RowKit

theorem dbl_pow (k : Nat) (h : k < 62) : wrap64 (2 * ((2 ^ k : Nat) : Int)) = ((2 ^ (k + 1) : Nat) : Int) := by
  have h1 : 2 ^ k ≤ 2 ^ 61 := Nat.pow_le_pow_right (by decide) (by omega)
  have h2 : (2 : Nat) ^ 61 = 2305843009213693952 := by decide
  rw [Nat.pow_succ]
  generalize 2 ^ k = q at *
  unfold wrap64
  omega

/-- A slice's length. -/
def lenK : Value → Nat
  | .slice _ n _ => n
  | _ => 0

theorem pow62 : (2 : Nat) ^ 62 = 4611686018427387904 := by decide

theorem rlinks_none (e : Int) (w : World) (h : e < 1) :
    Calls Tryd.prog 42 #[.int .i64 e] w fun x w' => x = .returned (.slice none 0 0) ∧ w' = w := by
  have h1 : decide ((1 : Int) ≤ e) = false := by simp; omega
  go_enter Tryd.func42, Tryd.ntmps42
  go_wp2
  go_loopw [3, 4] (fun v i wr => v = .slice none 0 0 ∧ i = .int .i64 1 ∧ wr = w) (fun _ _ _ => 0)
  case atStart => exact ⟨rfl, rfl, rfl⟩
  case round =>
    obtain ⟨rfl, rfl, hwr⟩ := hrel
    subst hwr
    go_wp2
    go_ret
    exact ⟨rfl, rfl⟩

set_option maxRecDepth 100000 in
set_option maxHeartbeats 2000000 in
theorem rlinks_pos (e : Nat) (w : World) (h0 : 0 < e) (he : e < 9223372036854775808) :
    Calls Tryd.prog 42 #[.int .i64 (e : Int)] w fun x w' => ∃ v', x = .returned v' ∧ w'.ownsRow w.heap.size 3 1 v' (tz e + 1) (ics (lk e (tz e + 1))) ∧ Below w.heap.size w w' := by
  have ht := (tz_spec e h0 he).choose_spec.2
  have HP : Hid (∀ k, k ≤ tz e → 2 ^ k ∣ e) := fun k hk => tz_dvd e k h0 he hk
  have HN : Hid (¬ 2 ^ (tz e + 1) ∣ e) := tz_not e h0 he
  generalize tz e = T at *
  obtain ⟨i0, hi, hz0, hz1, hz2⟩ := info_parts i_intS
  go_enter Tryd.func42, Tryd.ntmps42
  go_wp2
  go_loopw [3, 4] (fun v i wr => ∃ k : Nat, k ≤ T + 1 ∧ (i = .int .i64 (if k = 63 then -9223372036854775808 else ((2 ^ k : Nat) : Int))) ∧ wr.ownsRow w.heap.size 3 1 v k (ics (lk e k)) ∧ Below w.heap.size w wr) (fun v _ _ => T + 1 - lenK v)
  case atStart => exact ⟨0, Nat.zero_le _, rfl, World.ownsRow_nil _ _ _ _, Below.refl _ _⟩
  case round =>
    obtain ⟨k, hk, rfl, hown, hbe⟩ := hrel
    have hsz := hbe.size
    by_cases hlt : k < T + 1
    · rw [if_neg (by omega)]
      have hdv := HP.out k (by omega)
      have hpe : 2 ^ k ≤ e := Nat.le_of_dvd h0 hdv
      have hp0 := Nat.pow_pos (n := k) (show 0 < 2 by decide)
      have hD : Hid (wrap64 (2 * ((2 ^ k : Nat) : Int)) = if k + 1 = 63 then -9223372036854775808 else ((2 ^ (k + 1) : Nat) : Int)) := by
        show _ = _
        by_cases h63 : k + 1 = 63
        · obtain rfl : k = 62 := by omega
          rw [if_pos rfl, pow62]
          unfold wrap64
          omega
        · rw [if_neg h63]
          exact dbl_pow k (by omega)
      have hm0 : ((e : Int) % ((2 ^ k : Nat) : Int)) = 0 := by
        rw [← Int.natCast_emod, Nat.mod_eq_zero_of_dvd hdv]
        rfl
      have HQ : Hid (lk e (k + 1) = lk e k ++ [e - 2 ^ k]) := lk_succ e k
      obtain ⟨Z, hZ⟩ : ∃ Z : Int, Z = if k + 1 = 63 then -9223372036854775808 else ((2 ^ (k + 1) : Nat) : Int) := ⟨_, rfl⟩
      have HZ : Hid (Z = if k + 1 = 63 then -9223372036854775808 else ((2 ^ (k + 1) : Nat) : Int)) := hZ
      rw [← hZ] at hD
      clear hZ
      generalize 2 ^ k = q at *
      have hse : (e : Int) - (q : Int) = ((e - q : Nat) : Int) := by omega
      have hqe : (q : Int) ≤ (e : Int) := by omega
      have hq0 : (0 : Int) < (q : Int) := by omega
      have hqn : ((q : Int) == 0) = false := by simp; omega
      clear hdv HP HN
      go_wp2_with (first | (at_builtin; refine wpList_append_own _ rfl (.tmp 20) (.tmp 24) 42 rfl w.heap.size 3 i0 (.int .i64 0) 1 8 Tryd.underlying42 hi hz0 hz1 hz2 rfl (by decide) _ _ _ rfl (hown.alloc _) ⟨wr.heap.size, 0, none⟩ 1 1 [.int .i64 ((e - q : Nat) : Int)] rfl rfl ?ra ?rb ?rc ?rd ?re ?_))
      case ra => first | exact cell_one_new _ _ _ | (rw [← hse]; exact cell_one_new _ _ _)
      case rb => intro u hu; simp at hu; subst hu; rfl
      case rc => unfold maxLen; omega
      case rd => omega
      case re => simp; omega
      intro v3 w3 hown3 hgrow3 _
      have hb3 : Below w.heap.size w w3 := (hbe.alloc hsz _).grown hgrow3 (by simp; omega) (fun k hk => (hown.lt k hk).1)
      have hown4 : w3.ownsRow w.heap.size 3 1 v3 (k + 1) (ics (lk e (k + 1))) := by
        rw [HQ.out]
        have := hown3
        simp only [ics, List.map_append, List.map_cons, List.map_nil, ic] at this ⊢
        exact this
      clear hown3 hgrow3 hbe
      go_wp2
      go_roundw
      case rel => first | exact ⟨k + 1, by omega, by rw [← HZ.out, hD.out], hown4, hb3⟩ | ((repeat apply Exists.intro); exact ⟨⟨k + 1, by omega, by rw [← HZ.out, hD.out], hown4, hb3⟩, rfl⟩)
      case measure =>
        obtain ⟨p3, c3, e3⟩ := owns_shape hown4
        obtain ⟨p4, c4, e4⟩ := owns_shape hown
        subst e3
        subst e4
        simp [lenK]
        omega
    · obtain rfl : k = T + 1 := by omega
      by_cases h63 : T + 1 = 63
      · rw [if_pos h63]
        go_wp2
        go_ret
        exact ⟨_, rfl, hown, hbe⟩
      · rw [if_neg h63]
        have hp0 := Nat.pow_pos (n := T + 1) (show 0 < 2 by decide)
        have hno := HN.out
        generalize 2 ^ (T + 1) = q at *
        have hq0 : (0 : Int) < (q : Int) := by omega
        by_cases hqe : (q : Int) ≤ (e : Int)
        · have hqn : ((q : Int) == 0) = false := by simp; omega
          have hm0 : ((e : Int) % (q : Int) == 0) = false := by
            rw [← Int.natCast_emod]
            simp
            omega
          clear hno HP HN
          go_wp2
          go_ret
          exact ⟨_, rfl, hown, hbe⟩
        · have hqf : decide ((q : Int) ≤ (e : Int)) = false := by simpa using hqe
          clear hno HP HN
          go_wp2
          go_ret
          exact ⟨_, rfl, hown, hbe⟩

theorem rlinks_any (e : Int) (w : World) (he : e < 9223372036854775808) :
    Calls Tryd.prog 42 #[.int .i64 e] w fun x w' => ∃ v', x = .returned v' ∧ w'.ownsRow w.heap.size 3 1 v' (linksL e.toNat).length (ics (linksL e.toNat)) ∧ Below w.heap.size w w' := by
  by_cases h : e < 1
  · refine (rlinks_none e w h).mono ?_
    rintro x w' ⟨rfl, rfl⟩
    rw [show e.toNat = 0 by omega]
    exact ⟨_, rfl, World.ownsRow_nil _ _ _ _, Below.refl _ _⟩
  · obtain ⟨n, rfl⟩ : ∃ n : Nat, e = (n : Int) := ⟨e.toNat, by omega⟩
    rw [Int.toNat_natCast, linksL_pos n (by omega), lk_length]
    exact rlinks_pos n w (by omega) (by omega)

end Go.Proofs.YtpndpmkoegmbkaaDoor

namespace Go.Proofs.YtpndpmkoegmbkaaDoor
open Go.RowKit

/-- The next epoch on the way, of any numbers. -/
def nextI (a b : Int) : Int := if b < 0 ∨ a ≤ b then a else (nextN a.toNat b.toNat : Int)

theorem ahead_any (a b : Int) (w : World) :
    Calls Tryd.prog 34 #[.int .i64 a, .int .i64 b] w fun x w' => x = .returned (.bool (decide (0 ≤ b ∧ b < a))) ∧ w' = w := by
  by_cases h0 : 0 ≤ b
  · by_cases h1 : b < a
    · rw [show decide (0 ≤ b ∧ b < a) = true by simp; omega]
      go_enter Tryd.func34, Tryd.ntmps34
      go_wp2
      go_ret
      exact ⟨rfl, rfl⟩
    · rw [show decide (0 ≤ b ∧ b < a) = false by simp; omega]
      have d1 : decide (b < a) = false := by simpa using h1
      go_enter Tryd.func34, Tryd.ntmps34
      go_wp2
      go_ret
      exact ⟨rfl, rfl⟩
  · rw [show decide (0 ≤ b ∧ b < a) = false by simp; omega]
    have d0 : decide (0 ≤ b) = false := by simpa using h0
    go_enter Tryd.func34, Tryd.ntmps34
    go_wp2
    go_ret
    exact ⟨rfl, rfl⟩

theorem next_no (a b : Int) (w : World) (h : b < 0 ∨ a ≤ b) :
    Calls Tryd.prog 24 #[.int .i64 a, .int .i64 b] w fun x w' => x = .returned (.int .i64 a) ∧ w' = w := by
  have hA := fun w => ahead_any a b w
  rw [show decide (0 ≤ b ∧ b < a) = false by simp; omega] at hA
  clear h
  go_enter Tryd.func24, Tryd.ntmps24
  go_wp2_with fail
  refine (hA _).mono ?_
  rintro x w1 ⟨rfl, hw⟩
  subst hw
  clear hA
  go_wp2
  go_ret
  exact ⟨rfl, rfl⟩

theorem nx_take (b a : Nat) (ls : List Nat) (k x : Nat) (h : ls[k]? = some x) : nxF b a (ls.take (k + 1)) = if b ≤ x then x else nxF b a (ls.take k) := by
  rw [List.take_add_one, h]
  exact nxF_snoc b a _ x

set_option maxRecDepth 100000 in
set_option maxHeartbeats 2000000 in
theorem next_yes (a b : Nat) (w : World) (h : b < a) (ha : a < 9223372036854775808) (hT : TD w) :
    Calls Tryd.prog 24 #[.int .i64 (a : Int), .int .i64 (b : Int)] w fun x w' => x = .returned (.int .i64 (nextN a b : Int)) ∧ Below w.heap.size w w' := by
  have hA := fun w => ahead_any (a : Int) (b : Int) w
  rw [show decide (0 ≤ (b : Int) ∧ (b : Int) < (a : Int)) = true by simp; omega] at hA
  have hK := links_any (a : Int) w (by omega) hT
  rw [Int.toNat_natCast] at hK
  have hll := linksL_len a ha
  have HN : Hid (nextN a b = nxF b a (linksL a)) := rfl
  generalize nextN a b = N at *
  generalize linksL a = ls at *
  go_enter Tryd.func24, Tryd.ntmps24
  go_wp2_with fail
  refine (hA _).mono ?_
  rintro x w1 ⟨rfl, hw⟩
  subst hw
  clear hA
  go_wp2_with fail
  refine hK.mono ?_
  rintro x w2 ⟨v2, rfl, hown, hb2⟩
  clear hK hT
  obtain ⟨p, c, rfl⟩ := owns_shape hown
  have hIA := IA.of_owns hown
  clear hown
  go_wp2
  go_loopw [5, 17] (fun v i wr => ∃ k : Nat, k ≤ ls.length ∧ i = .int .i64 (k : Int) ∧ v = .int .i64 (nxF b a (ls.take k) : Int) ∧ wr = w2) (fun _ i _ => ls.length - (intOf i).toNat)
  case atStart => exact ⟨0, Nat.zero_le _, rfl, rfl, rfl⟩
  case round =>
    obtain ⟨k, hk, rfl, rfl, hwr⟩ := hrel
    subst hwr
    by_cases hlt : k < ls.length
    · obtain ⟨g, o, rfl, f1⟩ := hIA.addr (by omega)
      have c1 := f1 k ls[k] (List.getElem?_eq_getElem hlt)
      have HS : Hid (nxF b a (ls.take (k + 1)) = if b ≤ ls[k] then ls[k] else nxF b a (ls.take k)) := nx_take b a ls k _ (List.getElem?_eq_getElem hlt)
      generalize ls[k] = y at *
      generalize hX : nxF b a (ls.take k) = X at *
      clear hX f1 HN
      have hlt2 : (k : Int) < (ls.length : Int) := by omega
      by_cases hy : b ≤ y
      · have hy2 : (b : Int) ≤ (y : Int) := by omega
        go_wp2
        go_roundw
        case rel => exact ⟨k + 1, by omega, by go_num, by rw [HS.out, if_pos hy], trivial⟩
        case measure => simp [intOf]; omega
      · have hy2 : decide ((b : Int) ≤ (y : Int)) = false := by simp; omega
        go_wp2
        go_roundw
        case rel => exact ⟨k + 1, by omega, by go_num, by rw [HS.out, if_neg hy], trivial⟩
        case measure => simp [intOf]; omega
    · have e1 : ls.take k = ls := List.take_of_length_le (by omega)
      rw [e1, ← HN.out]
      clear e1
      go_wp2
      go_ret
      exact ⟨rfl, hb2⟩

theorem next_any (a b : Int) (w : World) (ha : a < 9223372036854775808) (hT : TD w) :
    Calls Tryd.prog 24 #[.int .i64 a, .int .i64 b] w fun x w' => x = .returned (.int .i64 (nextI a b)) ∧ Below w.heap.size w w' := by
  unfold nextI
  by_cases h : b < 0 ∨ a ≤ b
  · rw [if_pos h]
    exact (next_no a b w h).mono fun x w' ⟨h1, h2⟩ => ⟨h1, by subst h2; exact Below.refl _ _⟩
  · rw [if_neg h]
    obtain ⟨A, rfl⟩ : ∃ A : Nat, a = (A : Int) := ⟨a.toNat, by omega⟩
    obtain ⟨B, rfl⟩ : ∃ B : Nat, b = (B : Int) := ⟨b.toNat, by omega⟩
    simp only [Int.toNat_natCast]
    exact next_yes A B w (by omega) (by omega) hT

theorem rnext_neg (a b : Int) (w : World) (h : b < 0) :
    Calls Tryd.prog 41 #[.int .i64 a, .int .i64 b] w fun x w' => x = .returned (.int .i64 a) ∧ w' = w := by
  go_enter Tryd.func41, Tryd.ntmps41
  go_wp2
  go_ret
  exact ⟨rfl, rfl⟩

set_option maxRecDepth 100000 in
set_option maxHeartbeats 2000000 in
theorem rnext_low (a b : Int) (w : World) (h : a < 1) (hb : 0 ≤ b) :
    Calls Tryd.prog 41 #[.int .i64 a, .int .i64 b] w fun x w' => x = .returned (.int .i64 a) ∧ w' = w := by
  have hK := rlinks_none a w h
  have d0 : decide (b < 0) = false := by simpa using hb
  go_enter Tryd.func41, Tryd.ntmps41
  go_wp2_with fail
  refine hK.mono ?_
  rintro x w2 ⟨rfl, hw⟩
  subst hw
  clear hK
  go_wp2
  go_loopw [5, 15] (fun v i wr => v = .int .i64 a ∧ i = .int .i64 0 ∧ wr = w2) (fun _ _ _ => 0)
  case atStart => exact ⟨rfl, rfl, rfl⟩
  case round =>
    obtain ⟨rfl, rfl, hwr⟩ := hrel
    subst hwr
    go_wp2
    go_ret
    exact ⟨rfl, rfl⟩

set_option maxRecDepth 100000 in
set_option maxHeartbeats 2000000 in
theorem rnext_yes (a b : Nat) (w : World) (h : 0 < a) (ha : a < 9223372036854775808) :
    Calls Tryd.prog 41 #[.int .i64 (a : Int), .int .i64 (b : Int)] w fun x w' => x = .returned (.int .i64 (nextN a b : Int)) ∧ Below w.heap.size w w' := by
  have hK := rlinks_any (a : Int) w (by omega)
  rw [Int.toNat_natCast] at hK
  have hll := linksL_len a ha
  have HN : Hid (nextN a b = nxF b a (linksL a)) := rfl
  generalize nextN a b = N at *
  generalize linksL a = ls at *
  go_enter Tryd.func41, Tryd.ntmps41
  go_wp2_with fail
  refine hK.mono ?_
  rintro x w2 ⟨v2, rfl, hown, hb2⟩
  clear hK
  obtain ⟨p, c, rfl⟩ := owns_shape hown
  have hIA := IA.of_owns hown
  clear hown
  go_wp2
  go_loopw [5, 15] (fun v i wr => ∃ k : Nat, k ≤ ls.length ∧ i = .int .i64 (k : Int) ∧ v = .int .i64 (nxF b a (ls.take k) : Int) ∧ wr = w2) (fun _ i _ => ls.length - (intOf i).toNat)
  case atStart => exact ⟨0, Nat.zero_le _, rfl, rfl, rfl⟩
  case round =>
    obtain ⟨k, hk, rfl, rfl, hwr⟩ := hrel
    subst hwr
    by_cases hlt : k < ls.length
    · obtain ⟨g, o, rfl, f1⟩ := hIA.addr (by omega)
      have c1 := f1 k ls[k] (List.getElem?_eq_getElem hlt)
      have HS : Hid (nxF b a (ls.take (k + 1)) = if b ≤ ls[k] then ls[k] else nxF b a (ls.take k)) := nx_take b a ls k _ (List.getElem?_eq_getElem hlt)
      generalize ls[k] = y at *
      generalize hX : nxF b a (ls.take k) = X at *
      clear hX f1 HN
      have hlt2 : (k : Int) < (ls.length : Int) := by omega
      by_cases hy : b ≤ y
      · have hy2 : (b : Int) ≤ (y : Int) := by omega
        go_wp2
        go_roundw
        case rel => exact ⟨k + 1, by omega, by go_num, by rw [HS.out, if_pos hy], trivial⟩
        case measure => simp [intOf]; omega
      · have hy2 : decide ((b : Int) ≤ (y : Int)) = false := by simp; omega
        go_wp2
        go_roundw
        case rel => exact ⟨k + 1, by omega, by go_num, by rw [HS.out, if_neg hy], trivial⟩
        case measure => simp [intOf]; omega
    · have e1 : ls.take k = ls := List.take_of_length_le (by omega)
      rw [e1, ← HN.out]
      clear e1
      go_wp2
      go_ret
      exact ⟨rfl, hb2⟩

theorem rnext_any (a b : Int) (w : World) (ha : a < 9223372036854775808) :
    Calls Tryd.prog 41 #[.int .i64 a, .int .i64 b] w fun x w' => x = .returned (.int .i64 (nextI a b)) ∧ Below w.heap.size w w' := by
  unfold nextI
  by_cases h : b < 0
  · rw [if_pos (.inl h)]
    exact (rnext_neg a b w h).mono fun x w' ⟨h1, h2⟩ => ⟨h1, by subst h2; exact Below.refl _ _⟩
  · by_cases hl : a < 1
    · rw [if_pos (.inr (by omega))]
      exact (rnext_low a b w hl (by omega)).mono fun x w' ⟨h1, h2⟩ => ⟨h1, by subst h2; exact Below.refl _ _⟩
    · obtain ⟨A, rfl⟩ : ∃ A : Nat, a = (A : Int) := ⟨a.toNat, by omega⟩
      obtain ⟨B, rfl⟩ : ∃ B : Nat, b = (B : Int) := ⟨b.toNat, by omega⟩
      have hy := rnext_yes A B w (by omega) (by omega)
      by_cases hab : (A : Int) ≤ (B : Int)
      · rw [if_pos (.inr hab)]
        rw [nextN_far A B (by omega) (by omega)] at hy
        exact hy
      · rw [if_neg (by omega)]
        simp only [Int.toNat_natCast]
        exact hy

end Go.Proofs.YtpndpmkoegmbkaaDoor

namespace Go.Proofs.YtpndpmkoegmbkaaDoor
open Go.RowKit

/-- The way, of any numbers. -/
def wayI (a b : Int) : List Nat := if b < 0 ∨ a ≤ b ∨ 1048576 < a then [] else wayN a.toNat b.toNat

theorem nextI_yes (a b : Nat) (h : b < a) : nextI (a : Int) (b : Int) = (nextN a b : Int) := by
  unfold nextI
  rw [if_neg (by omega)]
  simp

theorem way_no (a b : Int) (w : World) (h : b < 0 ∨ a ≤ b ∨ 1048576 < a) :
    Calls Tryd.prog 17 #[.int .i64 a, .int .i64 b] w fun x w' => x = .returned (.slice none 0 0) ∧ w' = w := by
  have hA := fun w => ahead_any a b w
  by_cases h1 : 0 ≤ b ∧ b < a
  · rw [show decide (0 ≤ b ∧ b < a) = true by simp; omega] at hA
    have h2 : (1048576 : Int) < a := by omega
    clear h
    go_enter Tryd.func17, Tryd.ntmps17
    go_wp2_with fail
    refine (hA _).mono ?_
    rintro x w1 ⟨rfl, hw⟩
    subst hw
    clear hA
    go_wp2
    go_ret
    exact ⟨rfl, rfl⟩
  · rw [show decide (0 ≤ b ∧ b < a) = false by simp; omega] at hA
    clear h h1
    go_enter Tryd.func17, Tryd.ntmps17
    go_wp2_with fail
    refine (hA _).mono ?_
    rintro x w1 ⟨rfl, hw⟩
    subst hw
    clear hA
    go_wp2
    go_ret
    exact ⟨rfl, rfl⟩

/-- How a round of the way goes. -/
theorem way_round (W acc : List Nat) (c b : Nat) (hc : c < 9223372036854775808) (h : b < c) (hW : W = acc ++ wayN c b) : W = (acc ++ [nextN c b]) ++ wayN (nextN c b) b := by
  rw [hW, wayN_step c b hc h]
  simp

set_option maxRecDepth 100000 in
set_option maxHeartbeats 2000000 in
theorem way_yes (a b : Nat) (w : World) (h : b < a) (ha : a ≤ 1048576) (hT : TD w) :
    Calls Tryd.prog 17 #[.int .i64 (a : Int), .int .i64 (b : Int)] w fun x w' => ∃ v', x = .returned v' ∧ w'.ownsRow w.heap.size 3 1 v' (wayN a b).length (ics (wayN a b)) ∧ Below w.heap.size w w' := by
  have hA := fun w => ahead_any (a : Int) (b : Int) w
  rw [show decide (0 ≤ (b : Int) ∧ (b : Int) < (a : Int)) = true by simp; omega] at hA
  have HL : Hid ((wayN a b).length ≤ 1048576) := by
    have := wayN_len (a - b) a b (Nat.le_refl _) (by omega)
    show _ ≤ _
    omega
  obtain ⟨W, hW⟩ : ∃ W, W = wayN a b := ⟨_, rfl⟩
  rw [← hW] at HL ⊢
  have HW : Hid (W = [] ++ wayN a b) := hW
  clear hW
  obtain ⟨i0, hi, hz0, hz1, hz2⟩ := info_parts i_intS
  go_enter Tryd.func17, Tryd.ntmps17
  go_wp2_with fail
  refine (hA _).mono ?_
  rintro x w1 ⟨rfl, hw⟩
  subst hw
  clear hA
  go_wp2_with fail
  go_loopw [5, 6] (fun v i wr => ∃ (c : Nat) (acc : List Nat), b ≤ c ∧ c ≤ a ∧ Hid (W = acc ++ wayN c b) ∧ i = .int .i64 (c : Int) ∧ wr.ownsRow w1.heap.size 3 1 v acc.length (ics acc) ∧ Below w1.heap.size w1 wr) (fun _ i _ => (intOf i).toNat)
  case atStart => exact ⟨a, [], by omega, Nat.le_refl _, HW, rfl, World.ownsRow_nil _ _ _ _, Below.refl _ _⟩
  case round =>
    obtain ⟨c, acc, hbc, hca, hcW, rfl, hown, hbe⟩ := hrel
    have hsz := hbe.size
    by_cases hlt : b < c
    · have hN := next_any (c : Int) (b : Int) wr (by omega) (hT.later hbe)
      rw [nextI_yes c b hlt] at hN
      have hn1 := nextN_lt c b (by omega) hlt
      have hn2 := nextN_ge c b hlt
      have HR : Hid (W = (acc ++ [nextN c b]) ++ wayN (nextN c b) b) := way_round W acc c b (by omega) hlt hcW.out
      have hal : acc.length ≤ 1048576 := by
        have h1 := HL.out
        rw [hcW.out, List.length_append] at h1
        omega
      clear hcW HW HL hT
      generalize nextN c b = n at *
      have hne : ((c : Int) != (b : Int)) = true := by simp; omega
      go_wp2_with fail
      refine hN.mono ?_
      rintro x w2 ⟨rfl, hb2⟩
      have hbe2 := hbe.trans (hb2.mono hsz)
      have hown2 := owns_later hown hb2
      have hsz2 := hbe2.size
      clear hN hown hb2 hbe hsz
      go_wp2_with (first | (at_builtin; refine wpList_append_own _ rfl (.tmp 22) (.tmp 24) 42 rfl w1.heap.size 3 i0 (.int .i64 0) 1 8 Tryd.underlying42 hi hz0 hz1 hz2 rfl (by decide) _ _ _ rfl (hown2.alloc _) ⟨w2.heap.size, 0, none⟩ 1 1 [.int .i64 (n : Int)] rfl rfl ?ra ?rb ?rc ?rd ?re ?_))
      case ra => exact cell_one_new _ _ _
      case rb => intro u hu; simp at hu; subst hu; rfl
      case rc => unfold maxLen; omega
      case rd => omega
      case re => simp; omega
      intro v3 w3 hown3 hgrow3 _
      have hb3 : Below w1.heap.size w1 w3 := (hbe2.alloc hsz2 _).grown hgrow3 (by simp; omega) (fun k hk => (hown2.lt k hk).1)
      have hown4 : w3.ownsRow w1.heap.size 3 1 v3 (acc ++ [n]).length (ics (acc ++ [n])) := by
        have := hown3
        simp only [ics, List.map_append, List.map_cons, List.map_nil, ic, List.length_append, List.length_cons, List.length_nil] at this ⊢
        exact this
      clear hown2 hown3 hgrow3 hbe2
      go_wp2
      go_roundw
      case rel => first | exact ⟨n, acc ++ [n], by omega, by omega, HR, rfl, hown4, hb3⟩ | ((repeat apply Exists.intro); exact ⟨⟨n, acc ++ [n], by omega, by omega, HR, rfl, hown4, hb3⟩, rfl⟩)
      case measure => simp [intOf]; omega
    · obtain rfl : c = b := by omega
      have e1 := hcW.out
      rw [wayN_at c c (Nat.le_refl _), List.append_nil] at e1
      have HE : Hid (W = acc) := e1
      have hne : ((c : Int) != (c : Int)) = false := by simp
      clear e1 hcW HW HL
      go_wp2
      go_ret
      rw [HE.out]
      exact ⟨_, rfl, hown, hbe⟩

theorem way_any (a b : Int) (w : World) (hT : TD w) :
    Calls Tryd.prog 17 #[.int .i64 a, .int .i64 b] w fun x w' => ∃ v', x = .returned v' ∧ w'.ownsRow w.heap.size 3 1 v' (wayI a b).length (ics (wayI a b)) ∧ Below w.heap.size w w' := by
  unfold wayI
  by_cases h : b < 0 ∨ a ≤ b ∨ 1048576 < a
  · rw [if_pos h]
    refine (way_no a b w h).mono ?_
    rintro x w' ⟨rfl, rfl⟩
    exact ⟨_, rfl, World.ownsRow_nil _ _ _ _, Below.refl _ _⟩
  · rw [if_neg h]
    obtain ⟨A, rfl⟩ : ∃ A : Nat, a = (A : Int) := ⟨a.toNat, by omega⟩
    obtain ⟨B, rfl⟩ : ∃ B : Nat, b = (B : Int) := ⟨b.toNat, by omega⟩
    simp only [Int.toNat_natCast]
    exact way_yes A B w (by omega) (by omega) hT

theorem rway_no (a b : Int) (w : World) (h : b < 0 ∨ a ≤ b ∨ 1048576 < a) :
    Calls Tryd.prog 21 #[.int .i64 a, .int .i64 b] w fun x w' => x = .returned (.slice none 0 0) ∧ w' = w := by
  by_cases h0 : b < 0
  · clear h
    go_enter Tryd.func21, Tryd.ntmps21
    go_wp2
    go_ret
    exact ⟨rfl, rfl⟩
  · have d0 : decide (b < 0) = false := by simpa using h0
    by_cases h1 : a ≤ b
    · clear h
      go_enter Tryd.func21, Tryd.ntmps21
      go_wp2
      go_ret
      exact ⟨rfl, rfl⟩
    · have d1 : decide (a ≤ b) = false := by simpa using h1
      have h2 : (1048576 : Int) < a := by omega
      clear h
      go_enter Tryd.func21, Tryd.ntmps21
      go_wp2
      go_ret
      exact ⟨rfl, rfl⟩

set_option maxRecDepth 100000 in
set_option maxHeartbeats 2000000 in
theorem rway_yes (a b : Nat) (w : World) (h : b < a) (ha : a ≤ 1048576) :
    Calls Tryd.prog 21 #[.int .i64 (a : Int), .int .i64 (b : Int)] w fun x w' => ∃ v', x = .returned v' ∧ w'.ownsRow w.heap.size 3 1 v' (wayN a b).length (ics (wayN a b)) ∧ Below w.heap.size w w' := by
  have HL : Hid ((wayN a b).length ≤ 1048576) := by
    have := wayN_len (a - b) a b (Nat.le_refl _) (by omega)
    show _ ≤ _
    omega
  obtain ⟨W, hW⟩ : ∃ W, W = wayN a b := ⟨_, rfl⟩
  rw [← hW] at HL ⊢
  have HW : Hid (W = [] ++ wayN a b) := hW
  clear hW
  obtain ⟨i0, hi, hz0, hz1, hz2⟩ := info_parts i_intS
  have d0 : decide ((b : Int) < 0) = false := by simp
  have d1n : decide (a ≤ b) = false := by simp; omega
  have d1 : decide ((a : Int) ≤ (b : Int)) = false := by simp; omega
  have d2 : decide ((1048576 : Int) < (a : Int)) = false := by simp; omega
  go_enter Tryd.func21, Tryd.ntmps21
  go_wp2_with fail
  clear d0 d1 d2 d1n
  go_loopw [0, 5] (fun i v wr => ∃ (c : Nat) (acc : List Nat), b ≤ c ∧ c ≤ a ∧ Hid (W = acc ++ wayN c b) ∧ i = .int .i64 (c : Int) ∧ wr.ownsRow w.heap.size 3 1 v acc.length (ics acc) ∧ Below w.heap.size w wr) (fun i _ _ => (intOf i).toNat)
  case atStart => exact ⟨a, [], by omega, Nat.le_refl _, HW, rfl, World.ownsRow_nil _ _ _ _, Below.refl _ _⟩
  case round =>
    obtain ⟨c, acc, hbc, hca, hcW, rfl, hown, hbe⟩ := hrel
    have hsz := hbe.size
    by_cases hlt : b < c
    · have hN := rnext_any (c : Int) (b : Int) wr (by omega)
      rw [nextI_yes c b hlt] at hN
      have hn1 := nextN_lt c b (by omega) hlt
      have hn2 := nextN_ge c b hlt
      have HR : Hid (W = (acc ++ [nextN c b]) ++ wayN (nextN c b) b) := way_round W acc c b (by omega) hlt hcW.out
      have hal : acc.length ≤ 1048576 := by
        have h1 := HL.out
        rw [hcW.out, List.length_append] at h1
        omega
      clear hcW HW HL
      generalize nextN c b = n at *
      have hne : (b : Int) < (c : Int) := by omega
      go_wp2_with fail
      refine hN.mono ?_
      rintro x w2 ⟨rfl, hb2⟩
      have hbe2 := hbe.trans (hb2.mono hsz)
      have hown2 := owns_later hown hb2
      have hsz2 := hbe2.size
      clear hN hown hb2 hbe hsz
      go_wp2_with (first | (at_builtin; refine wpList_append_own _ rfl (.tmp 23) (.tmp 25) 42 rfl w.heap.size 3 i0 (.int .i64 0) 1 8 Tryd.underlying42 hi hz0 hz1 hz2 rfl (by decide) _ _ _ rfl (hown2.alloc _) ⟨w2.heap.size, 0, none⟩ 1 1 [.int .i64 (n : Int)] rfl rfl ?ra ?rb ?rc ?rd ?re ?_))
      case ra => exact cell_one_new _ _ _
      case rb => intro u hu; simp at hu; subst hu; rfl
      case rc => unfold maxLen; omega
      case rd => omega
      case re => simp; omega
      intro v3 w3 hown3 hgrow3 _
      have hb3 : Below w.heap.size w w3 := (hbe2.alloc hsz2 _).grown hgrow3 (by simp; omega) (fun k hk => (hown2.lt k hk).1)
      have hown4 : w3.ownsRow w.heap.size 3 1 v3 (acc ++ [n]).length (ics (acc ++ [n])) := by
        have := hown3
        simp only [ics, List.map_append, List.map_cons, List.map_nil, ic, List.length_append, List.length_cons, List.length_nil] at this ⊢
        exact this
      clear hown2 hown3 hgrow3 hbe2
      go_wp2
      go_roundw
      case rel => first | exact ⟨n, acc ++ [n], by omega, by omega, HR, rfl, hown4, hb3⟩ | ((repeat apply Exists.intro); exact ⟨⟨n, acc ++ [n], by omega, by omega, HR, rfl, hown4, hb3⟩, rfl⟩)
      case measure => simp [intOf]; omega
    · obtain rfl : c = b := by omega
      have e1 := hcW.out
      rw [wayN_at c c (Nat.le_refl _), List.append_nil] at e1
      have HE : Hid (W = acc) := e1
      clear e1 hcW HW HL
      go_wp2
      go_ret
      rw [HE.out]
      exact ⟨_, rfl, hown, hbe⟩

theorem rway_any (a b : Int) (w : World) :
    Calls Tryd.prog 21 #[.int .i64 a, .int .i64 b] w fun x w' => ∃ v', x = .returned v' ∧ w'.ownsRow w.heap.size 3 1 v' (wayI a b).length (ics (wayI a b)) ∧ Below w.heap.size w w' := by
  unfold wayI
  by_cases h : b < 0 ∨ a ≤ b ∨ 1048576 < a
  · rw [if_pos h]
    refine (rway_no a b w h).mono ?_
    rintro x w' ⟨rfl, rfl⟩
    exact ⟨_, rfl, World.ownsRow_nil _ _ _ _, Below.refl _ _⟩
  · rw [if_neg h]
    obtain ⟨A, rfl⟩ : ∃ A : Nat, a = (A : Int) := ⟨a.toNat, by omega⟩
    obtain ⟨B, rfl⟩ : ∃ B : Nat, b = (B : Int) := ⟨b.toNat, by omega⟩
    simp only [Int.toNat_natCast]
    exact rway_yes A B w (by omega) (by omega)

end Go.Proofs.YtpndpmkoegmbkaaDoor

namespace Go.Proofs.YtpndpmkoegmbkaaDoor
open Go.RowKit

/-- Where a number stands first in a list. -/
def ixI (l : List Nat) (x : Nat) : Int := if x ∈ l then (l.idxOf x : Int) else -1

theorem ixI_at (l : List Nat) (x k : Nat) (h : l[k]? = some x) (hn : x ∉ l.take k) : ixI l x = (k : Int) := by
  have hk := (List.getElem?_eq_some_iff.1 h).1
  have hm : x ∈ l := List.mem_of_getElem? h
  unfold ixI
  rw [if_pos hm]
  have e : l = l.take k ++ x :: l.drop (k + 1) := by
    conv => lhs; rw [← List.take_append_drop k l]
    congr 1
    rw [List.drop_eq_getElem_cons hk]
    congr 1
    exact (List.getElem?_eq_some_iff.1 h).2
  have e2 : l.idxOf x = k := by
    conv => lhs; rw [e]
    rw [List.idxOf_append, if_neg hn]
    simp
    omega
  rw [e2]

set_option maxRecDepth 100000 in
set_option maxHeartbeats 1000000 in
theorem index_any (v : Value) (l : List Nat) (x : Nat) (w : World) (h : IA w v l) :
    Calls Tryd.prog 35 #[v, .int .i64 (x : Int)] w fun e w' => e = .returned (.int .i64 (ixI l x)) ∧ w' = w := by
  obtain ⟨p, c, rfl⟩ := h.shape
  have hm := h.len_le
  unfold maxLen at hm
  have HI : Hid (∀ k, l[k]? = some x → x ∉ l.take k → ixI l x = (k : Int)) := fun k h1 h2 => ixI_at l x k h1 h2
  have HN : Hid (x ∉ l → ixI l x = -1) := fun hn => by unfold ixI; rw [if_neg hn]
  generalize ixI l x = R at *
  go_enter Tryd.func35, Tryd.ntmps35
  go_wp2
  go_loopw [8] (fun i wr => ∃ k : Nat, k ≤ l.length ∧ i = .int .i64 k ∧ Hid (x ∉ l.take k) ∧ wr = w) (fun i _ => l.length - (intOf i).toNat)
  case atStart => exact ⟨0, Nat.zero_le _, rfl, fun h => by simp at h, rfl⟩
  case round =>
    obtain ⟨k, hk, rfl, hno, hwr⟩ := hrel
    subst hwr
    by_cases hlt : k < l.length
    · obtain ⟨b, o, rfl, f1⟩ := h.addr (by omega)
      have c1 := f1 k l[k] (List.getElem?_eq_getElem hlt)
      have HY : Hid (l[k]? = some l[k]) := List.getElem?_eq_getElem hlt
      generalize l[k] = y at *
      clear f1
      have hlt2 : (k : Int) < (l.length : Int) := by omega
      by_cases hxy : x = y
      · have HR : Hid (R = (k : Int)) := HI.out k (by rw [hxy]; exact HY.out) hno.out
        have hb : ((x : Int) == (y : Int)) = true := by simp; omega
        have hb2 : decide ((x : Int) = (y : Int)) = true := by simp; omega
        clear hxy HI HN
        go_wp2
        go_ret
        rw [HR.out]
        exact ⟨rfl, rfl⟩
      · have hb : ((x : Int) == (y : Int)) = false := by simp; omega
        have hb2 : decide ((x : Int) = (y : Int)) = false := by simp; omega
        have HN2 : Hid (x ∉ l.take (k + 1)) := by
          show ¬ _
          rw [List.take_add_one, HY.out]
          have := hno.out
          simp [this]
          exact hxy
        clear hxy HI HN
        go_wp2
        go_roundw
        case rel => first | exact ⟨k + 1, by omega, by go_num, HN2, trivial⟩ | ((repeat apply Exists.intro); exact ⟨⟨k + 1, by omega, by go_num, HN2, trivial⟩, rfl⟩)
        case measure => simp [intOf]; omega
    · have HR : Hid (R = -1) := HN.out (by have := hno.out; rwa [List.take_of_length_le (by omega)] at this)
      clear HI HN
      go_wp2
      go_ret
      rw [HR.out]
      exact ⟨rfl, rfl⟩

end Go.Proofs.YtpndpmkoegmbkaaDoor
