/- What this text proves: the walk of skip.Links over this program: the links of any epoch, in new memory. What this text proves: the walk of the document's Links (annalsref14) over this program: the links of any epoch, in new memory. What this text proves: the walks of skip.Next and of the document's Next over this program. What this text proves: the walks of skip.Way and of the document's Way over this program. What this text proves: the walks of slices.Index and slices.Contains at a slice of numbers over this program. -/
import Derived.Test.YtgfddabccjfhiabDoorJA
import Derived.Test.YtgfddabccjfhiabDoorJIn
namespace Go.Proofs.YtgfddabccjfhiabDoor
open Go.RowKit

theorem i_intS : (Tryd.prog.info? 3).map (fun i => (i.zero, i.size, i.bytes)) = some (some (.int .i64 0), 1, 8) := by kernel_rfl

theorem shl_one (k : Nat) (h : k < 63) : wrap64 (2 ^ k) = ((2 ^ k : Nat) : Int) := by
  have h1 : 2 ^ k ≤ 2 ^ 62 := Nat.pow_le_pow_right (by decide) (by omega)
  have h2 : (2 : Nat) ^ 62 = 4611686018427387904 := by decide
  have e : ((2 : Int) ^ k) = ((2 ^ k : Nat) : Int) := by simp
  rw [e]
  generalize 2 ^ k = q at *
  unfold wrap64
  omega

theorem links_none (e : Int) (w : World) (h : e < 1) :
    Calls Tryd.prog 7 #[.int .i64 e] w fun x w' => x = .returned (.slice none 0 0) ∧ w' = w := by
  go_enter Tryd.func7, Tryd.ntmps7
  go_wp2
  go_ret
  exact ⟨rfl, rfl⟩

set_option maxRecDepth 100000 in
set_option maxHeartbeats 2000000 in
theorem links_pos (e : Nat) (w : World) (h0 : 0 < e) (he : e < 9223372036854775808) (hT : TD w) :
    Calls Tryd.prog 7 #[.int .i64 (e : Int)] w fun x w' => ∃ v', x = .returned v' ∧ w'.ownsRow w.heap.size 3 1 v' (tz e + 1) (ics (lk e (tz e + 1))) ∧ Below w.heap.size w w' := by
  have hC := tz_any e (by omega) (by omega) w hT
  have ht := (tz_spec e h0 he).choose_spec.2
  have HP : Hid (∀ k, k ≤ tz e → 2 ^ k ≤ e) := fun k hk => tz_pow_le e k h0 he hk
  generalize tz e = T at *
  obtain ⟨i0, hi, hz0, hz1, hz2⟩ := info_parts i_intS
  have hu : IntKind.u64.wrap (e : Int) = (e : Int) := by rw [IntKind.wrap_u64]; omega
  go_enter Tryd.func7, Tryd.ntmps7
  go_wp2_with fail
  refine hC.mono ?_
  rintro x w1 ⟨rfl, hw1⟩
  subst hw1
  clear hC hT hu
  go_wp2_with fail
  go_loopw [3, 11] (fun v i wr => ∃ k : Nat, k ≤ T + 1 ∧ i = .int .i64 (k : Int) ∧ wr.ownsRow w1.heap.size 3 1 v k (ics (lk e k)) ∧ Below w1.heap.size w1 wr) (fun _ i _ => T + 1 - (intOf i).toNat)
  case atStart => exact ⟨0, Nat.zero_le _, rfl, World.ownsRow_nil _ _ _ _, Below.refl _ _⟩
  case round =>
    obtain ⟨k, hk, rfl, hown, hbe⟩ := hrel
    have hsz := hbe.size
    by_cases hlt : k < T + 1
    · have hs1 := shl_one k (by omega)
      have hpe := HP.out k (by omega)
      obtain ⟨q, hq⟩ : ∃ q, q = 2 ^ k := ⟨_, rfl⟩
      have HQ : Hid (lk e (k + 1) = lk e k ++ [e - q]) := by rw [hq]; exact lk_succ e k
      rw [← hq] at hs1 hpe
      have hlt2 : (k : Int) < (T : Int) + 1 := by omega
      have hse : (e : Int) - (q : Int) = ((e - q : Nat) : Int) := by omega
      clear hq HP
      go_wp2_with (first | (at_builtin; refine wpList_append_own _ rfl (.tmp 14) (.tmp 19) 23 rfl w1.heap.size 3 i0 (.int .i64 0) 1 8 Tryd.underlying23 hi hz0 hz1 hz2 rfl (by decide) _ _ _ rfl (hown.alloc _) ⟨wr.heap.size, 0, none⟩ 1 1 [.int .i64 ((e - q : Nat) : Int)] rfl rfl ?ra ?rb ?rc ?rd ?re ?_))
      case ra => first | exact cell_one_new _ _ _ | (rw [← hse]; exact cell_one_new _ _ _)
      case rb => intro u hu; simp at hu; subst hu; rfl
      case rc => unfold maxLen; omega
      case rd => omega
      case re => simp; omega
      intro v3 w3 hown3 hgrow3 _
      have hb3 : Below w1.heap.size w1 w3 := (hbe.alloc hsz _).grown hgrow3 (by simp; omega) (fun k hk => (hown.lt k hk).1)
      have hown4 : w3.ownsRow w1.heap.size 3 1 v3 (k + 1) (ics (lk e (k + 1))) := by
        rw [HQ.out]
        have := hown3
        simp only [ics, List.map_append, List.map_cons, List.map_nil, ic] at this ⊢
        exact this
      clear hown hown3 hgrow3 hbe
      go_wp2
      go_roundw
      case rel => first | exact ⟨k + 1, by omega, by go_num, hown4, hb3⟩ | ((repeat apply Exists.intro); exact ⟨⟨k + 1, by omega, by go_num, hown4, hb3⟩, rfl⟩)
      case measure => simp [intOf]; omega
    · obtain rfl : k = T + 1 := by omega
      go_wp2
      go_ret
      exact ⟨_, rfl, hown, hbe⟩

theorem links_any (e : Int) (w : World) (he : e < 9223372036854775808) (hT : TD w) :
    Calls Tryd.prog 7 #[.int .i64 e] w fun x w' => ∃ v', x = .returned v' ∧ w'.ownsRow w.heap.size 3 1 v' (linksL e.toNat).length (ics (linksL e.toNat)) ∧ Below w.heap.size w w' := by
  by_cases h : e < 1
  · refine (links_none e w h).mono ?_
    rintro x w' ⟨rfl, rfl⟩
    rw [show e.toNat = 0 by omega]
    exact ⟨_, rfl, World.ownsRow_nil _ _ _ _, Below.refl _ _⟩
  · obtain ⟨n, rfl⟩ : ∃ n : Nat, e = (n : Int) := ⟨e.toNat, by omega⟩
    rw [Int.toNat_natCast, linksL_pos n (by omega), lk_length]
    exact links_pos n w (by omega) (by omega) hT

end Go.Proofs.YtgfddabccjfhiabDoor

namespace Go.Proofs.YtgfddabccjfhiabDoor
open Go.RowKit

theorem dbl_pow (k : Nat) (h : k < 62) : wrap64 (2 * ((2 ^ k : Nat) : Int)) = ((2 ^ (k + 1) : Nat) : Int) := by
  have h1 : 2 ^ k ≤ 2 ^ 61 := Nat.pow_le_pow_right (by decide) (by omega)
  have h2 : (2 : Nat) ^ 61 = 2305843009213693952 := by decide
  rw [Nat.pow_succ]
  generalize 2 ^ k = q at *
  unfold wrap64
  omega

/-- A slice's length. -/
def lenK : Value → Nat
  | .slice _ n _ => n
  | _ => 0

theorem pow62 : (2 : Nat) ^ 62 = 4611686018427387904 := by decide

end Go.Proofs.YtgfddabccjfhiabDoor

namespace Go.Proofs.YtgfddabccjfhiabDoor
open Go.RowKit

/-- The next epoch on the way, of any numbers. -/
def nextI (a b : Int) : Int := if b < 0 ∨ a ≤ b then a else (nextN a.toNat b.toNat : Int)

theorem ahead_any (a b : Int) (w : World) :
    Calls Tryd.prog 14 #[.int .i64 a, .int .i64 b] w fun x w' => x = .returned (.bool (decide (0 ≤ b ∧ b < a))) ∧ w' = w := by
  by_cases h0 : 0 ≤ b
  · by_cases h1 : b < a
    · rw [show decide (0 ≤ b ∧ b < a) = true by simp; omega]
      go_enter Tryd.func14, Tryd.ntmps14
      go_wp2
      go_ret
      exact ⟨rfl, rfl⟩
    · rw [show decide (0 ≤ b ∧ b < a) = false by simp; omega]
      have d1 : decide (b < a) = false := by simpa using h1
      go_enter Tryd.func14, Tryd.ntmps14
      go_wp2
      go_ret
      exact ⟨rfl, rfl⟩
  · rw [show decide (0 ≤ b ∧ b < a) = false by simp; omega]
    have d0 : decide (0 ≤ b) = false := by simpa using h0
    go_enter Tryd.func14, Tryd.ntmps14
    go_wp2
    go_ret
    exact ⟨rfl, rfl⟩

theorem next_no (a b : Int) (w : World) (h : b < 0 ∨ a ≤ b) :
    Calls Tryd.prog 15 #[.int .i64 a, .int .i64 b] w fun x w' => x = .returned (.int .i64 a) ∧ w' = w := by
  have hA := fun w => ahead_any a b w
  rw [show decide (0 ≤ b ∧ b < a) = false by simp; omega] at hA
  clear h
  go_enter Tryd.func15, Tryd.ntmps15
  go_wp2_with fail
  refine (hA _).mono ?_
  rintro x w1 ⟨rfl, hw⟩
  subst hw
  clear hA
  go_wp2
  go_ret
  exact ⟨rfl, rfl⟩

theorem nx_take (b a : Nat) (ls : List Nat) (k x : Nat) (h : ls[k]? = some x) : nxF b a (ls.take (k + 1)) = if b ≤ x then x else nxF b a (ls.take k) := by
  rw [List.take_add_one, h]
  exact nxF_snoc b a _ x

set_option maxRecDepth 100000 in
set_option maxHeartbeats 2000000 in
theorem next_yes (a b : Nat) (w : World) (h : b < a) (ha : a < 9223372036854775808) (hT : TD w) :
    Calls Tryd.prog 15 #[.int .i64 (a : Int), .int .i64 (b : Int)] w fun x w' => x = .returned (.int .i64 (nextN a b : Int)) ∧ Below w.heap.size w w' := by
  have hA := fun w => ahead_any (a : Int) (b : Int) w
  rw [show decide (0 ≤ (b : Int) ∧ (b : Int) < (a : Int)) = true by simp; omega] at hA
  have hK := links_any (a : Int) w (by omega) hT
  rw [Int.toNat_natCast] at hK
  have hll := linksL_len a ha
  have HN : Hid (nextN a b = nxF b a (linksL a)) := rfl
  generalize nextN a b = N at *
  generalize linksL a = ls at *
  go_enter Tryd.func15, Tryd.ntmps15
  go_wp2_with fail
  refine (hA _).mono ?_
  rintro x w1 ⟨rfl, hw⟩
  subst hw
  clear hA
  go_wp2_with fail
  refine hK.mono ?_
  rintro x w2 ⟨v2, rfl, hown, hb2⟩
  clear hK hT
  obtain ⟨p, c, rfl⟩ := owns_shape hown
  have hIA := IA.of_owns hown
  clear hown
  go_wp2
  go_loopw [5, 17] (fun v i wr => ∃ k : Nat, k ≤ ls.length ∧ i = .int .i64 (k : Int) ∧ v = .int .i64 (nxF b a (ls.take k) : Int) ∧ wr = w2) (fun _ i _ => ls.length - (intOf i).toNat)
  case atStart => exact ⟨0, Nat.zero_le _, rfl, rfl, rfl⟩
  case round =>
    obtain ⟨k, hk, rfl, rfl, hwr⟩ := hrel
    subst hwr
    by_cases hlt : k < ls.length
    · obtain ⟨g, o, rfl, f1⟩ := hIA.addr (by omega)
      have c1 := f1 k ls[k] (List.getElem?_eq_getElem hlt)
      have HS : Hid (nxF b a (ls.take (k + 1)) = if b ≤ ls[k] then ls[k] else nxF b a (ls.take k)) := nx_take b a ls k _ (List.getElem?_eq_getElem hlt)
      generalize ls[k] = y at *
      generalize hX : nxF b a (ls.take k) = X at *
      clear hX f1 HN
      have hlt2 : (k : Int) < (ls.length : Int) := by omega
      by_cases hy : b ≤ y
      · have hy2 : (b : Int) ≤ (y : Int) := by omega
        go_wp2
        go_roundw
        case rel => exact ⟨k + 1, by omega, by go_num, by rw [HS.out, if_pos hy], trivial⟩
        case measure => simp [intOf]; omega
      · have hy2 : decide ((b : Int) ≤ (y : Int)) = false := by simp; omega
        go_wp2
        go_roundw
        case rel => exact ⟨k + 1, by omega, by go_num, by rw [HS.out, if_neg hy], trivial⟩
        case measure => simp [intOf]; omega
    · have e1 : ls.take k = ls := List.take_of_length_le (by omega)
      rw [e1, ← HN.out]
      clear e1
      go_wp2
      go_ret
      exact ⟨rfl, hb2⟩

theorem next_any (a b : Int) (w : World) (ha : a < 9223372036854775808) (hT : TD w) :
    Calls Tryd.prog 15 #[.int .i64 a, .int .i64 b] w fun x w' => x = .returned (.int .i64 (nextI a b)) ∧ Below w.heap.size w w' := by
  unfold nextI
  by_cases h : b < 0 ∨ a ≤ b
  · rw [if_pos h]
    exact (next_no a b w h).mono fun x w' ⟨h1, h2⟩ => ⟨h1, by subst h2; exact Below.refl _ _⟩
  · rw [if_neg h]
    obtain ⟨A, rfl⟩ : ∃ A : Nat, a = (A : Int) := ⟨a.toNat, by omega⟩
    obtain ⟨B, rfl⟩ : ∃ B : Nat, b = (B : Int) := ⟨b.toNat, by omega⟩
    simp only [Int.toNat_natCast]
    exact next_yes A B w (by omega) (by omega) hT

end Go.Proofs.YtgfddabccjfhiabDoor

namespace Go.Proofs.YtgfddabccjfhiabDoor
open Go.RowKit

/-- The way, of any numbers. -/
def wayI (a b : Int) : List Nat := if b < 0 ∨ a ≤ b ∨ 1048576 < a then [] else wayN a.toNat b.toNat

theorem nextI_yes (a b : Nat) (h : b < a) : nextI (a : Int) (b : Int) = (nextN a b : Int) := by
  unfold nextI
  rw [if_neg (by omega)]
  simp

theorem way_no (a b : Int) (w : World) (h : b < 0 ∨ a ≤ b ∨ 1048576 < a) :
    Calls Tryd.prog 5 #[.int .i64 a, .int .i64 b] w fun x w' => x = .returned (.slice none 0 0) ∧ w' = w := by
  have hA := fun w => ahead_any a b w
  by_cases h1 : 0 ≤ b ∧ b < a
  · rw [show decide (0 ≤ b ∧ b < a) = true by simp; omega] at hA
    have h2 : (1048576 : Int) < a := by omega
    clear h
    go_enter Tryd.func5, Tryd.ntmps5
    go_wp2_with fail
    refine (hA _).mono ?_
    rintro x w1 ⟨rfl, hw⟩
    subst hw
    clear hA
    go_wp2
    go_ret
    exact ⟨rfl, rfl⟩
  · rw [show decide (0 ≤ b ∧ b < a) = false by simp; omega] at hA
    clear h h1
    go_enter Tryd.func5, Tryd.ntmps5
    go_wp2_with fail
    refine (hA _).mono ?_
    rintro x w1 ⟨rfl, hw⟩
    subst hw
    clear hA
    go_wp2
    go_ret
    exact ⟨rfl, rfl⟩

/-- How a round of the way goes. -/
theorem way_round (W acc : List Nat) (c b : Nat) (hc : c < 9223372036854775808) (h : b < c) (hW : W = acc ++ wayN c b) : W = (acc ++ [nextN c b]) ++ wayN (nextN c b) b := by
  rw [hW, wayN_step c b hc h]
  simp

set_option maxRecDepth 100000 in
set_option maxHeartbeats 2000000 in
theorem way_yes (a b : Nat) (w : World) (h : b < a) (ha : a ≤ 1048576) (hT : TD w) :
    Calls Tryd.prog 5 #[.int .i64 (a : Int), .int .i64 (b : Int)] w fun x w' => ∃ v', x = .returned v' ∧ w'.ownsRow w.heap.size 3 1 v' (wayN a b).length (ics (wayN a b)) ∧ Below w.heap.size w w' := by
  have hA := fun w => ahead_any (a : Int) (b : Int) w
  rw [show decide (0 ≤ (b : Int) ∧ (b : Int) < (a : Int)) = true by simp; omega] at hA
  have HL : Hid ((wayN a b).length ≤ 1048576) := by
    have := wayN_len (a - b) a b (Nat.le_refl _) (by omega)
    show _ ≤ _
    omega
  obtain ⟨W, hW⟩ : ∃ W, W = wayN a b := ⟨_, rfl⟩
  rw [← hW] at HL ⊢
  have HW : Hid (W = [] ++ wayN a b) := hW
  clear hW
  obtain ⟨i0, hi, hz0, hz1, hz2⟩ := info_parts i_intS
  go_enter Tryd.func5, Tryd.ntmps5
  go_wp2_with fail
  refine (hA _).mono ?_
  rintro x w1 ⟨rfl, hw⟩
  subst hw
  clear hA
  go_wp2_with fail
  go_loopw [5, 6] (fun v i wr => ∃ (c : Nat) (acc : List Nat), b ≤ c ∧ c ≤ a ∧ Hid (W = acc ++ wayN c b) ∧ i = .int .i64 (c : Int) ∧ wr.ownsRow w1.heap.size 3 1 v acc.length (ics acc) ∧ Below w1.heap.size w1 wr) (fun _ i _ => (intOf i).toNat)
  case atStart => exact ⟨a, [], by omega, Nat.le_refl _, HW, rfl, World.ownsRow_nil _ _ _ _, Below.refl _ _⟩
  case round =>
    obtain ⟨c, acc, hbc, hca, hcW, rfl, hown, hbe⟩ := hrel
    have hsz := hbe.size
    by_cases hlt : b < c
    · have hN := next_any (c : Int) (b : Int) wr (by omega) (hT.later hbe)
      rw [nextI_yes c b hlt] at hN
      have hn1 := nextN_lt c b (by omega) hlt
      have hn2 := nextN_ge c b hlt
      have HR : Hid (W = (acc ++ [nextN c b]) ++ wayN (nextN c b) b) := way_round W acc c b (by omega) hlt hcW.out
      have hal : acc.length ≤ 1048576 := by
        have h1 := HL.out
        rw [hcW.out, List.length_append] at h1
        omega
      clear hcW HW HL hT
      generalize nextN c b = n at *
      have hne : ((c : Int) != (b : Int)) = true := by simp; omega
      go_wp2_with fail
      refine hN.mono ?_
      rintro x w2 ⟨rfl, hb2⟩
      have hbe2 := hbe.trans (hb2.mono hsz)
      have hown2 := owns_later hown hb2
      have hsz2 := hbe2.size
      clear hN hown hb2 hbe hsz
      go_wp2_with (first | (at_builtin; refine wpList_append_own _ rfl (.tmp 22) (.tmp 24) 23 rfl w1.heap.size 3 i0 (.int .i64 0) 1 8 Tryd.underlying23 hi hz0 hz1 hz2 rfl (by decide) _ _ _ rfl (hown2.alloc _) ⟨w2.heap.size, 0, none⟩ 1 1 [.int .i64 (n : Int)] rfl rfl ?ra ?rb ?rc ?rd ?re ?_))
      case ra => exact cell_one_new _ _ _
      case rb => intro u hu; simp at hu; subst hu; rfl
      case rc => unfold maxLen; omega
      case rd => omega
      case re => simp; omega
      intro v3 w3 hown3 hgrow3 _
      have hb3 : Below w1.heap.size w1 w3 := (hbe2.alloc hsz2 _).grown hgrow3 (by simp; omega) (fun k hk => (hown2.lt k hk).1)
      have hown4 : w3.ownsRow w1.heap.size 3 1 v3 (acc ++ [n]).length (ics (acc ++ [n])) := by
        have := hown3
        simp only [ics, List.map_append, List.map_cons, List.map_nil, ic, List.length_append, List.length_cons, List.length_nil] at this ⊢
        exact this
      clear hown2 hown3 hgrow3 hbe2
      go_wp2
      go_roundw
      case rel => first | exact ⟨n, acc ++ [n], by omega, by omega, HR, rfl, hown4, hb3⟩ | ((repeat apply Exists.intro); exact ⟨⟨n, acc ++ [n], by omega, by omega, HR, rfl, hown4, hb3⟩, rfl⟩)
      case measure => simp [intOf]; omega
    · obtain rfl : c = b := by omega
      have e1 := hcW.out
      rw [wayN_at c c (Nat.le_refl _), List.append_nil] at e1
      have HE : Hid (W = acc) := e1
      have hne : ((c : Int) != (c : Int)) = false := by simp
      clear e1 hcW HW HL
      go_wp2
      go_ret
      rw [HE.out]
      exact ⟨_, rfl, hown, hbe⟩

theorem way_any (a b : Int) (w : World) (hT : TD w) :
    Calls Tryd.prog 5 #[.int .i64 a, .int .i64 b] w fun x w' => ∃ v', x = .returned v' ∧ w'.ownsRow w.heap.size 3 1 v' (wayI a b).length (ics (wayI a b)) ∧ Below w.heap.size w w' := by
  unfold wayI
  by_cases h : b < 0 ∨ a ≤ b ∨ 1048576 < a
  · rw [if_pos h]
    refine (way_no a b w h).mono ?_
    rintro x w' ⟨rfl, rfl⟩
    exact ⟨_, rfl, World.ownsRow_nil _ _ _ _, Below.refl _ _⟩
  · rw [if_neg h]
    obtain ⟨A, rfl⟩ : ∃ A : Nat, a = (A : Int) := ⟨a.toNat, by omega⟩
    obtain ⟨B, rfl⟩ : ∃ B : Nat, b = (B : Int) := ⟨b.toNat, by omega⟩
    simp only [Int.toNat_natCast]
    exact way_yes A B w (by omega) (by omega) hT

end Go.Proofs.YtgfddabccjfhiabDoor

namespace Go.Proofs.YtgfddabccjfhiabDoor
open Go.RowKit

/-- Where a number stands first in a list. -/
def ixI (l : List Nat) (x : Nat) : Int := if x ∈ l then (l.idxOf x : Int) else -1

theorem ixI_at (l : List Nat) (x k : Nat) (h : l[k]? = some x) (hn : x ∉ l.take k) : ixI l x = (k : Int) := by
  have hk := (List.getElem?_eq_some_iff.1 h).1
  have hm : x ∈ l := List.mem_of_getElem? h
  unfold ixI
  rw [if_pos hm]
  have e : l = l.take k ++ x :: l.drop (k + 1) := by
    conv => lhs; rw [← List.take_append_drop k l]
    congr 1
    rw [List.drop_eq_getElem_cons hk]
    congr 1
    exact (List.getElem?_eq_some_iff.1 h).2
  have e2 : l.idxOf x = k := by
    conv => lhs; rw [e]
    rw [List.idxOf_append, if_neg hn]
    simp
    omega
  rw [e2]

set_option maxRecDepth 100000 in
set_option maxHeartbeats 1000000 in
theorem index_any (v : Value) (l : List Nat) (x : Nat) (w : World) (h : IA w v l) :
    Calls Tryd.prog 16 #[v, .int .i64 (x : Int)] w fun e w' => e = .returned (.int .i64 (ixI l x)) ∧ w' = w := by
  obtain ⟨p, c, rfl⟩ := h.shape
  have hm := h.len_le
  unfold maxLen at hm
  have HI : Hid (∀ k, l[k]? = some x → x ∉ l.take k → ixI l x = (k : Int)) := fun k h1 h2 => ixI_at l x k h1 h2
  have HN : Hid (x ∉ l → ixI l x = -1) := fun hn => by unfold ixI; rw [if_neg hn]
  generalize ixI l x = R at *
  go_enter Tryd.func16, Tryd.ntmps16
  go_wp2
  go_loopw [8] (fun i wr => ∃ k : Nat, k ≤ l.length ∧ i = .int .i64 k ∧ Hid (x ∉ l.take k) ∧ wr = w) (fun i _ => l.length - (intOf i).toNat)
  case atStart => exact ⟨0, Nat.zero_le _, rfl, fun h => by simp at h, rfl⟩
  case round =>
    obtain ⟨k, hk, rfl, hno, hwr⟩ := hrel
    subst hwr
    by_cases hlt : k < l.length
    · obtain ⟨b, o, rfl, f1⟩ := h.addr (by omega)
      have c1 := f1 k l[k] (List.getElem?_eq_getElem hlt)
      have HY : Hid (l[k]? = some l[k]) := List.getElem?_eq_getElem hlt
      generalize l[k] = y at *
      clear f1
      have hlt2 : (k : Int) < (l.length : Int) := by omega
      by_cases hxy : x = y
      · have HR : Hid (R = (k : Int)) := HI.out k (by rw [hxy]; exact HY.out) hno.out
        have hb : ((x : Int) == (y : Int)) = true := by simp; omega
        have hb2 : decide ((x : Int) = (y : Int)) = true := by simp; omega
        clear hxy HI HN
        go_wp2
        go_ret
        rw [HR.out]
        exact ⟨rfl, rfl⟩
      · have hb : ((x : Int) == (y : Int)) = false := by simp; omega
        have hb2 : decide ((x : Int) = (y : Int)) = false := by simp; omega
        have HN2 : Hid (x ∉ l.take (k + 1)) := by
          show ¬ _
          rw [List.take_add_one, HY.out]
          have := hno.out
          simp [this]
          exact hxy
        clear hxy HI HN
        go_wp2
        go_roundw
        case rel => first | exact ⟨k + 1, by omega, by go_num, HN2, trivial⟩ | ((repeat apply Exists.intro); exact ⟨⟨k + 1, by omega, by go_num, HN2, trivial⟩, rfl⟩)
        case measure => simp [intOf]; omega
    · have HR : Hid (R = -1) := HN.out (by have := hno.out; rwa [List.take_of_length_le (by omega)] at this)
      clear HI HN
      go_wp2
      go_ret
      rw [HR.out]
      exact ⟨rfl, rfl⟩

set_option maxRecDepth 100000 in
set_option maxHeartbeats 1000000 in
theorem contains_yes (v : Value) (l : List Nat) (x : Nat) (w : World) (h : IA w v l) (hx : x ∈ l) :
    Calls Tryd.prog 6 #[v, .int .i64 (x : Int)] w fun e w' => e = .returned (.bool true) ∧ w' = w := by
  have hI := index_any v l x w h
  have e : ixI l x = ((l.idxOf x : Nat) : Int) := by unfold ixI; rw [if_pos hx]
  rw [e] at hI
  generalize l.idxOf x = K at *
  clear h hx e
  go_enter Tryd.func6, Tryd.ntmps6
  go_wp2_with fail
  refine hI.mono ?_
  rintro y w1 ⟨rfl, hw⟩
  subst hw
  clear hI
  go_wp2
  go_ret
  exact ⟨by simp, rfl⟩

end Go.Proofs.YtgfddabccjfhiabDoor
