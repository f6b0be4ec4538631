/- What this text proves: the walk of texts.Number over this program: a number in eight bytes. What this text proves: the walk of the document's Number over this program: a number in eight bytes. What this text proves: texts.Number and the document's Number, as one plain function; literals of rows of bytes in new memory. -/
import Derived.Test.YtahfjemllkbpgaaGreatDoorSum
import Derived.Test.YtahfjemllkbpgaaGreatDoorBe64
import Derived.Test.YtahfjemllkbpgaaGreatDoorRSum
import Derived.Test.YtahfjemllkbpgaaGreatDoorJB1
namespace Go.Proofs.YtahfjemllkbpgaaGreatDoor
open Go.RowKit

/-- The first k bytes of a number, and noughts behind. -/
def numTo (U k : Nat) : List UInt8 := (be64 U).take k ++ List.replicate (8 - k) 0
theorem numTo_step (U k : Nat) (hk : k < 8) : (numTo U k).set k (UInt8.ofNat (U / 2 ^ (8 * (7 - k)))) = numTo U (k + 1) := by
  have hl : ((be64 U).take k).length = k := by rw [List.length_take, be64_length]; omega
  have e : 8 - k = (8 - (k + 1)) + 1 := by omega
  unfold numTo
  rw [List.set_append_right _ _ (by omega), hl, Nat.sub_self, e, List.replicate_succ, List.set_cons_zero, List.take_add_one, be64_get _ _ hk]
  simp
theorem numTo_all (U : Nat) : numTo U 8 = be64 U := by
  unfold numTo
  rw [List.take_of_length_le (by rw [be64_length]; omega)]
  simp
theorem numV (U k : Nat) (hk : k < 8) : Value.int .u8 ((U : Int) / 2 ^ (56 - 8 * k) % 256) = bc (UInt8.ofNat (U / 2 ^ (8 * (7 - k)))) := by
  unfold bc
  have e : 56 - 8 * k = 8 * (7 - k) := by omega
  rw [e, show (U : Int) / 2 ^ (8 * (7 - k)) % 256 = ((U / 2 ^ (8 * (7 - k)) % 256 : Nat) : Int) by simp]
  simp

theorem u64_nat (n : Int) : ∃ U : Nat, IntKind.u64.wrap n = (U : Int) ∧ U < 18446744073709551616 := by
  have e : IntKind.u64.wrap n = n % 18446744073709551616 := by simp [IntKind.wrap, IntKind.bits, IntKind.signed]
  exact ⟨(n % 18446744073709551616).toNat, by rw [e]; omega, by omega⟩

set_option maxRecDepth 100000 in
set_option maxHeartbeats 1000000 in
theorem number_any (n : Int) (U : Nat) (hU : IntKind.u64.wrap n = (U : Int)) (w : World) :
    Calls Tryz.prog 53 #[.int .i64 n] w fun e w' => ∃ p c, e = .returned (.slice p 8 c) ∧ HB w' (.slice p 8 c) (be64 U) ∧ Below w.heap.size w w' := by
  obtain ⟨i0, hi, hz0, hz1, hz2⟩ := info_parts i_u8
  go_enter Tryz.func53, Tryz.ntmps53
  go_wp2_with (at_make; refine wpList_make_full _ rfl _ _ 22 rfl w.heap.size 5 i0 (.int .u8 0) 1 Tryz.underlying22 hi hz0 hz1 .i64 .i64 _ _ 8 rfl rfl ?qa ?qb ?qc ?qd ?qe ?_)
  all_goals (try (first | omega | (unfold maxLen; omega) | (rw [hz2]; omega)))
  intro w1 hown1 hgrow1
  have hb1 : Below w.heap.size w w1 := (Below.refl _ w).grown hgrow1 (Nat.le_refl _) (by intro k hk; cases hk)
  have hown1' : w1.ownsRow w.heap.size 5 1 (.slice (some ⟨w.heap.size, 0, none⟩) 8 8) 8 (bcs (numTo U 0)) := by
    have e : numTo U 0 = List.replicate 8 0 := rfl
    rw [e, ← made_bcs]
    simpa using hown1
  clear hown1 hgrow1
  go_wp2
  go_loopw [8] (fun i wr => ∃ k : Nat, k ≤ 8 ∧ i = .int .i64 k ∧ wr.ownsRow w.heap.size 5 1 (.slice (some ⟨w.heap.size, 0, none⟩) 8 8) 8 (bcs (numTo U k)) ∧ Below w.heap.size w wr)
    (fun i _ => 8 - (intOf i).toNat)
  case atStart => exact ⟨0, by omega, rfl, hown1', hb1⟩
  case round =>
    clear hown1' hb1
    obtain ⟨k, hk, rfl, hown, hbe⟩ := hrel
    by_cases hlt : k < 8
    · have hlen : (numTo U k).length = 8 := by
        have := hown.1
        rw [bcs_length] at this
        omega
      have hq : (bcs (numTo U k))[k]? = some (bc ((numTo U k).getD k 0)) := by
        rw [bcs_get]
        have : k < (numTo U k).length := by omega
        simp [List.getD, this]
      have q1 := hown.cellAt k (by omega)
      rw [hq] at q1
      have qf := hown.frozenAt k
      generalize (numTo U k).getD k 0 = y at *
      have HNV : Hid (Value.int .u8 ((U : Int) / 2 ^ (56 - 8 * k) % 256) = bc (UInt8.ofNat (U / 2 ^ (8 * (7 - k))))) := numV U k hlt
      have hk8 : (k : Int) < 8 := by omega
      clear hq hlen
      unfold bc at q1
      go_wp2
      have hown2 := owns_put hown k (UInt8.ofNat (U / 2 ^ (8 * (7 - k)))) _ HNV.out
      rw [numTo_step U k hlt] at hown2
      have hb2 : Below w.heap.size w (wr.setCell ⟨w.heap.size, k, none⟩ (.int .u8 ((U : Int) / 2 ^ (56 - 8 * k) % 256))) := hbe.setCell (Nat.le_refl _) _
      clear HNV q1 qf hown hbe
      go_roundw
      case rel => first | exact ⟨k + 1, by omega, by go_num, hown2, hb2⟩ | ((repeat apply Exists.intro); exact ⟨⟨k + 1, by omega, by go_num, hown2, hb2⟩, rfl⟩)
      case measure => simp [intOf]; omega
    · have hk8 : k = 8 := by omega
      subst hk8
      rw [numTo_all] at hown
      have hh := HB.of_owns hown
      have HH : Hid (HB wr (.slice (some ⟨w.heap.size, 0, none⟩) 8 8) (be64 U)) := hh
      clear hh hown
      go_wp2
      go_ret
      exact ⟨_, _, rfl, HH.out, hbe⟩

end Go.Proofs.YtahfjemllkbpgaaGreatDoor

namespace Go.Proofs.YtahfjemllkbpgaaGreatDoor
open Go.RowKit

set_option maxRecDepth 100000 in
set_option maxHeartbeats 1000000 in
theorem rnumber_any (n : Int) (U : Nat) (hU : IntKind.u64.wrap n = (U : Int)) (w : World) :
    Calls Tryz.prog 57 #[.int .i64 n] w fun e w' => ∃ p c, e = .returned (.slice p 8 c) ∧ HB w' (.slice p 8 c) (be64 U) ∧ Below w.heap.size w w' := by
  obtain ⟨i0, hi, hz0, hz1, hz2⟩ := info_parts i_u8
  go_enter Tryz.func57, Tryz.ntmps57
  have h0 : w.ownsRow w.heap.size 5 1 (.slice none 0 0) 0 (bcs ((be64 U).take 0)) := World.ownsRow_nil w _ _ _
  go_wp2
  go_loopw [3, 4] (fun v i wr => ∃ (k : Nat) (p5 : Option Addr) (c5 : Nat), k ≤ 8 ∧ i = .int .i64 (56 - 8 * (k : Int)) ∧ v = .slice p5 k c5 ∧ wr.ownsRow w.heap.size 5 1 (.slice p5 k c5) k (bcs ((be64 U).take k)) ∧ Below w.heap.size w wr)
    (fun v _ _ => 8 - lenS v)
  case atStart => exact ⟨0, none, 0, by omega, rfl, rfl, h0, Below.refl _ _⟩
  case round =>
    clear h0
    obtain ⟨k, p5, c5, hk, rfl, rfl, hown, hbe⟩ := hrel
    have hsz := hbe.size
    by_cases hlt : k < 8
    · have HNV : Hid (Value.int .u8 ((U : Int) / 2 ^ (56 - 8 * k) % 256) = bc (UInt8.ofNat (U / 2 ^ (8 * (7 - k))))) := numV U k hlt
      have HST : Hid (bcs ((be64 U).take k) ++ [bc (UInt8.ofNat (U / 2 ^ (8 * (7 - k))))] = bcs ((be64 U).take (k + 1))) := by
        show _ = _
        rw [List.take_add_one, be64_get _ _ hlt]
        simp [bcs]
      go_wp2_with (first | (at_builtin; refine wpList_append_own _ rfl (.tmp 9) (.tmp 15) 22 rfl w.heap.size 5 i0 (.int .u8 0) 1 1 Tryz.underlying22 hi hz0 hz1 hz2 rfl (by decide) _ _ _ rfl (hown.alloc _) ⟨wr.heap.size, 0, none⟩ 1 1 [.int .u8 ((U : Int) / 2 ^ (56 - 8 * k) % 256)] rfl rfl ?ua ?ub ?uc ?ud ?ue ?_))
      case ua => exact cell_one_new _ _ _
      case ub => intro u hu; simp at hu; subst hu; rfl
      case uc => unfold maxLen; omega
      case ud => omega
      case ue => simp; omega
      intro v6 w6 hown6 hgrow6 _
      have hb6 : Below w.heap.size w w6 := (hbe.alloc hsz _).grown hgrow6 (by simp; omega) (fun k hk => (hown.lt k hk).1)
      rw [HNV.out, HST.out] at hown6
      obtain ⟨p6, c6, hv6⟩ := owns_shape hown6
      rw [hv6] at hown6 ⊢
      clear hv6 hgrow6 hown hbe HNV HST
      go_wp2
      go_roundw
      case rel => first | exact ⟨k + 1, p6, c6, by omega, by go_num, rfl, hown6, hb6⟩ | ((repeat apply Exists.intro); exact ⟨⟨k + 1, p6, c6, by omega, by go_num, rfl, hown6, hb6⟩, rfl⟩)
      case measure => simp [lenS]; omega
    · have hk8 : k = 8 := by omega
      subst hk8
      rw [List.take_of_length_le (by rw [be64_length]; omega)] at hown
      have hh := HB.of_owns hown
      have HH : Hid (HB wr (.slice p5 8 c5) (be64 U)) := hh
      clear hh hown
      go_wp2
      go_ret
      exact ⟨_, _, rfl, HH.out, hbe⟩

end Go.Proofs.YtahfjemllkbpgaaGreatDoor

namespace Go.Proofs.YtahfjemllkbpgaaGreatDoor
open Go.RowKit

theorem hid {p : Prop} (h : p) : Hid p := h

/-- A number in eight bytes. -/
def numB (n : Int) : List UInt8 := be64 (IntKind.u64.wrap n).toNat

theorem rnumber_to (n : Int) (w : World) :
    Calls Tryz.prog 57 #[.int .i64 n] w fun e w' => ∃ p c, e = .returned (.slice p 8 c) ∧ HB w' (.slice p 8 c) (numB n) ∧ Below w.heap.size w w' := by
  obtain ⟨U, hU, _⟩ := u64_nat n
  have e : numB n = be64 U := by unfold numB; rw [hU]; simp
  rw [e]
  exact rnumber_any n U hU w

theorem number_to (n : Int) (w : World) :
    Calls Tryz.prog 53 #[.int .i64 n] w fun e w' => ∃ p c, e = .returned (.slice p 8 c) ∧ HB w' (.slice p 8 c) (numB n) ∧ Below w.heap.size w w' := by
  obtain ⟨U, hU, _⟩ := u64_nat n
  have e : numB n = be64 U := by unfold numB; rw [hU]; simp
  rw [e]
  exact number_any n U hU w

/-- A literal of rows of bytes in a new block. -/
theorem PA.lit (w : World) (e : TypeId) (vs : List Value) (ls : List (List UInt8)) (n : Nat) (hn : n = ls.length) (hv : vs.length = ls.length) (hm : n ≤ maxLen)
    (h : ∀ (i : Nat) x l, vs[i]? = some x → ls[i]? = some l → HB w x l) : PA (w.alloc (.cells vs.toArray e)) (.slice (some ⟨w.heap.size, 0, none⟩) n n) ls := by
  subst hn
  refine ⟨_, ls.length, vs, rfl, Nat.le_refl _, hm, (fun h => by cases h), hv, fun _ => ⟨_, 0, rfl, fun i x hx => ?_⟩, fun i x l hx hl => ?_⟩
  · rw [Nat.zero_add, cell_of_row _ _ i _ _ _ (heap_alloc_new w _)]
    simp [hx]
  · exact (h i x l hx hl).later ((Below.refl _ w).alloc (Nat.le_refl _) _)

theorem four_hb {w : World} {a b c d : Value} {la lb lc ld : List UInt8} (ha : HB w a la) (hb : HB w b lb) (hc : HB w c lc) (hd : HB w d ld) :
    ∀ (i : Nat) x l, [a, b, c, d][i]? = some x → [la, lb, lc, ld][i]? = some l → HB w x l := by
  intro i x l h1 h2
  match i with
  | 0 => simp at h1 h2; subst h1; subst h2; exact ha
  | 1 => simp at h1 h2; subst h1; subst h2; exact hb
  | 2 => simp at h1 h2; subst h1; subst h2; exact hc
  | 3 => simp at h1 h2; subst h1; subst h2; exact hd
  | n + 4 => simp at h1

theorem three_hb {w : World} {a b c : Value} {la lb lc : List UInt8} (ha : HB w a la) (hb : HB w b lb) (hc : HB w c lc) :
    ∀ (i : Nat) x l, [a, b, c][i]? = some x → [la, lb, lc][i]? = some l → HB w x l := by
  intro i x l h1 h2
  match i with
  | 0 => simp at h1 h2; subst h1; subst h2; exact ha
  | 1 => simp at h1 h2; subst h1; subst h2; exact hb
  | 2 => simp at h1 h2; subst h1; subst h2; exact hc
  | n + 3 => simp at h1

theorem two_hb {w : World} {a b : Value} {la lb : List UInt8} (ha : HB w a la) (hb : HB w b lb) :
    ∀ (i : Nat) x l, [a, b][i]? = some x → [la, lb][i]? = some l → HB w x l := by
  intro i x l h1 h2
  match i with
  | 0 => simp at h1 h2; subst h1; subst h2; exact ha
  | 1 => simp at h1 h2; subst h1; subst h2; exact hb
  | n + 2 => simp at h1

theorem five_hb {w : World} {a b c d e : Value} {la lb lc ld le : List UInt8} (ha : HB w a la) (hb : HB w b lb) (hc : HB w c lc) (hd : HB w d ld) (he : HB w e le) :
    ∀ (i : Nat) x l, [a, b, c, d, e][i]? = some x → [la, lb, lc, ld, le][i]? = some l → HB w x l := by
  intro i x l h1 h2
  match i with
  | 0 => simp at h1 h2; subst h1; subst h2; exact ha
  | 1 => simp at h1 h2; subst h1; subst h2; exact hb
  | 2 => simp at h1 h2; subst h1; subst h2; exact hc
  | 3 => simp at h1 h2; subst h1; subst h2; exact hd
  | 4 => simp at h1 h2; subst h1; subst h2; exact he
  | n + 5 => simp at h1

end Go.Proofs.YtahfjemllkbpgaaGreatDoor
