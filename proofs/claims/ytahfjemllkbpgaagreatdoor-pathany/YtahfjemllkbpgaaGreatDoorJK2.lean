/- What this text proves: the walk of the document's First (annalsref03) over this program: the first n bits of bytes, in new memory. What this text proves: the walks of bits.Begins, bits.Side and of the document's Begins and Side over this program: whether a row of bits begins with another one's first n; where all that begin with a prefix stand of a row. What this text proves: the walks of bits.Key and of the document's Key over this program: a byte that tells the length, and the bytes, 255 at most. -/
import Derived.Test.YtahfjemllkbpgaaGreatDoorOwn
import Derived.Test.YtahfjemllkbpgaaGreatDoorBitsPlain
import Derived.Test.YtahfjemllkbpgaaGreatDoorJK1
import Derived.Test.YtahfjemllkbpgaaGreatDoorJC1
import Derived.Lib.MinMax
namespace Go.Proofs.YtahfjemllkbpgaaGreatDoor
open Go.RowKit

/-- The byte that the loop puts at place k. -/
def firstB (x : UInt8) (n k : Nat) : UInt8 := if n - 8 * k < 8 then cutB x (n - 8 * k) else x

theorem firstN_step (l : List UInt8) (n k : Nat) (x : UInt8) (hx : l[k]? = some x) (hk : 8 * k < n) : firstN l (min n (8 * (k + 1))) = firstN l (min n (8 * k)) ++ [firstB x n k] := by
  unfold firstB
  rw [show min n (8 * k) = 8 * k by omega, firstN_whole l (8 * k) (by omega), show 8 * k / 8 = k by omega]
  split
  · rw [show min n (8 * (k + 1)) = n by omega, firstN_part l n x (by omega) (by rw [show n / 8 = k by omega]; exact hx), show n / 8 = k by omega, show n % 8 = n - 8 * k by omega]
  · rw [show min n (8 * (k + 1)) = 8 * (k + 1) by omega, firstN_whole l (8 * (k + 1)) (by omega), show 8 * (k + 1) / 8 = k + 1 by omega, List.take_add_one, hx]
    rfl

theorem firstN_end (l : List UInt8) (n k : Nat) (h : n ≤ 8 * k ∨ l.length ≤ k) : firstN l (min n (8 * k)) = firstN l n := by
  by_cases hn : n ≤ 8 * k
  · rw [show min n (8 * k) = n by omega]
  · rw [show min n (8 * k) = 8 * k by omega, firstN_all l n (by omega), firstN_all l (8 * k) (by omega)]

def lenF : Value → Nat | .slice _ n _ => n | _ => 0

theorem rcut_calc : ∀ n : Fin 256, ∀ k : Fin 8, (n.val : Int) / 2 ^ (8 - k.val) * 2 ^ (8 - k.val) % 256 = ((n.val / 2 ^ (8 - k.val) * 2 ^ (8 - k.val) : Nat) : Int) := by decide +kernel

set_option maxRecDepth 100000 in
set_option maxHeartbeats 1000000 in
theorem rfirst_any (v : Value) (l : List UInt8) (i : Int) (w : World) (h : HB w v l) (h0 : -9223372036854775808 ≤ i) (h1 : i ≤ 9223372036854775807) (hbig : l.length ≤ 140737488351232) :
    Calls Tryz.prog 58 #[v, .int .i64 i] w fun e w' => ∃ p c, e = .returned (.slice p (firstF l i).length c) ∧ HB w' (.slice p (firstF l i).length c) (firstF l i) ∧ Below w.heap.size w w' := by
  obtain ⟨p, c, rfl⟩ := h.shape
  obtain ⟨i0, hi, hz0, hz1, hz2⟩ := info_parts i_u8
  by_cases hneg : i < 1
  · have e : firstF l i = [] := by unfold firstF; rw [show i.toNat = 0 by omega, firstN_zero]
    rw [e]
    clear e
    go_enter Tryz.func58, Tryz.ntmps58
    go_wp2
    have hd : decide (0 < i) = false := by simp; omega
    go_loopw [5, 6] (fun v j wr => v = .slice none 0 0 ∧ j = .int .i64 0 ∧ wr = w) (fun _ _ _ => 0)
    case atStart => exact ⟨rfl, rfl, rfl⟩
    case round =>
      obtain ⟨rfl, rfl, hw⟩ := hrel
      go_wp2
      go_ret
      subst hw
      exact ⟨none, 0, rfl, HB.nil _, Below.refl _ _⟩
  · obtain ⟨n, rfl⟩ : ∃ n : Nat, i = n := ⟨i.toNat, by omega⟩
    have hF : firstF l (n : Int) = firstN l n := by unfold firstF; simp
    rw [hF]
    clear hF
    have hlenN : ∀ m, (firstN l m).length ≤ l.length := fun m => by rw [firstN_length]; omega
    have h0 : w.ownsRow w.heap.size 5 1 (.slice none 0 0) 0 (bcs (firstN l (min n (8 * 0)))) := by
      rw [show min n (8 * 0) = 0 by omega, firstN_zero]
      exact World.ownsRow_nil w _ _ _
    go_enter Tryz.func58, Tryz.ntmps58
    go_wp2
    go_loopw [5, 6] (fun v j wr => ∃ (k : Nat) (p5 : Option Addr) (c5 : Nat), k ≤ l.length ∧ j = .int .i64 (8 * (k : Int)) ∧ v = .slice p5 (firstN l (min n (8 * k))).length c5 ∧ wr.ownsRow w.heap.size 5 1 (.slice p5 (firstN l (min n (8 * k))).length c5) (firstN l (min n (8 * k))).length (bcs (firstN l (min n (8 * k)))) ∧ Below w.heap.size w wr)
      (fun _ j _ => 8 * l.length - (intOf j).toNat)
    case atStart => exact ⟨0, none, 0, Nat.zero_le _, rfl, by rw [show min n (8 * 0) = 0 by omega, firstN_zero]; rfl, by simpa [firstN_zero] using h0, Below.refl _ _⟩
    case round =>
      clear h0
      obtain ⟨k, p5, c5, hk, rfl, rfl, hown, hbe⟩ := hrel
      have hsz := hbe.size
      have hlk := hlenN (min n (8 * k))
      have ht : (8 * (k : Int)).tdiv 8 = (k : Int) := by rw [Int.tdiv_eq_ediv_of_nonneg (by omega)]; omega
      by_cases hend : n ≤ 8 * k ∨ l.length ≤ k
      · have HE : Hid (firstN l (min n (8 * k)) = firstN l n) := firstN_end l n k hend
        have hh := HB.of_owns hown
        rw [HE.out] at hh ⊢
        clear hown hlk hlenN
        by_cases hn : n ≤ 8 * k
        · have hd : decide (8 * (k : Int) < (n : Int)) = false := by simp; omega
          go_wp2
          go_ret
          exact ⟨_, _, rfl, hh, hbe⟩
        · have hd : 8 * (k : Int) < (n : Int) := by omega
          have hd2 : (l.length : Int) ≤ (k : Int) := by omega
          go_wp2
          go_ret
          exact ⟨_, _, rfl, hh, hbe⟩
      · have hlt : k < l.length := by omega
        have hd : 8 * (k : Int) < (n : Int) := by omega
        have hd2 : (k : Int) < (l.length : Int) := by omega
        obtain ⟨b, o, rfl, hc⟩ := h.addr (by omega)
        have gx : l[k]? = some l[k] := List.getElem?_eq_getElem hlt
        have cx := cell_later hbe (hc k _ gx)
        have HST := firstN_step l n k _ gx (by omega)
        generalize l[k]'(by omega) = x at *
        have HS : Hid (firstN l (min n (8 * (k + 1))) = firstN l (min n (8 * k)) ++ [firstB x n k]) := HST
        clear HST gx hc h
        unfold bc at cx
        have hx := x.toNat_lt
        generalize firstN l (min n (8 * k)) = F at *
        by_cases h8 : n - 8 * k < 8
        · have HB8 : Hid (firstB x n k = cutB x (n - 8 * k)) := by show firstB x n k = _; unfold firstB; rw [if_pos h8]
          have h8' : (n : Int) - 8 * (k : Int) < 8 := by omega
          have HV : Hid (Value.int .u8 ((x.toNat : Int) / 2 ^ (8 - (n - 8 * k)) * 2 ^ (8 - (n - 8 * k)) % 256) = bc (firstB x n k)) := by
            show Value.int .u8 ((x.toNat : Int) / 2 ^ (8 - (n - 8 * k)) * 2 ^ (8 - (n - 8 * k)) % 256) = bc (firstB x n k)
            rw [HB8.out]
            unfold bc
            rw [cutB_toNat]
            exact congrArg (Value.int .u8) (rcut_calc ⟨x.toNat, hx⟩ ⟨n - 8 * k, h8⟩)
          go_wp2_with (first | (at_builtin; refine wpList_append_own _ rfl (.tmp 40) (.tmp 42) 22 rfl w.heap.size 5 i0 (.int .u8 0) 1 1 Tryz.underlying22 hi hz0 hz1 hz2 rfl (by decide) _ _ _ rfl (hown.alloc _) ⟨wr.heap.size, 0, none⟩ 1 1 [.int .u8 ((x.toNat : Int) / 2 ^ (8 - (n - 8 * k)) * 2 ^ (8 - (n - 8 * k)) % 256)] rfl rfl ?ua ?ub ?uc ?ud ?ue ?_))
          case ua => exact cell_one_new _ _ _
          case ub => intro u hu; simp at hu; subst hu; rfl
          case uc => unfold maxLen; omega
          case ud => omega
          case ue => simp; omega
          intro v6 w6 hown6 hgrow6 _
          have hb6 : Below w.heap.size w w6 := (hbe.alloc hsz _).grown hgrow6 (by simp; omega) (fun k hk => (hown.lt k hk).1)
          rw [HV.out, show bcs F ++ [bc (firstB x n k)] = bcs (F ++ [firstB x n k]) by simp [bcs], ← HS.out] at hown6
          have HFL : Hid (F.length + 1 = (firstN l (min n (8 * (k + 1)))).length) := by show F.length + 1 = _; rw [HS.out]; simp
          rw [HFL.out] at hown6
          obtain ⟨p6, c6, hv6⟩ := owns_shape hown6
          rw [hv6] at hown6 ⊢
          have H6 : Hid (w6.ownsRow w.heap.size 5 1 (.slice p6 (firstN l (min n (8 * (k + 1)))).length c6) (firstN l (min n (8 * (k + 1)))).length (bcs (firstN l (min n (8 * (k + 1)))))) := hown6
          clear hv6 hgrow6 hown hown6 hbe HV HB8 HS HFL hlk cx
          go_wp2
          exact ⟨⟨k + 1, p6, c6, by omega, by go_num, rfl, H6.out, hb6⟩, by simp [intOf]; omega⟩
        · have HB8 : Hid (firstB x n k = x) := by show firstB x n k = _; unfold firstB; rw [if_neg h8]
          have h8' : 8 ≤ (n : Int) - 8 * (k : Int) := by omega
          have HV : Hid (Value.int .u8 ((x.toNat : Int)) = bc (firstB x n k)) := by
            show Value.int .u8 ((x.toNat : Int)) = bc (firstB x n k)
            rw [HB8.out]
            rfl
          go_wp2_with (first | (at_builtin; refine wpList_append_own _ rfl (.tmp 40) (.tmp 42) 22 rfl w.heap.size 5 i0 (.int .u8 0) 1 1 Tryz.underlying22 hi hz0 hz1 hz2 rfl (by decide) _ _ _ rfl (hown.alloc _) ⟨wr.heap.size, 0, none⟩ 1 1 [.int .u8 ((x.toNat : Int))] rfl rfl ?ua ?ub ?uc ?ud ?ue ?_))
          case ua => exact cell_one_new _ _ _
          case ub => intro u hu; simp at hu; subst hu; rfl
          case uc => unfold maxLen; omega
          case ud => omega
          case ue => simp; omega
          intro v6 w6 hown6 hgrow6 _
          have hb6 : Below w.heap.size w w6 := (hbe.alloc hsz _).grown hgrow6 (by simp; omega) (fun k hk => (hown.lt k hk).1)
          rw [HV.out, show bcs F ++ [bc (firstB x n k)] = bcs (F ++ [firstB x n k]) by simp [bcs], ← HS.out] at hown6
          have HFL : Hid (F.length + 1 = (firstN l (min n (8 * (k + 1)))).length) := by show F.length + 1 = _; rw [HS.out]; simp
          rw [HFL.out] at hown6
          obtain ⟨p6, c6, hv6⟩ := owns_shape hown6
          rw [hv6] at hown6 ⊢
          have H6 : Hid (w6.ownsRow w.heap.size 5 1 (.slice p6 (firstN l (min n (8 * (k + 1)))).length c6) (firstN l (min n (8 * (k + 1)))).length (bcs (firstN l (min n (8 * (k + 1)))))) := hown6
          clear hv6 hgrow6 hown hown6 hbe HV HB8 HS HFL hlk cx
          go_wp2
          exact ⟨⟨k + 1, p6, c6, by omega, by go_num, rfl, H6.out, hb6⟩, by simp [intOf]; omega⟩

end Go.Proofs.YtahfjemllkbpgaaGreatDoor

namespace Go.Proofs.YtahfjemllkbpgaaGreatDoor
open Go.RowKit

set_option maxRecDepth 100000 in
set_option maxHeartbeats 400000 in
theorem begins_any (u v : Value) (a b : List UInt8) (n : Int) (w : World) (ha : HB w u a) (hb : HB w v b) (hsz : a.length ≤ 140737488355328) :
    Calls Tryz.prog 41 #[u, v, .int .i64 n] w fun e w' => e = .returned (.bool (decide (n ≤ (com a b : Int)))) ∧ Below w.heap.size w w' := by
  obtain ⟨p, c, rfl⟩ := ha.shape
  obtain ⟨q, d, rfl⟩ := hb.shape
  go_enter Tryz.func41, Tryz.ntmps41
  go_wp2_with fail
  refine (common_any _ _ a b _ ha hb hsz).mono ?_
  rintro e w1 ⟨rfl, hb1⟩
  go_wp2
  go_ret
  exact ⟨rfl, hb1⟩

set_option maxRecDepth 100000 in
set_option maxHeartbeats 1000000 in
theorem rbegins_any (u v : Value) (a b : List UInt8) (n : Int) (w : World) (ha : HB w u a) (hb : HB w v b) (h0 : -9223372036854775808 ≤ n) (h1 : n ≤ 9223372036854775807) (hsz : a.length ≤ 140737488351232) (hsb : b.length ≤ 140737488351232) :
    Calls Tryz.prog 49 #[u, v, .int .i64 n] w fun e w' => e = .returned (.bool (decide (n ≤ (com a b : Int)))) ∧ Below w.heap.size w w' := by
  obtain ⟨p, c, rfl⟩ := ha.shape
  obtain ⟨q, d, rfl⟩ := hb.shape
  have hle := com_le a b
  by_cases hneg : n < 1
  · have e : decide (n ≤ (com a b : Int)) = true := by simp; omega
    rw [e]
    clear e hle
    go_enter Tryz.func49, Tryz.ntmps49
    go_wp2
    go_ret
    exact ⟨rfl, Below.refl _ _⟩
  · obtain ⟨N, rfl⟩ : ∃ N : Nat, n = N := ⟨n.toNat, by omega⟩
    have ht : (N : Int).tdiv 8 = (N : Int) / 8 := Int.tdiv_eq_ediv_of_nonneg (by omega)
    have hd1 : decide ((N : Int) < 1) = false := by simp; omega
    by_cases hA : (N : Int) / 8 ≤ (a.length : Int)
    · by_cases hB : (N : Int) ≤ 8 * (a.length : Int)
      · by_cases hC : (N : Int) ≤ 8 * (b.length : Int)
        · have hiff := begins_iff a b N (by omega) (by omega)
          have hla : (firstF a (N : Int)).length ≤ 140737488351232 := by unfold firstF; rw [firstN_length]; omega
          have e : decide ((N : Int) ≤ (com a b : Int)) = decide ((N : Int) ≤ (com (firstF a (N : Int)) (firstF b (N : Int)) : Int)) := by
            unfold firstF
            simp only [Int.toNat_natCast]
            have h2 : ((N : Int) ≤ (com a b : Int)) ↔ ((N : Int) ≤ (com (firstN a N) (firstN b N) : Int)) := by omega
            simp only [h2]
          rw [e]
          clear e hiff hle
          obtain ⟨Z, hZ⟩ : ∃ Z, Z = com (firstF a (N : Int)) (firstF b (N : Int)) := ⟨_, rfl⟩
          rw [← hZ]
          have HZ : Hid (Z = com (firstF a (N : Int)) (firstF b (N : Int))) := hZ
          clear hZ
          go_enter Tryz.func49, Tryz.ntmps49
          go_wp2_with fail
          refine (rfirst_any _ a N _ ha h0 h1 hsz).mono ?_
          rintro e w1 ⟨p1, c1, rfl, k1, hb1⟩
          go_wp2_with fail
          refine (rfirst_any _ b N _ (hb.later hb1) h0 h1 hsb).mono ?_
          rintro e w2 ⟨p2, c2, rfl, k2, hb2⟩
          have hb02 := hb1.trans (hb2.mono hb1.size)
          go_wp2_with fail
          refine (rcommon_any _ _ _ _ _ (k1.later hb2) k2 (by omega)).mono ?_
          rintro e w3 ⟨rfl, rfl⟩
          rw [← HZ.out]
          go_wp2
          go_ret
          refine ⟨congrArg (fun z => Ending.returned (Value.bool z)) ?_, hb02⟩
          simp
        · have e : decide ((N : Int) ≤ (com a b : Int)) = false := by simp; omega
          rw [e]
          have hd2 : decide ((N : Int) ≤ 8 * (b.length : Int)) = false := by simp; omega
          clear e hle
          go_enter Tryz.func49, Tryz.ntmps49
          go_wp2
          go_ret
          exact ⟨rfl, Below.refl _ _⟩
      · have e : decide ((N : Int) ≤ (com a b : Int)) = false := by simp; omega
        rw [e]
        have hd2 : decide ((N : Int) ≤ 8 * (a.length : Int)) = false := by simp; omega
        clear e hle
        go_enter Tryz.func49, Tryz.ntmps49
        go_wp2
        go_ret
        exact ⟨rfl, Below.refl _ _⟩
    · have e : decide ((N : Int) ≤ (com a b : Int)) = false := by simp; omega
      rw [e]
      have hd2 : decide ((N : Int) / 8 ≤ (a.length : Int)) = false := by simp; omega
      clear e hle
      go_enter Tryz.func49, Tryz.ntmps49
      go_wp2
      go_ret
      exact ⟨rfl, Below.refl _ _⟩

/-- Where all that begin with a prefix's first n bits stand of a row. -/
def sideF (p : List UInt8) (n : Int) (b : List UInt8) : Int := if n ≤ (com p b : Int) ∨ com p b = 8 * min p.length b.length then 0 else 2 * bitN p (com p b) - 1

theorem bit_nat (v : Value) (l : List UInt8) (n : Nat) (w : World) (h : HB w v l) (hn : n ≤ 9223372036854775807) :
    Calls Tryz.prog 54 #[v, .int .i64 (n : Int)] w fun e w' => e = .returned (.int .i64 (bitN l n)) ∧ w' = w := by
  have := bit_any v l (n : Int) w h (by omega) (by omega)
  rwa [bitF_nat] at this

end Go.Proofs.YtahfjemllkbpgaaGreatDoor

namespace Go.Proofs.YtahfjemllkbpgaaGreatDoor
open Go.RowKit

theorem keyF_eq (l : List UInt8) (n : Nat) (hn : n = min l.length 255) : keyF l = UInt8.ofNat n :: l.take n := by
  unfold keyF
  rw [← hn]
  congr 1
  by_cases h : l.length ≤ 255
  · rw [List.take_of_length_le h, List.take_of_length_le (by omega)]
  · rw [show n = 255 by omega]

set_option maxRecDepth 100000 in
set_option maxHeartbeats 1000000 in
theorem key_any (v : Value) (l : List UInt8) (w : World) (h : HB w v l) :
    Calls Tryz.prog 21 #[v] w fun e w' => ∃ p c, e = .returned (.slice p (keyF l).length c) ∧ HB w' (.slice p (keyF l).length c) (keyF l) ∧ Below w.heap.size w w' := by
  obtain ⟨p, c, rfl⟩ := h.shape
  obtain ⟨n, hn⟩ : ∃ n, n = min l.length 255 := ⟨_, rfl⟩
  have hl := h.len.2
  unfold maxLen at hl
  have k1 := fun w => run_upto (P := Tryz.prog) Tryz.underlying22 s_u8 p l.length c n (n : Int) rfl (by omega) w
  have hf := h.front n (by omega)
  have hmin : min (l.length : Int) 255 = (n : Int) := by omega
  have hn255 : n ≤ 255 := by omega
  have HK : Hid (keyF l = UInt8.ofNat n :: l.take n) := keyF_eq l n hn
  have HL : Hid ((l.take n).length = n) := by show (l.take n).length = n; rw [List.length_take]; omega
  obtain ⟨i0, hi, hz0, hz1, hz2⟩ := info_parts i_u8
  have k2 : ∀ w' : World, (Instr.slice 22 (.slice (some ⟨w.heap.size, 0, none⟩) (1 + n) (1 + n)) (some (.int .i64 1)) none none).run Tryz.prog w' = .ok (.slice (cutP (some ⟨w.heap.size, 0, none⟩) (1 + n) 1) n n) w' := by
    intro w'
    have := run_cut (P := Tryz.prog) Tryz.underlying22 s_u8 (some ⟨w.heap.size, 0, none⟩) (1 + n) (1 + n) 1 1 rfl (by omega) w'
    simpa using this
  clear hn h hl
  go_enter Tryz.func21, Tryz.ntmps21
  go_wp2_with (at_make; refine wpList_make_full _ rfl _ _ 22 rfl w.heap.size 5 i0 (.int .u8 0) 1 Tryz.underlying22 hi hz0 hz1 .i64 .i64 _ _ (1 + n) rfl rfl ?qa ?qb ?qc ?qd ?qe ?_)
  all_goals (try (first | omega | (unfold maxLen; omega) | (rw [hz2]; omega)))
  intro w1 hown1 hgrow1
  have hb1 : Below w.heap.size w w1 := (Below.refl _ w).grown hgrow1 (Nat.le_refl _) (by intro k hk; cases hk)
  have hown1' : w1.ownsRow w.heap.size 5 1 (.slice (some ⟨w.heap.size, 0, none⟩) (1 + n) (1 + n)) (1 + n) (bcs (List.replicate (1 + n) 0)) := by
    rw [← made_bcs]
    simpa using hown1
  have q1 : w1.cell? ⟨w.heap.size, 0, none⟩ = some (.int .u8 0) := by
    rw [hown1'.cellAt 0 (by omega), bcs_get, Nat.add_comm 1 n, List.replicate_succ]
    rfl
  have qf := hown1'.frozenAt 0
  have hs1 := hf.later hb1
  have hownS := owns_put hown1' 0 (UInt8.ofNat n) (.int .u8 (n : Int)) (by simp [bc]; omega)
  have hbS : Below w.heap.size w (w1.setCell ⟨w.heap.size, 0, none⟩ (.int .u8 (n : Int))) := hb1.setCell (Nat.le_refl _) _
  have hsS := hf.later hbS
  clear hown1 hgrow1 hs1 hown1'
  go_wp2_with (refine wpList_copy_at rfl (.tmp 19) (.tmp 20) 22 22 rfl 5 Tryz.underlying22 s_u8 w.heap.size (1 + n) 1 _ _ n n _ rfl ?ra rfl w.heap.size _ hownS _ hsS rfl ?_)
  case ra => intro h0; unfold cutP; rw [if_neg (by omega)]; simp [Addr.add_lit]
  intro w2 hown2 hgrow2
  have hb2 : Below w.heap.size w w2 := hbS.grown hgrow2 hbS.size (by intro k hk; cases hk; exact Nat.le_refl _)
  clear hownS hgrow2 hsS hbS hb1 q1 qf
  have hh : HB w2 (.slice (some ⟨w.heap.size, 0, none⟩) (1 + n) (1 + n)) (keyF l) := by
    have := HB.of_owns hown2
    rw [HK.out]
    rw [Nat.add_comm 1 n, List.replicate_succ, List.set_cons_zero] at this
    rw [Nat.add_comm 1 n]
    simpa using this
  have HLK : Hid (1 + n = (keyF l).length) := hh.len.1
  clear hown2
  go_wp2
  go_ret
  refine ⟨some ⟨w.heap.size, 0, none⟩, 1 + n, ?_, ?_, hb2⟩
  · rw [← HLK.out]; rfl
  · rw [← HLK.out]; exact hh

set_option maxRecDepth 100000 in
set_option maxHeartbeats 1000000 in
theorem rkey_any (v : Value) (l : List UInt8) (w : World) (h : HB w v l) :
    Calls Tryz.prog 24 #[v] w fun e w' => ∃ p c, e = .returned (.slice p (keyF l).length c) ∧ HB w' (.slice p (keyF l).length c) (keyF l) ∧ Below w.heap.size w w' := by
  obtain ⟨p, c, rfl⟩ := h.shape
  obtain ⟨n, hn⟩ : ∃ n, n = min l.length 255 := ⟨_, rfl⟩
  have hl := h.len.2
  unfold maxLen at hl
  have k1 := fun w => run_upto (P := Tryz.prog) Tryz.underlying22 s_u8 p l.length c n (n : Int) rfl (by omega) w
  have hf := h.front n (by omega)
  have hmin : min (l.length : Int) 255 = (n : Int) := by omega
  have hn255 : n ≤ 255 := by omega
  have HK : Hid (keyF l = UInt8.ofNat n :: l.take n) := keyF_eq l n hn
  have hown0 : (w.alloc (.cells #[.int .u8 (n : Int)] 5)).ownsRow w.heap.size 5 1 (.slice (some ⟨w.heap.size, 0, none⟩) 1 1) 1 (bcs [UInt8.ofNat n]) := by
    have e : bcs [UInt8.ofNat n] = [.int .u8 (n : Int)] := by simp [bcs, bc]; omega
    rw [e]
    exact ⟨rfl, .inr ⟨w.heap.size, 1, #[.int .u8 (n : Int)], rfl, Nat.le_refl _, heap_alloc_new w _, Nat.le_refl _, by unfold maxLen; omega, rfl, rfl⟩⟩
  have hb0 : Below w.heap.size w (w.alloc (.cells #[.int .u8 (n : Int)] 5)) := (Below.refl _ w).alloc (Nat.le_refl _) _
  have hf0 := hf.later hb0
  clear hn h hl
  go_enter Tryz.func24, Tryz.ntmps24
  go_wp2_with (at_builtin; refine wpList_append_hb rfl (.tmp 9) (.tmp 12) 22 rfl w.heap.size 5 Tryz.underlying22 i_u8 _ _ _ rfl hown0 _ _ _ _ rfl hf0 ?sa ?sb ?_)
  case sa => omega
  case sb => simp
  intro w2v w2 hown2 hgrow2
  have hb2 : Below w.heap.size w w2 := hb0.grown hgrow2 hb0.size (by intro k hk; cases hk; exact Nat.le_refl _)
  have hh : HB w2 w2v (keyF l) := by
    rw [← bcs_append] at hown2
    have := HB.of_owns hown2
    rw [HK.out]
    exact this
  obtain ⟨p2, c2, rfl⟩ := hh.shape
  clear hown2 hgrow2 hf0 hown0
  go_wp2
  go_ret
  exact ⟨p2, c2, rfl, hh, hb2⟩

end Go.Proofs.YtahfjemllkbpgaaGreatDoor
