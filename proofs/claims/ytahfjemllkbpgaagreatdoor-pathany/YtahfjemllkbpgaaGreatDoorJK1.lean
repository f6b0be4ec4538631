/- What this text proves: the walk of bits.Bit over this program: bit i of bytes, -1 if there is none; the world stays. What this text proves: the walks of math/bits' Len8 and LeadingZeros8 over this program: how many noughts a byte begins with. What this text proves: the walk of bits.Common over this program: how many first bits two rows of bytes have in common; what was there stays. What this text proves: the walk of annalsref03.Bit over this program: bit i of bytes, -1 if there is none; the world stays. What this text proves: the walk of the document's Common (annalsref03) over this program: how many first bits two rows of bytes have in common; the world stays. -/
import Derived.Test.YtahfjemllkbpgaaGreatDoorEqual
import Derived.Test.YtahfjemllkbpgaaGreatDoorBitsPlain
import Derived.BigQuiet
import Derived.Test.YtahfjemllkbpgaaGreatDoorOwn
import Derived.Lib.MinMax
namespace Go.Proofs.YtahfjemllkbpgaaGreatDoor
open Go.RowKit

theorem bit_calc : ∀ n : Fin 256, ∀ k : Fin 8, bits BinOp.and IntKind.i64 (wrap64 ((n.val : Int) / 2 ^ (7 - k.val))) 1 = ((n.val.testBit (7 - k.val)).toNat : Int) := by decide +kernel

set_option maxRecDepth 100000 in
set_option maxHeartbeats 400000 in
theorem bit_any (v : Value) (l : List UInt8) (i : Int) (w : World) (h : HB w v l) (h0 : -9223372036854775808 ≤ i) (h1 : i ≤ 9223372036854775807) :
    Calls Tryz.prog 54 #[v, .int .i64 i] w fun e w' => e = .returned (.int .i64 (bitF l i)) ∧ w' = w := by
  obtain ⟨p, c, rfl⟩ := h.shape
  by_cases hneg : i < 0
  · have e : bitF l i = -1 := by unfold bitF; rw [if_pos hneg]
    rw [e]
    clear h e
    go_enter Tryz.func54, Tryz.ntmps54
    go_wp2
    go_ret
    exact ⟨rfl, rfl⟩
  · by_cases hge : (l.length : Int) ≤ i / 8
    · have e : bitF l i = -1 := by unfold bitF; rw [if_neg hneg, bitN_none (by omega)]
      rw [e]
      clear h e
      have ht : i.tdiv 8 = i / 8 := Int.tdiv_eq_ediv_of_nonneg (by omega)
      go_enter Tryz.func54, Tryz.ntmps54
      go_wp2
      go_ret
      exact ⟨rfl, rfl⟩
    · have hk : i.toNat / 8 < l.length := by omega
      obtain ⟨b', o, rfl, hc⟩ := h.addr (by omega)
      have hcell := hc (i.toNat / 8) l[i.toNat / 8] (List.getElem?_eq_getElem hk)
      have e : bitF l i = ((l[i.toNat / 8].toNat.testBit (7 - i.toNat % 8)).toNat : Int) := by unfold bitF; rw [if_neg hneg, bitN_some (List.getElem?_eq_getElem hk)]
      rw [e]
      generalize l[i.toNat / 8] = x at hcell ⊢
      have hx := x.toNat_lt
      unfold bc at hcell
      obtain ⟨n, rfl⟩ : ∃ n : Nat, i = n := ⟨i.toNat, by omega⟩
      simp only [Int.toNat_natCast] at hcell hk ⊢
      clear h hc e
      go_enter Tryz.func54, Tryz.ntmps54
      go_wp2
      go_ret
      refine ⟨congrArg (fun z => Ending.returned (Value.int .i64 z)) ?_, rfl⟩
      exact bit_calc ⟨x.toNat, hx⟩ ⟨n % 8, by omega⟩

end Go.Proofs.YtahfjemllkbpgaaGreatDoor

namespace Go.Proofs.YtahfjemllkbpgaaGreatDoor
open Go.RowKit

theorem len8_at (x : UInt8) (h : x.toNat < Lib.len8tab.size) : wrap64 ((Lib.len8tab[x.toNat]'h).toNat : Int) = (Lib.bitLen x.toNat : Int) := by
  have hx := x.toNat_lt
  have e := Lib.len8_eq ⟨x.toNat, hx⟩
  have hle : Lib.bitLen x.toNat ≤ 8 := Lib.bitLen_le8 ⟨x.toNat, hx⟩
  unfold Lib.len8 at e
  simp only [Int.toNat_natCast] at e
  rw [getElem?_pos Lib.len8tab x.toNat h] at e
  simp only [Option.getD_some] at e
  rw [e]
  unfold wrap64
  omega

set_option maxRecDepth 100000 in
set_option maxHeartbeats 4000000 in
theorem len8_any (x : UInt8) (w : World) :
    Calls Tryz.prog 113 #[.int .u8 (x.toNat : Int)] w fun e w' => e = .returned (.int .i64 (Lib.bitLen x.toNat : Int)) ∧ w' = w := by
  have hx := x.toNat_lt
  go_enter Tryz.func113, Tryz.ntmps113
  go_wp2
  go_ret
  refine ⟨congrArg (fun z => Ending.returned (Value.int .i64 z)) ?_, rfl⟩
  exact len8_at x _

set_option maxRecDepth 100000 in
set_option maxHeartbeats 400000 in
theorem lz8_any (x : UInt8) (w : World) :
    Calls Tryz.prog 108 #[.int .u8 (x.toNat : Int)] w fun e w' => e = .returned (.int .i64 (lz x : Int)) ∧ w' = w := by
  have hx := x.toNat_lt
  have hle : Lib.bitLen x.toNat ≤ 8 := Lib.bitLen_le8 ⟨x.toNat, hx⟩
  have e : (lz x : Int) = 8 - (Lib.bitLen x.toNat : Int) := by unfold lz; omega
  rw [e]
  clear e
  go_enter Tryz.func108, Tryz.ntmps108
  go_wp2_with fail
  refine (len8_any x w).mono ?_
  rintro e w1 ⟨rfl, rfl⟩
  have hle : (Lib.bitLen x.toNat : Int) ≤ 8 := by omega
  go_wp2
  go_ret
  exact ⟨rfl, rfl⟩

end Go.Proofs.YtahfjemllkbpgaaGreatDoor

namespace Go.Proofs.YtahfjemllkbpgaaGreatDoor
open Go.RowKit

theorem b_xor8 (a b : Nat) (ha : a < 256) (hb : b < 256) : bits .xor .u8 (a : Int) (b : Int) = ((a ^^^ b : Nat) : Int) := by
  have h := Nat.xor_lt_two_pow (n := 8) ha hb
  have ha' : a % 2 ^ IntKind.u8.bits = a := Nat.mod_eq_of_lt ha
  have hb' : b % 2 ^ IntKind.u8.bits = b := Nat.mod_eq_of_lt hb
  simp only [bits, BitVec.ofInt_natCast, BitVec.toNat_xor, BitVec.toNat_ofNat, ha', hb']
  rw [IntKind.wrap_u8]
  omega

theorem drop_at {l : List UInt8} {k : Nat} {x : UInt8} (h : l[k]? = some x) : l.drop k = x :: l.drop (k + 1) := by
  obtain ⟨hk, rfl⟩ := List.getElem?_eq_some_iff.1 h
  exact List.drop_eq_getElem_cons hk

theorem com_next (a b : List UInt8) (k : Nat) (x y : UInt8) (hx : a[k]? = some x) (hy : b[k]? = some y) : com (a.drop k) (b.drop k) = if x = y then 8 + com (a.drop (k + 1)) (b.drop (k + 1)) else lz (x ^^^ y) := by
  rw [drop_at hx, drop_at hy, com_cons]

set_option maxRecDepth 100000 in
set_option maxHeartbeats 1000000 in
theorem common_any (u v : Value) (a b : List UInt8) (w : World) (ha : HB w u a) (hb : HB w v b) (hsz : a.length ≤ 140737488355328) :
    Calls Tryz.prog 81 #[u, v] w fun e w' => e = .returned (.int .i64 (com a b : Int)) ∧ Below w.heap.size w w' := by
  obtain ⟨p, c, rfl⟩ := ha.shape
  obtain ⟨q, d, rfl⟩ := hb.shape
  obtain ⟨n, hn⟩ : ∃ n, n = min a.length b.length := ⟨_, rfl⟩
  have hmin : min (a.length : Int) (b.length : Int) = (n : Int) := by omega
  have hna : n ≤ a.length := by omega
  have hnb : n ≤ b.length := by omega
  have hnn : (n : Int) ≤ 140737488355328 := by omega
  have hstop : com (a.drop n) (b.drop n) = 0 := by
    rcases Nat.le_total a.length b.length with h | h
    · rw [List.drop_eq_nil_of_le (by omega)]; simp [com]
    · rw [show b.drop n = [] from List.drop_eq_nil_of_le (by omega)]; cases a.drop n <;> simp [com]
  have HS : Hid (com (a.drop n) (b.drop n) = 0) := hstop
  clear hstop hn
  go_enter Tryz.func81, Tryz.ntmps81
  go_wp2
  go_loopw [13] (fun i wr => ∃ k : Nat, k ≤ n ∧ i = .int .i64 k ∧ com a b = 8 * k + com (a.drop k) (b.drop k) ∧ Below w.heap.size w wr)
    (fun i _ => n - (intOf i).toNat)
  case atStart => exact ⟨0, Nat.zero_le _, rfl, by simp, Below.refl _ _⟩
  case round =>
    obtain ⟨k, hk, rfl, hck, hbe⟩ := hrel
    have HC : Hid (com a b = 8 * k + com (a.drop k) (b.drop k)) := hck
    clear hck
    by_cases hlt : k < n
    · obtain ⟨ba, oa, rfl, hca⟩ := ha.addr (by omega)
      obtain ⟨bb, ob, rfl, hcb⟩ := hb.addr (by omega)
      have gx : a[k]? = some a[k] := List.getElem?_eq_getElem (by omega)
      have gy : b[k]? = some b[k] := List.getElem?_eq_getElem (by omega)
      have cx := cell_later hbe (hca k _ gx)
      have cy := cell_later hbe (hcb k _ gy)
      have HN := com_next a b k _ _ gx gy
      generalize a[k]'(by omega) = x at *
      generalize b[k]'(by omega) = y at *
      have HN2 : Hid (com (a.drop k) (b.drop k) = if x = y then 8 + com (a.drop (k + 1)) (b.drop (k + 1)) else lz (x ^^^ y)) := HN
      clear HN gx gy hca hcb ha hb
      unfold bc at cx cy
      have hx := x.toNat_lt
      have hy := y.toNat_lt
      by_cases he : x = y
      · subst he
        go_wp2
        go_quiet (fail)
        go_wp2
        have e1 := HC.out
        have e2 : com (a.drop k) (b.drop k) = 8 + com (a.drop (k + 1)) (b.drop (k + 1)) := by have := HN2.out; rwa [if_pos trivial] at this
        exact ⟨⟨k + 1, by omega, by go_num, by omega, below_drewN hbe _⟩, by simp [intOf]; omega⟩
      · have hxor : bits .xor .u8 (x.toNat : Int) (y.toNat : Int) = ((x ^^^ y).toNat : Int) := by rw [b_xor8 _ _ hx hy, UInt8.toNat_xor]
        have hz8 : (lz (x ^^^ y) : Int) ≤ 8 := by have := lz_le (x ^^^ y); omega
        have hlz := lz8_any (x ^^^ y)
        have hne : ¬ ((x.toNat : Int) = (y.toNat : Int)) := fun e => he (UInt8.toNat_inj.1 (by omega))
        have HE : Hid (com a b = 8 * k + lz (x ^^^ y)) := by
          show com a b = 8 * k + lz (x ^^^ y)
          rw [HC.out, HN2.out, if_neg he]
        have hka : (k : Int) < (a.length : Int) := by omega
        have hkb : (k : Int) < (b.length : Int) := by omega
        clear HC HN2 he
        go_wp2
        go_quiet (fail)
        have cx2 : (wr.drewN nq).cell? ⟨ba, oa + k, none⟩ = some (.int .u8 (x.toNat : Int)) := cx
        have cy2 : (wr.drewN nq).cell? ⟨bb, ob + k, none⟩ = some (.int .u8 (y.toNat : Int)) := cy
        have hbe2 := below_drewN hbe nq
        clear cx cy hbe
        generalize wr.drewN nq = w2 at *
        go_wp2
        go_quiet (first | (go_at_call 108; exact Calls.quiet_of ((hlz _).mono fun e w' ⟨he, hw⟩ => ⟨he, 0, hw⟩)))
        go_wp2
        go_ret
        refine ⟨congrArg (fun z => Ending.returned (Value.int .i64 z)) ?_, below_drewN hbe2 _⟩
        have := HE.out
        omega
    · have hkn : k = n := by omega
      subst hkn
      go_wp2
      go_ret
      refine ⟨congrArg (fun z => Ending.returned (Value.int .i64 z)) ?_, hbe⟩
      have := HC.out
      have := HS.out
      omega

end Go.Proofs.YtahfjemllkbpgaaGreatDoor

namespace Go.Proofs.YtahfjemllkbpgaaGreatDoor
open Go.RowKit

set_option maxRecDepth 100000 in
set_option maxHeartbeats 400000 in
theorem rbit_any (v : Value) (l : List UInt8) (i : Int) (w : World) (h : HB w v l) (h0 : -9223372036854775808 ≤ i) (h1 : i ≤ 9223372036854775807) :
    Calls Tryz.prog 34 #[v, .int .i64 i] w fun e w' => e = .returned (.int .i64 (bitF l i)) ∧ w' = w := by
  obtain ⟨p, c, rfl⟩ := h.shape
  by_cases hneg : i < 0
  · have e : bitF l i = -1 := by unfold bitF; rw [if_pos hneg]
    rw [e]
    clear h e
    go_enter Tryz.func34, Tryz.ntmps34
    go_wp2
    go_ret
    exact ⟨rfl, rfl⟩
  · by_cases hge : (l.length : Int) ≤ i / 8
    · have e : bitF l i = -1 := by unfold bitF; rw [if_neg hneg, bitN_none (by omega)]
      rw [e]
      clear h e
      have ht : i.tdiv 8 = i / 8 := Int.tdiv_eq_ediv_of_nonneg (by omega)
      go_enter Tryz.func34, Tryz.ntmps34
      go_wp2
      go_ret
      exact ⟨rfl, rfl⟩
    · have hk : i.toNat / 8 < l.length := by omega
      obtain ⟨b', o, rfl, hc⟩ := h.addr (by omega)
      have hcell := hc (i.toNat / 8) l[i.toNat / 8] (List.getElem?_eq_getElem hk)
      have e : bitF l i = ((l[i.toNat / 8].toNat.testBit (7 - i.toNat % 8)).toNat : Int) := by unfold bitF; rw [if_neg hneg, bitN_some (List.getElem?_eq_getElem hk)]
      rw [e]
      generalize l[i.toNat / 8] = x at hcell ⊢
      have hx := x.toNat_lt
      unfold bc at hcell
      obtain ⟨n, rfl⟩ : ∃ n : Nat, i = n := ⟨i.toNat, by omega⟩
      simp only [Int.toNat_natCast] at hcell hk ⊢
      clear h hc e
      go_enter Tryz.func34, Tryz.ntmps34
      go_wp2
      go_ret
      refine ⟨congrArg (fun z => Ending.returned (Value.int .i64 z)) ?_, rfl⟩
      exact bit_calc ⟨x.toNat, hx⟩ ⟨n % 8, by omega⟩

end Go.Proofs.YtahfjemllkbpgaaGreatDoor

namespace Go.Proofs.YtahfjemllkbpgaaGreatDoor
open Go.RowKit

theorem bitF_nat (l : List UInt8) (n : Nat) : bitF l (n : Int) = bitN l n := by
  unfold bitF
  rw [if_neg (by omega)]
  simp

theorem rbit_nat (v : Value) (l : List UInt8) (n : Nat) (w : World) (h : HB w v l) (hn : n ≤ 9223372036854775807) :
    Calls Tryz.prog 34 #[v, .int .i64 (n : Int)] w fun e w' => e = .returned (.int .i64 (bitN l n)) ∧ w' = w := by
  have := rbit_any v l (n : Int) w h (by omega) (by omega)
  rwa [bitF_nat] at this

set_option maxRecDepth 100000 in
set_option maxHeartbeats 1000000 in
theorem rcommon_any (u v : Value) (a b : List UInt8) (w : World) (ha : HB w u a) (hb : HB w v b) (hsz : a.length ≤ 140737488355328) :
    Calls Tryz.prog 77 #[u, v] w fun e w' => e = .returned (.int .i64 (com a b : Int)) ∧ w' = w := by
  obtain ⟨p, c, rfl⟩ := ha.shape
  obtain ⟨q, d, rfl⟩ := hb.shape
  have hcl := (com_le a b).1
  have htest := com_test a b
  obtain ⟨N, hN⟩ : ∃ N, N = com a b := ⟨_, rfl⟩
  rw [← hN] at hcl htest ⊢
  clear hN
  have kA : ∀ n : Nat, n ≤ N → Calls Tryz.prog 34 #[.slice p a.length c, .int .i64 (n : Int)] w fun e w' => e = .returned (.int .i64 (bitN a n)) ∧ w' = w := fun n hn => rbit_nat _ a n w ha (by omega)
  have kB : ∀ n : Nat, n ≤ N → Calls Tryz.prog 34 #[.slice q b.length d, .int .i64 (n : Int)] w fun e w' => e = .returned (.int .i64 (bitN b n)) ∧ w' = w := fun n hn => rbit_nat _ b n w hb (by omega)
  clear ha hb
  go_enter Tryz.func77, Tryz.ntmps77
  go_wp2
  go_loopw [5] (fun i wr => ∃ k : Nat, k ≤ N ∧ i = .int .i64 k ∧ w = wr) (fun i _ => N - (intOf i).toNat)
  case atStart => exact ⟨0, Nat.zero_le _, rfl, rfl⟩
  case round =>
    obtain ⟨k, hk, rfl, rfl⟩ := hrel
    have hA := kA k hk
    have hB := kB k hk
    have ht := htest k hk
    clear kA kB htest
    generalize bitN a k = A at *
    generalize bitN b k = B at *
    by_cases h0 : 0 ≤ A
    · by_cases hE : A = B
      · subst hE
        have hlt : k < N := ht.1 ⟨h0, rfl⟩
        clear ht
        go_wp2_with (first | (go_at_call_of 34 (Value.slice p a.length c); refine hA.mono ?_; rintro e w1 ⟨rfl, hw⟩; subst hw) | (go_at_call_of 34 (Value.slice q b.length d); refine hB.mono ?_; rintro e w1 ⟨rfl, hw⟩; subst hw))
        exact ⟨⟨k + 1, by omega, by go_num, trivial⟩, by simp [intOf]; omega⟩
      · have hkN : Hid (k = N) := by
          have := fun h => hE (ht.2 h).2
          show k = N
          omega
        clear ht hk
        go_wp2_with (first | (go_at_call_of 34 (Value.slice p a.length c); refine hA.mono ?_; rintro e w1 ⟨rfl, hw⟩; subst hw) | (go_at_call_of 34 (Value.slice q b.length d); refine hB.mono ?_; rintro e w1 ⟨rfl, hw⟩; subst hw))
        go_ret
        exact ⟨by rw [← hkN.out]; rfl, rfl⟩
    · have hkN : Hid (k = N) := by
        have := fun h => h0 (ht.2 h).1
        show k = N
        omega
      have hd : decide (0 ≤ A) = false := by simpa using h0
      clear ht hk
      go_wp2_with (first | (go_at_call_of 34 (Value.slice p a.length c); refine hA.mono ?_; rintro e w1 ⟨rfl, hw⟩; subst hw) | (go_at_call_of 34 (Value.slice q b.length d); refine hB.mono ?_; rintro e w1 ⟨rfl, hw⟩; subst hw))
      go_ret
      exact ⟨by rw [← hkN.out]; rfl, rfl⟩

end Go.Proofs.YtahfjemllkbpgaaGreatDoor
