/- What this text proves: the walk of bits.Common over this program: how many first bits two rows of bytes have in common; what was there stays. -/
import Derived.Test.YthbkkddfklbhlaaLz8
import Derived.Test.YthbkkddfklbhlaaOwn
import Derived.Lib.MinMax
import Derived.BigQuiet
namespace Go.Proofs.Ythbkkddfklbhlaa
open Go.RowKit

theorem b_xor8 (a b : Nat) (ha : a < 256) (hb : b < 256) : bits .xor .u8 (a : Int) (b : Int) = ((a ^^^ b : Nat) : Int) := by
  have h := Nat.xor_lt_two_pow (n := 8) ha hb
  have ha' : a % 2 ^ IntKind.u8.bits = a := Nat.mod_eq_of_lt ha
  have hb' : b % 2 ^ IntKind.u8.bits = b := Nat.mod_eq_of_lt hb
  simp only [bits, BitVec.ofInt_natCast, BitVec.toNat_xor, BitVec.toNat_ofNat, ha', hb']
  rw [IntKind.wrap_u8]
  omega

theorem drop_at {l : List UInt8} {k : Nat} {x : UInt8} (h : l[k]? = some x) : l.drop k = x :: l.drop (k + 1) := by
  obtain ⟨hk, rfl⟩ := List.getElem?_eq_some_iff.1 h
  exact List.drop_eq_getElem_cons hk

theorem com_next (a b : List UInt8) (k : Nat) (x y : UInt8) (hx : a[k]? = some x) (hy : b[k]? = some y) : com (a.drop k) (b.drop k) = if x = y then 8 + com (a.drop (k + 1)) (b.drop (k + 1)) else lz (x ^^^ y) := by
  rw [drop_at hx, drop_at hy, com_cons]

set_option maxHeartbeats 1000000 in
theorem common_any (u v : Value) (a b : List UInt8) (w : World) (ha : HB w u a) (hb : HB w v b) (hsz : a.length ≤ 140737488355328) :
    Calls Try.prog 20 #[u, v] w fun e w' => e = .returned (.int .i64 (com a b : Int)) ∧ Below w.heap.size w w' := by
  obtain ⟨p, c, rfl⟩ := ha.shape
  obtain ⟨q, d, rfl⟩ := hb.shape
  obtain ⟨n, hn⟩ : ∃ n, n = min a.length b.length := ⟨_, rfl⟩
  have hmin : min (a.length : Int) (b.length : Int) = (n : Int) := by omega
  have hna : n ≤ a.length := by omega
  have hnb : n ≤ b.length := by omega
  have hnn : (n : Int) ≤ 140737488355328 := by omega
  have hstop : com (a.drop n) (b.drop n) = 0 := by
    rcases Nat.le_total a.length b.length with h | h
    · rw [List.drop_eq_nil_of_le (by omega)]; simp [com]
    · rw [show b.drop n = [] from List.drop_eq_nil_of_le (by omega)]; cases a.drop n <;> simp [com]
  have HS : Hid (com (a.drop n) (b.drop n) = 0) := hstop
  clear hstop hn
  go_enter Try.func20, Try.ntmps20
  go_wp2
  go_loopw [13] (fun i wr => ∃ k : Nat, k ≤ n ∧ i = .int .i64 k ∧ com a b = 8 * k + com (a.drop k) (b.drop k) ∧ Below w.heap.size w wr)
    (fun i _ => n - (intOf i).toNat)
  case atStart => exact ⟨0, Nat.zero_le _, rfl, by simp, Below.refl _ _⟩
  case round =>
    obtain ⟨k, hk, rfl, hck, hbe⟩ := hrel
    have HC : Hid (com a b = 8 * k + com (a.drop k) (b.drop k)) := hck
    clear hck
    by_cases hlt : k < n
    · obtain ⟨ba, oa, rfl, hca⟩ := ha.addr (by omega)
      obtain ⟨bb, ob, rfl, hcb⟩ := hb.addr (by omega)
      have gx : a[k]? = some a[k] := List.getElem?_eq_getElem (by omega)
      have gy : b[k]? = some b[k] := List.getElem?_eq_getElem (by omega)
      have cx := cell_later hbe (hca k _ gx)
      have cy := cell_later hbe (hcb k _ gy)
      have HN := com_next a b k _ _ gx gy
      generalize a[k]'(by omega) = x at *
      generalize b[k]'(by omega) = y at *
      have HN2 : Hid (com (a.drop k) (b.drop k) = if x = y then 8 + com (a.drop (k + 1)) (b.drop (k + 1)) else lz (x ^^^ y)) := HN
      clear HN gx gy hca hcb ha hb
      unfold bc at cx cy
      have hx := x.toNat_lt
      have hy := y.toNat_lt
      by_cases he : x = y
      · subst he
        go_wp2
        go_quiet (fail)
        go_wp2
        have e1 := HC.out
        have e2 : com (a.drop k) (b.drop k) = 8 + com (a.drop (k + 1)) (b.drop (k + 1)) := by have := HN2.out; rwa [if_pos trivial] at this
        exact ⟨⟨k + 1, by omega, by go_num, by omega, below_drewN hbe _⟩, by simp [intOf]; omega⟩
      · have hxor : bits .xor .u8 (x.toNat : Int) (y.toNat : Int) = ((x ^^^ y).toNat : Int) := by rw [b_xor8 _ _ hx hy, UInt8.toNat_xor]
        have hz8 : (lz (x ^^^ y) : Int) ≤ 8 := by have := lz_le (x ^^^ y); omega
        have hlz := lz8_any (x ^^^ y)
        have hne : ¬ ((x.toNat : Int) = (y.toNat : Int)) := fun e => he (UInt8.toNat_inj.1 (by omega))
        have HE : Hid (com a b = 8 * k + lz (x ^^^ y)) := by
          show com a b = 8 * k + lz (x ^^^ y)
          rw [HC.out, HN2.out, if_neg he]
        have hka : (k : Int) < (a.length : Int) := by omega
        have hkb : (k : Int) < (b.length : Int) := by omega
        clear HC HN2 he
        go_wp2
        go_quiet (fail)
        have cx2 : (wr.drewN nq).cell? ⟨ba, oa + k, none⟩ = some (.int .u8 (x.toNat : Int)) := cx
        have cy2 : (wr.drewN nq).cell? ⟨bb, ob + k, none⟩ = some (.int .u8 (y.toNat : Int)) := cy
        have hbe2 := below_drewN hbe nq
        clear cx cy hbe
        generalize wr.drewN nq = w2 at *
        go_wp2
        go_quiet (first | (go_at_call 35; exact Calls.quiet_of ((hlz _).mono fun e w' ⟨he, hw⟩ => ⟨he, 0, hw⟩)))
        go_wp2
        go_ret
        refine ⟨congrArg (fun z => Ending.returned (Value.int .i64 z)) ?_, below_drewN hbe2 _⟩
        have := HE.out
        omega
    · have hkn : k = n := by omega
      subst hkn
      go_wp2
      go_ret
      refine ⟨congrArg (fun z => Ending.returned (Value.int .i64 z)) ?_, hbe⟩
      have := HC.out
      have := HS.out
      omega

end Go.Proofs.Ythbkkddfklbhlaa
