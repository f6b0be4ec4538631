/- What this text proves: the walks of codec.grown and codec.number over this program: bytes in memory of their own with room; a number behind bytes that the caller owns. -/
import Derived.Test.YtldmbfemoepfkaaLen64
import Derived.Test.YtldmbfemoepfkaaOwn
import Derived.Lib.MinMax
namespace Go.Proofs.Ytldmbfemoepfkaa
open Go.RowKit

set_option maxHeartbeats 1000000 in
theorem grown_any (v : Value) (l : List UInt8) (m : Nat) (w : World) (h : HB w v l) (hbig : l.length ≤ 140737488355328) (hm : m ≤ 140737488355328) :
    Calls Try.prog 74 #[v, .int .i64 (m : Int)] w fun e w' => ∃ p c, e = .returned (.slice p l.length c) ∧ w'.ownsRow w.heap.size 5 1 (.slice p l.length c) l.length (bcs l) ∧ Below w.heap.size w w' := by
  obtain ⟨p, c, rfl⟩ := h.shape
  obtain ⟨i0, hi, hz0, hz1, hz2⟩ := info_parts i_u8
  go_enter Try.func74, Try.ntmps74
  go_wp2_with (first | (at_make; refine wpList_make_own _ rfl _ _ 22 rfl w.heap.size 5 i0 (.int .u8 0) 1 Try.underlying22 hi hz0 hz1 .i64 .i64 _ (l.length + m) rfl rfl ?qa ?qb ?qc ?qd ?_))
  case qa => omega
  case qb => rw [hz2]; omega
  case qc => unfold maxLen; omega
  case qd => exact Nat.le_refl _
  intro w1 hown1 hgrow1
  have hb1 : Below w.heap.size w w1 := (Below.refl _ w).grown hgrow1 (Nat.le_refl _) (by intro k hk; cases hk)
  have h1 := h.later hb1
  have hs1 := hb1.size
  clear hgrow1 h
  go_wp2_with (first | (at_builtin; refine wpList_append_hb rfl (.tmp 9) (.tmp 10) 22 rfl w.heap.size 5 Try.underlying22 i_u8 _ _ _ rfl hown1 _ _ _ l rfl h1 ?sa ?sb ?_))
  case sa => omega
  case sb => exact hs1
  intro v2 w2 hown2 hgrow2
  have hb2 : Below w.heap.size w w2 := hb1.grown hgrow2 hs1 (by intro k hk; cases hk; exact Nat.le_refl _)
  obtain ⟨p2, c2, rfl⟩ := owns_shape hown2
  clear hgrow2 hown1 h1
  go_wp2
  go_ret
  exact ⟨_, _, rfl, hown2, hb2⟩

def lenW : Value → Nat | .slice _ n _ => n | _ => 0

theorem cnumB (N j : Nat) : Value.int .u8 ((N : Int) / 2 ^ (8 * j) % 256) = bc (UInt8.ofNat (N / 256 ^ j)) := by
  unfold bc
  rw [show (256 : Nat) ^ j = 2 ^ (8 * j) by rw [Nat.pow_mul]]
  rw [show (N : Int) / 2 ^ (8 * j) % 256 = ((N / 2 ^ (8 * j) % 256 : Nat) : Int) by simp]
  simp

/-- What stands behind the bytes F when k of the number's c bytes are put. -/
def putTo (F : List UInt8) (N c k : Nat) : List UInt8 := F ++ (UInt8.ofNat c :: beN (N / 256 ^ (c - k)) k)
theorem putTo_length (F : List UInt8) (N c k : Nat) : (putTo F N c k).length = F.length + 1 + k := by unfold putTo; simp [beN_length]; omega
theorem putTo_next (F : List UInt8) (N c k : Nat) (hk : k < c) : putTo F N c k ++ [UInt8.ofNat (N / 256 ^ (c - (k + 1)))] = putTo F N c (k + 1) := by
  unfold putTo
  rw [beN_next N c k hk]
  simp
theorem putTo_all (F : List UInt8) (N : Nat) : putTo F N (cnt N) (cnt N) = F ++ numL N := by
  unfold putTo numL ndigs
  simp

set_option maxHeartbeats 1000000 in
theorem cnum_any (p : Option Addr) (c : Nat) (F : List UInt8) (base : Nat) (n : Int) (w : World) (h : w.ownsRow base 5 1 (.slice p F.length c) F.length (bcs F)) (hbase : base ≤ w.heap.size) (hbig : F.length ≤ 140737488355300) :
    Calls Try.prog 75 #[.slice p F.length c, .int .i64 n] w fun e w' => ∃ p1 c1, e = .returned (.slice p1 (F ++ numL (clampN n)).length c1) ∧ w'.ownsRow base 5 1 (.slice p1 (F ++ numL (clampN n)).length c1) (F ++ numL (clampN n)).length (bcs (F ++ numL (clampN n))) ∧ Below base w w' := by
  obtain ⟨i0, hi, hz0, hz1, hz2⟩ := info_parts i_u8
  have hNle := clampN_le n
  have hcl : min (max n 0) 4611686018427387904 = (clampN n : Int) := by unfold clampN; omega
  generalize clampN n = N at *
  have hlen := len_any N
  have hc8 := cnt_le8 N (by omega)
  have hcnt : ((Lib.bitLen N : Int) + 7).tdiv 8 = (cnt N : Int) := by
    rw [Int.tdiv_eq_ediv_of_nonneg (by omega)]
    unfold cnt
    omega
  have hbl : (Lib.bitLen N : Int) ≤ 64 := by unfold cnt at hc8; omega
  rw [← putTo_all F N]
  have hN2 : (N : Int) ≤ 4611686018427387904 := by omega
  have hn1 := putTo_next F N (cnt N)
  have hl1 := putTo_length F N (cnt N)
  have h00 : putTo F N (cnt N) 0 = F ++ [UInt8.ofNat (cnt N)] := by unfold putTo; rfl
  generalize cnt N = C at *
  generalize putTo F N C = G at *
  generalize Lib.bitLen N = bl at *
  go_enter Try.func75, Try.ntmps75
  go_wp2_with fail
  refine (hlen w hNle).mono ?_
  rintro e w1 ⟨rfl, rfl⟩
  clear hlen
  have HV : Hid (Value.int .u8 (C : Int) = bc (UInt8.ofNat C)) := by show Value.int .u8 (C : Int) = bc (UInt8.ofNat C); simp [bc]; omega
  go_wp2_with (first | (at_builtin; refine wpList_append_own _ rfl (.tmp 15) (.tmp 18) 22 rfl base 5 i0 (.int .u8 0) 1 1 Try.underlying22 hi hz0 hz1 hz2 rfl (by decide) _ _ _ rfl (h.alloc _) ⟨w1.heap.size, 0, none⟩ 1 1 [.int .u8 (C : Int)] rfl rfl ?ua ?ub ?uc ?ud ?ue ?_))
  case ua => exact cell_one_new _ _ _
  case ub => intro u hu; simp at hu; subst hu; rfl
  case uc => unfold maxLen; omega
  case ud => omega
  case ue => simp; omega
  intro v2 w2 hown2 hgrow2 _
  have hb2 : Below base w1 w2 := ((Below.refl base w1).alloc hbase _).grown hgrow2 (by simp; omega) (fun k hk => (h.lt k hk).1)
  rw [HV.out, show bcs F ++ [bc (UInt8.ofNat C)] = bcs (F ++ [UInt8.ofNat C]) by simp [bcs], ← h00] at hown2
  have hl0 := hl1 0
  rw [Nat.add_zero] at hl0
  rw [← hl0] at hown2
  obtain ⟨p2, c2, rfl⟩ := owns_shape hown2
  have HL1 : Hid (∀ k, (G k).length = F.length + 1 + k) := hl1
  have HN1 : Hid (∀ k, k < C → G k ++ [UInt8.ofNat (N / 256 ^ (C - (k + 1)))] = G (k + 1)) := hn1
  clear hgrow2 h HV h00 hl0 hcnt hcl hl1 hn1
  go_wp2
  go_loopw [0, 6] (fun v i wr => ∃ (k : Nat) (p5 : Option Addr) (c5 : Nat), k ≤ C ∧ i = .int .i64 ((C : Int) - 1 - k) ∧ v = .slice p5 (G k).length c5 ∧ wr.ownsRow base 5 1 (.slice p5 (G k).length c5) (G k).length (bcs (G k)) ∧ Below base w1 wr)
    (fun v _ _ => C + (F.length + 1) - lenW v)
  case atStart => exact ⟨0, p2, c2, Nat.zero_le _, by go_num, rfl, hown2, hb2⟩
  case round =>
    clear hown2 hb2
    obtain ⟨k, p5, c5, hk, rfl, rfl, hown, hbe⟩ := hrel
    have hsz := hbe.size
    have HLK : Hid ((G k).length = F.length + 1 + k) := HL1.out k
    by_cases hlt : k < C
    · obtain ⟨j, hj⟩ : ∃ j, j = C - (k + 1) := ⟨_, rfl⟩
      have hji : (C : Int) - 1 - (k : Int) = (j : Int) := by omega
      have HST := HN1.out k hlt
      rw [← hj] at HST
      have HS : Hid (G k ++ [UInt8.ofNat (N / 256 ^ j)] = G (k + 1)) := HST
      have HV : Hid (Value.int .u8 ((N : Int) / 2 ^ (8 * j) % 256) = bc (UInt8.ofNat (N / 256 ^ j))) := cnumB N j
      rw [hji]
      have HJ : Hid (j = C - (k + 1)) := hj
      have hj8 : (j : Int) ≤ 8 := by omega
      clear HST hj hji
      go_wp2_with (first | (at_builtin; refine wpList_append_own _ rfl (.tmp 26) (.tmp 32) 22 rfl base 5 i0 (.int .u8 0) 1 1 Try.underlying22 hi hz0 hz1 hz2 rfl (by decide) _ _ _ rfl (hown.alloc _) ⟨wr.heap.size, 0, none⟩ 1 1 [.int .u8 ((N : Int) / 2 ^ (8 * j) % 256)] rfl rfl ?va ?vb ?vc ?vd ?ve ?_))
      case va => exact cell_one_new _ _ _
      case vb => intro u hu; simp at hu; subst hu; rfl
      case vc => have := HLK.out; unfold maxLen; omega
      case vd => have := HLK.out; omega
      case ve => simp; omega
      intro v6 w6 hown6 hgrow6 _
      have hb6 : Below base w1 w6 := (hbe.alloc (by omega) _).grown hgrow6 (by simp; omega) (fun k hk => (hown.lt k hk).1)
      rw [HV.out, show bcs (G k) ++ [bc (UInt8.ofNat (N / 256 ^ j))] = bcs (G k ++ [UInt8.ofNat (N / 256 ^ j)]) by simp [bcs], HS.out] at hown6
      have HFL : Hid ((G k).length + 1 = (G (k + 1)).length) := by show (G k).length + 1 = _; rw [HL1.out, HL1.out]; omega
      rw [HFL.out] at hown6
      obtain ⟨p6, c6, hv6⟩ := owns_shape hown6
      rw [hv6] at hown6 ⊢
      have H6 : Hid (w6.ownsRow base 5 1 (.slice p6 (G (k + 1)).length c6) (G (k + 1)).length (bcs (G (k + 1)))) := hown6
      clear hv6 hgrow6 hown hown6 hbe HV HS
      go_wp2
      have hj := HJ.out
      exact ⟨⟨k + 1, p6, c6, by omega, by congr 1; omega, rfl, H6.out, hb6⟩, by simp [lenW]; have := HFL.out; have := HLK.out; omega⟩
    · have hkC : k = C := by omega
      subst hkC
      have hneg : (k : Int) - 1 - (k : Int) = -1 := by omega
      rw [hneg]
      have H5 : Hid (wr.ownsRow base 5 1 (.slice p5 (G k).length c5) (G k).length (bcs (G k))) := hown
      clear hown hneg
      go_wp2
      go_ret
      exact ⟨_, _, rfl, H5.out, hbe⟩

end Go.Proofs.Ytldmbfemoepfkaa
