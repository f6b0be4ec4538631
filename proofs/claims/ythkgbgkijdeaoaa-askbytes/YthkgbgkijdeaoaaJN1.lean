/- What this text proves: the walks of math/bits' Len64 and Len over this program: how many bits a number takes. What this text proves: the walks of codec.grown and codec.number over this program: bytes in memory of their own with room; a number behind bytes that the caller owns. What this text proves: the walk of codec.Uint over this program, and that the statement's own look finds it awake. What this text proves: the walks of codec.Bytes and codec.Flag over this program. -/
import Derived.Test.YthkgbgkijdeaoaaEqual
import Derived.Test.YthkgbgkijdeaoaaCodecPlain
import Derived.Test.YthkgbgkijdeaoaaOwn
import Derived.Lib.MinMax
namespace Go.Proofs.Ythkgbgkijdeaoaa
open Go.RowKit

theorem tab_get (y : Int) (h0 : 0 ≤ y) (h1 : y ≤ 255) (h : y.toNat < Lib.len8tab.size) : ((Lib.len8tab[y.toNat]'h).toNat : Int) = (Lib.bitLen y.toNat : Int) ∧ Lib.bitLen y.toNat ≤ 8 := by
  have e := Lib.len8_eq ⟨y.toNat, by omega⟩
  have hle : Lib.bitLen y.toNat ≤ 8 := Lib.bitLen_le8 ⟨y.toNat, by omega⟩
  unfold Lib.len8 at e
  simp only [Int.toNat_natCast] at e
  rw [getElem?_pos Lib.len8tab y.toNat h] at e
  simp only [Option.getD_some] at e
  exact ⟨e, hle⟩

theorem wrap_two (k a b : Nat) (hk : k ≤ 56) (ha : a ≤ 8) (hb : b = k + a) : wrap64 ((k : Int) + wrap64 (a : Int)) = (b : Int) := by
  unfold wrap64
  omega

theorem nat64 (x : Int) (h : x ≤ 4611686018427387904) : x.toNat < 2 ^ 64 := by omega

theorem len_close (x y : Int) (k : Nat) (h0 : 0 ≤ y) (h1 : y ≤ 255) (hk : k ≤ 56) (hx : x ≤ 4611686018427387904) (hge : 2 ^ k ≤ x.toNat) (hy : y.toNat = x.toNat / 2 ^ k) (h : y.toNat < Lib.len8tab.size) :
    wrap64 ((k : Int) + wrap64 ((Lib.len8tab[y.toNat]'h).toNat : Int)) = (Lib.bitLen x.toNat : Int) := by
  obtain ⟨e, hle⟩ := tab_get y h0 h1 h
  have hs := Lib.bitLen_shift k x.toNat hge (nat64 x hx)
  rw [← hy] at hs
  rw [e]
  exact wrap_two k _ _ hk hle hs

theorem len_close0 (x : Int) (h0 : 0 ≤ x) (h1 : x ≤ 255) (h : x.toNat < Lib.len8tab.size) : wrap64 (wrap64 ((Lib.len8tab[x.toNat]'h).toNat : Int)) = (Lib.bitLen x.toNat : Int) := by
  obtain ⟨e, hle⟩ := tab_get x h0 h1 h
  rw [e]
  have := wrap_two 0 _ _ (by omega) hle (Nat.zero_add _).symm
  simpa using this

set_option maxRecDepth 100000 in
set_option maxHeartbeats 4000000 in
theorem len64_walk (x L : Int) (w : World) (h0 : 0 ≤ x) (hx : x ≤ 4611686018427387904) (hL : Hid (L = (Lib.bitLen x.toNat : Int))) :
    Calls Try.prog 59 #[.int .u64 x] w fun e w' => e = .returned (.int .i64 L) ∧ w' = w := by
  have hs : ((Lib.len8tab.size : Nat) : Int) = 256 := by rw [Lib.len8tab_size]; rfl
  by_cases h32 : (4294967296 : Int) ≤ x
  · by_cases h16 : (65536 : Int) ≤ x / 4294967296
    · by_cases h8 : (256 : Int) ≤ x / 4294967296 / 65536
      · go_enter Try.func59, Try.ntmps59
        go_wp2
        go_ret
        refine ⟨congrArg (fun z => Ending.returned (Value.int .i64 z)) ?_, rfl⟩
        rw [hL.out]
        exact len_close x _ 56 (by omega) (by omega) (by decide) hx (by omega) (by omega) _
      · have d8 : decide ((256 : Int) ≤ x / 4294967296 / 65536) = false := by simpa using h8
        go_enter Try.func59, Try.ntmps59
        go_wp2
        go_ret
        refine ⟨congrArg (fun z => Ending.returned (Value.int .i64 z)) ?_, rfl⟩
        rw [hL.out]
        exact len_close x _ 48 (by omega) (by omega) (by decide) hx (by omega) (by omega) _
    · have d16 : decide ((65536 : Int) ≤ x / 4294967296) = false := by simpa using h16
      by_cases h8 : (256 : Int) ≤ x / 4294967296
      · go_enter Try.func59, Try.ntmps59
        go_wp2
        go_ret
        refine ⟨congrArg (fun z => Ending.returned (Value.int .i64 z)) ?_, rfl⟩
        rw [hL.out]
        exact len_close x _ 40 (by omega) (by omega) (by decide) hx (by omega) (by omega) _
      · have d8 : decide ((256 : Int) ≤ x / 4294967296) = false := by simpa using h8
        go_enter Try.func59, Try.ntmps59
        go_wp2
        go_ret
        refine ⟨congrArg (fun z => Ending.returned (Value.int .i64 z)) ?_, rfl⟩
        rw [hL.out]
        exact len_close x _ 32 (by omega) (by omega) (by decide) hx (by omega) (by omega) _
  · have d32 : decide ((4294967296 : Int) ≤ x) = false := by simpa using h32
    by_cases h16 : (65536 : Int) ≤ x
    · by_cases h8 : (256 : Int) ≤ x / 65536
      · go_enter Try.func59, Try.ntmps59
        go_wp2
        go_ret
        refine ⟨congrArg (fun z => Ending.returned (Value.int .i64 z)) ?_, rfl⟩
        rw [hL.out]
        exact len_close x _ 24 (by omega) (by omega) (by decide) hx (by omega) (by omega) _
      · have d8 : decide ((256 : Int) ≤ x / 65536) = false := by simpa using h8
        go_enter Try.func59, Try.ntmps59
        go_wp2
        go_ret
        refine ⟨congrArg (fun z => Ending.returned (Value.int .i64 z)) ?_, rfl⟩
        rw [hL.out]
        exact len_close x _ 16 (by omega) (by omega) (by decide) hx (by omega) (by omega) _
    · have d16 : decide ((65536 : Int) ≤ x) = false := by simpa using h16
      by_cases h8 : (256 : Int) ≤ x
      · go_enter Try.func59, Try.ntmps59
        go_wp2
        go_ret
        refine ⟨congrArg (fun z => Ending.returned (Value.int .i64 z)) ?_, rfl⟩
        rw [hL.out]
        exact len_close x _ 8 (by omega) (by omega) (by decide) hx (by omega) (by omega) _
      · have d8 : decide ((256 : Int) ≤ x) = false := by simpa using h8
        go_enter Try.func59, Try.ntmps59
        go_wp2
        go_ret
        refine ⟨congrArg (fun z => Ending.returned (Value.int .i64 z)) ?_, rfl⟩
        rw [hL.out]
        exact len_close0 x (by omega) (by omega) _

set_option maxRecDepth 100000 in
set_option maxHeartbeats 400000 in
theorem len_any (n : Nat) (w : World) (hn : n ≤ 4611686018427387904) :
    Calls Try.prog 57 #[.int .u64 (n : Int)] w fun e w' => e = .returned (.int .i64 (Lib.bitLen n : Int)) ∧ w' = w := by
  have hc := len64_walk (n : Int) (Lib.bitLen n : Int) w (by omega) (by omega) (by show _ = _; simp)
  obtain ⟨L, hL⟩ : ∃ L : Int, L = (Lib.bitLen n : Int) := ⟨_, rfl⟩
  rw [← hL] at hc ⊢
  clear hL
  go_enter Try.func57, Try.ntmps57
  go_wp2_with (first | (go_at_call 59; refine hc.mono ?_; rintro e w1 ⟨rfl, rfl⟩))
  go_ret
  exact ⟨rfl, rfl⟩

end Go.Proofs.Ythkgbgkijdeaoaa

namespace Go.Proofs.Ythkgbgkijdeaoaa
open Go.RowKit

set_option maxRecDepth 100000 in
set_option maxHeartbeats 1000000 in
theorem grown_any (v : Value) (l : List UInt8) (m : Nat) (w : World) (h : HB w v l) (hbig : l.length ≤ 140737488355328) (hm : m ≤ 140737488355328) :
    Calls Try.prog 53 #[v, .int .i64 (m : Int)] w fun e w' => ∃ p c, e = .returned (.slice p l.length c) ∧ w'.ownsRow w.heap.size 5 1 (.slice p l.length c) l.length (bcs l) ∧ Below w.heap.size w w' := by
  obtain ⟨p, c, rfl⟩ := h.shape
  obtain ⟨i0, hi, hz0, hz1, hz2⟩ := info_parts i_u8
  go_enter Try.func53, Try.ntmps53
  go_wp2_with (first | (at_make; refine wpList_make_own _ rfl _ _ 22 rfl w.heap.size 5 i0 (.int .u8 0) 1 Try.underlying22 hi hz0 hz1 .i64 .i64 _ (l.length + m) rfl rfl ?qa ?qb ?qc ?qd ?_))
  case qa => omega
  case qb => rw [hz2]; omega
  case qc => unfold maxLen; omega
  case qd => exact Nat.le_refl _
  intro w1 hown1 hgrow1
  have hb1 : Below w.heap.size w w1 := (Below.refl _ w).grown hgrow1 (Nat.le_refl _) (by intro k hk; cases hk)
  have h1 := h.later hb1
  have hs1 := hb1.size
  clear hgrow1 h
  go_wp2_with (first | (at_builtin; refine wpList_append_hb rfl (.tmp 9) (.tmp 10) 22 rfl w.heap.size 5 Try.underlying22 i_u8 _ _ _ rfl hown1 _ _ _ l rfl h1 ?sa ?sb ?_))
  case sa => omega
  case sb => exact hs1
  intro v2 w2 hown2 hgrow2
  have hb2 : Below w.heap.size w w2 := hb1.grown hgrow2 hs1 (by intro k hk; cases hk; exact Nat.le_refl _)
  obtain ⟨p2, c2, rfl⟩ := owns_shape hown2
  clear hgrow2 hown1 h1
  go_wp2
  go_ret
  exact ⟨_, _, rfl, hown2, hb2⟩

def lenW : Value → Nat | .slice _ n _ => n | _ => 0

theorem cnumB (N j : Nat) : Value.int .u8 ((N : Int) / 2 ^ (8 * j) % 256) = bc (UInt8.ofNat (N / 256 ^ j)) := by
  unfold bc
  rw [show (256 : Nat) ^ j = 2 ^ (8 * j) by rw [Nat.pow_mul]]
  rw [show (N : Int) / 2 ^ (8 * j) % 256 = ((N / 2 ^ (8 * j) % 256 : Nat) : Int) by simp]
  simp

/-- What stands behind the bytes F when k of the number's c bytes are put. -/
def putTo (F : List UInt8) (N c k : Nat) : List UInt8 := F ++ (UInt8.ofNat c :: beN (N / 256 ^ (c - k)) k)
theorem putTo_length (F : List UInt8) (N c k : Nat) : (putTo F N c k).length = F.length + 1 + k := by unfold putTo; simp [beN_length]; omega
theorem putTo_next (F : List UInt8) (N c k : Nat) (hk : k < c) : putTo F N c k ++ [UInt8.ofNat (N / 256 ^ (c - (k + 1)))] = putTo F N c (k + 1) := by
  unfold putTo
  rw [beN_next N c k hk]
  simp
theorem putTo_all (F : List UInt8) (N : Nat) : putTo F N (cnt N) (cnt N) = F ++ numL N := by
  unfold putTo numL ndigs
  simp

set_option maxRecDepth 100000 in
set_option maxHeartbeats 1000000 in
theorem cnum_any (p : Option Addr) (c : Nat) (F : List UInt8) (base : Nat) (n : Int) (w : World) (h : w.ownsRow base 5 1 (.slice p F.length c) F.length (bcs F)) (hbase : base ≤ w.heap.size) (hbig : F.length ≤ 140737488355300) :
    Calls Try.prog 52 #[.slice p F.length c, .int .i64 n] w fun e w' => ∃ p1 c1, e = .returned (.slice p1 (F ++ numL (clampN n)).length c1) ∧ w'.ownsRow base 5 1 (.slice p1 (F ++ numL (clampN n)).length c1) (F ++ numL (clampN n)).length (bcs (F ++ numL (clampN n))) ∧ Below base w w' := by
  obtain ⟨i0, hi, hz0, hz1, hz2⟩ := info_parts i_u8
  have hNle := clampN_le n
  have hcl : min (max n 0) 4611686018427387904 = (clampN n : Int) := by unfold clampN; omega
  generalize clampN n = N at *
  have hlen := len_any N
  have hc8 := cnt_le8 N (by omega)
  have hcnt : ((Lib.bitLen N : Int) + 7).tdiv 8 = (cnt N : Int) := by
    rw [Int.tdiv_eq_ediv_of_nonneg (by omega)]
    unfold cnt
    omega
  have hbl : (Lib.bitLen N : Int) ≤ 64 := by unfold cnt at hc8; omega
  rw [← putTo_all F N]
  have hN2 : (N : Int) ≤ 4611686018427387904 := by omega
  have hn1 := putTo_next F N (cnt N)
  have hl1 := putTo_length F N (cnt N)
  have h00 : putTo F N (cnt N) 0 = F ++ [UInt8.ofNat (cnt N)] := by unfold putTo; rfl
  generalize cnt N = C at *
  generalize putTo F N C = G at *
  generalize Lib.bitLen N = bl at *
  go_enter Try.func52, Try.ntmps52
  go_wp2_with fail
  refine (hlen w hNle).mono ?_
  rintro e w1 ⟨rfl, rfl⟩
  clear hlen
  have HV : Hid (Value.int .u8 (C : Int) = bc (UInt8.ofNat C)) := by show Value.int .u8 (C : Int) = bc (UInt8.ofNat C); simp [bc]; omega
  go_wp2_with (first | (at_builtin; refine wpList_append_own _ rfl (.tmp 15) (.tmp 18) 22 rfl base 5 i0 (.int .u8 0) 1 1 Try.underlying22 hi hz0 hz1 hz2 rfl (by decide) _ _ _ rfl (h.alloc _) ⟨w1.heap.size, 0, none⟩ 1 1 [.int .u8 (C : Int)] rfl rfl ?ua ?ub ?uc ?ud ?ue ?_))
  case ua => exact cell_one_new _ _ _
  case ub => intro u hu; simp at hu; subst hu; rfl
  case uc => unfold maxLen; omega
  case ud => omega
  case ue => simp; omega
  intro v2 w2 hown2 hgrow2 _
  have hb2 : Below base w1 w2 := ((Below.refl base w1).alloc hbase _).grown hgrow2 (by simp; omega) (fun k hk => (h.lt k hk).1)
  rw [HV.out, show bcs F ++ [bc (UInt8.ofNat C)] = bcs (F ++ [UInt8.ofNat C]) by simp [bcs], ← h00] at hown2
  have hl0 := hl1 0
  rw [Nat.add_zero] at hl0
  rw [← hl0] at hown2
  obtain ⟨p2, c2, rfl⟩ := owns_shape hown2
  have HL1 : Hid (∀ k, (G k).length = F.length + 1 + k) := hl1
  have HN1 : Hid (∀ k, k < C → G k ++ [UInt8.ofNat (N / 256 ^ (C - (k + 1)))] = G (k + 1)) := hn1
  clear hgrow2 h HV h00 hl0 hcnt hcl hl1 hn1
  go_wp2
  go_loopw [0, 6] (fun v i wr => ∃ (k : Nat) (p5 : Option Addr) (c5 : Nat), k ≤ C ∧ i = .int .i64 ((C : Int) - 1 - k) ∧ v = .slice p5 (G k).length c5 ∧ wr.ownsRow base 5 1 (.slice p5 (G k).length c5) (G k).length (bcs (G k)) ∧ Below base w1 wr)
    (fun v _ _ => C + (F.length + 1) - lenW v)
  case atStart => exact ⟨0, p2, c2, Nat.zero_le _, by go_num, rfl, hown2, hb2⟩
  case round =>
    clear hown2 hb2
    obtain ⟨k, p5, c5, hk, rfl, rfl, hown, hbe⟩ := hrel
    have hsz := hbe.size
    have HLK : Hid ((G k).length = F.length + 1 + k) := HL1.out k
    by_cases hlt : k < C
    · obtain ⟨j, hj⟩ : ∃ j, j = C - (k + 1) := ⟨_, rfl⟩
      have hji : (C : Int) - 1 - (k : Int) = (j : Int) := by omega
      have HST := HN1.out k hlt
      rw [← hj] at HST
      have HS : Hid (G k ++ [UInt8.ofNat (N / 256 ^ j)] = G (k + 1)) := HST
      have HV : Hid (Value.int .u8 ((N : Int) / 2 ^ (8 * j) % 256) = bc (UInt8.ofNat (N / 256 ^ j))) := cnumB N j
      rw [hji]
      have HJ : Hid (j = C - (k + 1)) := hj
      have hj8 : (j : Int) ≤ 8 := by omega
      clear HST hj hji
      go_wp2_with (first | (at_builtin; refine wpList_append_own _ rfl (.tmp 26) (.tmp 32) 22 rfl base 5 i0 (.int .u8 0) 1 1 Try.underlying22 hi hz0 hz1 hz2 rfl (by decide) _ _ _ rfl (hown.alloc _) ⟨wr.heap.size, 0, none⟩ 1 1 [.int .u8 ((N : Int) / 2 ^ (8 * j) % 256)] rfl rfl ?va ?vb ?vc ?vd ?ve ?_))
      case va => exact cell_one_new _ _ _
      case vb => intro u hu; simp at hu; subst hu; rfl
      case vc => have := HLK.out; unfold maxLen; omega
      case vd => have := HLK.out; omega
      case ve => simp; omega
      intro v6 w6 hown6 hgrow6 _
      have hb6 : Below base w1 w6 := (hbe.alloc (by omega) _).grown hgrow6 (by simp; omega) (fun k hk => (hown.lt k hk).1)
      rw [HV.out, show bcs (G k) ++ [bc (UInt8.ofNat (N / 256 ^ j))] = bcs (G k ++ [UInt8.ofNat (N / 256 ^ j)]) by simp [bcs], HS.out] at hown6
      have HFL : Hid ((G k).length + 1 = (G (k + 1)).length) := by show (G k).length + 1 = _; rw [HL1.out, HL1.out]; omega
      rw [HFL.out] at hown6
      obtain ⟨p6, c6, hv6⟩ := owns_shape hown6
      rw [hv6] at hown6 ⊢
      have H6 : Hid (w6.ownsRow base 5 1 (.slice p6 (G (k + 1)).length c6) (G (k + 1)).length (bcs (G (k + 1)))) := hown6
      clear hv6 hgrow6 hown hown6 hbe HV HS
      go_wp2
      have hj := HJ.out
      exact ⟨⟨k + 1, p6, c6, by omega, by congr 1; omega, rfl, H6.out, hb6⟩, by simp [lenW]; have := HFL.out; have := HLK.out; omega⟩
    · have hkC : k = C := by omega
      subst hkC
      have hneg : (k : Int) - 1 - (k : Int) = -1 := by omega
      rw [hneg]
      have H5 : Hid (wr.ownsRow base 5 1 (.slice p5 (G k).length c5) (G k).length (bcs (G k))) := hown
      clear hown hneg
      go_wp2
      go_ret
      exact ⟨_, _, rfl, H5.out, hbe⟩

end Go.Proofs.Ythkgbgkijdeaoaa

namespace Go.Proofs.Ythkgbgkijdeaoaa
open Go.RowKit

set_option maxRecDepth 100000 in
set_option maxHeartbeats 400000 in
theorem cuint_any (v : Value) (l : List UInt8) (n : Int) (w : World) (h : HB w v l) (hbig : l.length ≤ 140737488355300) :
    Calls Try.prog 39 #[v, .int .i64 n] w fun e w' => ∃ p c, e = .returned (.slice p (l ++ numL (clampN n)).length c) ∧ w'.ownsRow w.heap.size 5 1 (.slice p (l ++ numL (clampN n)).length c) (l ++ numL (clampN n)).length (bcs (l ++ numL (clampN n))) ∧ Below w.heap.size w w' := by
  obtain ⟨p, c, rfl⟩ := h.shape
  have hg := grown_any _ l 9 w h (by omega) (by omega)
  generalize hR : l ++ numL (clampN n) = R
  have HR : Hid (l ++ numL (clampN n) = R) := hR
  clear hR h
  go_enter Try.func39, Try.ntmps39
  go_wp2_with fail
  refine hg.mono ?_
  rintro e w1 ⟨p1, c1, rfl, hown1, hb1⟩
  have hc := cnum_any p1 c1 l w.heap.size n w1 hown1 hb1.size hbig
  rw [HR.out] at hc
  clear hg hown1
  go_wp2_with fail
  refine hc.mono ?_
  rintro e w2 ⟨p2, c2, rfl, hown2, hb2⟩
  have hb02 := hb1.trans hb2
  clear hc hb1 hb2
  go_wp2
  go_ret
  exact ⟨_, _, rfl, hown2, hb02⟩

theorem clampN_nat (n : Nat) (h : n ≤ 4611686018427387904) : clampN (n : Int) = n := by unfold clampN; omega

theorem num258 : ([] : List UInt8) ++ numL (clampN 258) = [2, 1, 2] := by decide +kernel

end Go.Proofs.Ythkgbgkijdeaoaa

namespace Go.Proofs.Ythkgbgkijdeaoaa
open Go.RowKit

set_option maxRecDepth 100000 in
set_option maxHeartbeats 1000000 in
theorem cbytes_any (v u : Value) (l s : List UInt8) (w : World) (h : HB w v l) (hs : HB w u s) (hbig : l.length + s.length ≤ 140737488355200) :
    Calls Try.prog 84 #[v, u] w fun e w' => ∃ p c, e = .returned (.slice p (l ++ bytesL s).length c) ∧ w'.ownsRow w.heap.size 5 1 (.slice p (l ++ bytesL s).length c) (l ++ bytesL s).length (bcs (l ++ bytesL s)) ∧ Below w.heap.size w w' := by
  obtain ⟨p, c, rfl⟩ := h.shape
  obtain ⟨q, d, rfl⟩ := hs.shape
  have hg := grown_any _ l (9 + s.length) w h (by omega) (by omega)
  rw [show ((9 + s.length : Nat) : Int) = 9 + (s.length : Int) by omega] at hg
  have hc9 := cnt_le8 s.length (by omega)
  have HR : Hid ((l ++ numL s.length) ++ s = l ++ bytesL s) := by show _ = _; unfold bytesL; simp
  have hRl : (l ++ numL s.length).length ≤ l.length + 9 := by rw [List.length_append, numL_length]; omega
  have HRL : Hid ((l ++ numL s.length).length ≤ l.length + 9) := hRl
  have HQ : Hid ((l ++ bytesL s).length = (l ++ numL s.length).length + s.length) := by show _ = _; rw [← HR.out, List.length_append]
  have hcn := clampN_nat s.length (by omega)
  generalize hM : l ++ bytesL s = M at HR HQ ⊢
  clear hM hRl h hc9
  go_enter Try.func84, Try.ntmps84
  go_wp2_with fail
  refine hg.mono ?_
  rintro e w1 ⟨p1, c1, rfl, hown1, hb1⟩
  have hc := cnum_any p1 c1 l w.heap.size (s.length : Int) w1 hown1 hb1.size (by omega)
  rw [hcn] at hc
  clear hg hown1 hcn
  generalize l ++ numL s.length = R at *
  go_wp2_with fail
  refine hc.mono ?_
  rintro e w2 ⟨p2, c2, rfl, hown2, hb2⟩
  have hb02 := hb1.trans hb2
  have hs2 := hs.later hb02
  have hsz := hb02.size
  clear hc hb1 hb2 hs
  go_wp2_with (first | (at_builtin; refine wpList_append_hb rfl (.tmp 12) (.tmp 13) 22 rfl w.heap.size 5 Try.underlying22 i_u8 _ _ _ rfl hown2 _ _ _ s rfl hs2 ?sa ?sb ?_))
  case sa => have := HRL.out; omega
  case sb => exact hsz
  intro v3 w3 hown3 hgrow3
  have hb3 : Below w.heap.size w w3 := hb02.grown hgrow3 hsz (fun k hk => (hown2.lt k hk).1)
  rw [← bcs_append, HR.out, ← HQ.out] at hown3
  obtain ⟨p3, c3, rfl⟩ := owns_shape hown3
  clear hgrow3 hown2 hs2 hb02
  go_wp2
  go_ret
  exact ⟨_, _, rfl, hown3, hb3⟩

set_option maxRecDepth 100000 in
set_option maxHeartbeats 1000000 in
theorem cflag_any (v : Value) (l : List UInt8) (b : Bool) (w : World) (h : HB w v l) (hbig : l.length ≤ 140737488355300) :
    Calls Try.prog 83 #[v, .bool b] w fun e w' => ∃ p c, e = .returned (.slice p (l ++ flagL b).length c) ∧ w'.ownsRow w.heap.size 5 1 (.slice p (l ++ flagL b).length c) (l ++ flagL b).length (bcs (l ++ flagL b)) ∧ Below w.heap.size w w' := by
  obtain ⟨p, c, rfl⟩ := h.shape
  obtain ⟨i0, hi, hz0, hz1, hz2⟩ := info_parts i_u8
  have hg := grown_any _ l 1 w h (by omega) (by omega)
  have HQ : Hid ((l ++ flagL b).length = l.length + 1) := by show _ = _; unfold flagL; simp
  clear h
  cases b with
  | true =>
    have HR : Hid (bcs l ++ [.int .u8 1] = bcs (l ++ flagL true)) := by show _ = _; simp [flagL, bcs, bc]
    generalize l ++ flagL true = R at *
    go_enter Try.func83, Try.ntmps83
    go_wp2_with fail
    refine hg.mono ?_
    rintro e w1 ⟨p1, c1, rfl, hown1, hb1⟩
    have hsz := hb1.size
    clear hg
    go_wp2_with (first | (at_builtin; refine wpList_append_own _ rfl (.tmp 7) (.tmp 8) 22 rfl w.heap.size 5 i0 (.int .u8 0) 1 1 Try.underlying22 hi hz0 hz1 hz2 rfl (by decide) _ _ _ rfl (hown1.alloc _) ⟨w1.heap.size, 0, none⟩ 1 1 [.int .u8 1] rfl rfl ?ua ?ub ?uc ?ud ?ue ?_))
    case ua => exact cell_one_new _ _ _
    case ub => intro u hu; simp at hu; subst hu; rfl
    case uc => unfold maxLen; omega
    case ud => omega
    case ue => simp; omega
    intro v2 w2 hown2 hgrow2 _
    have hb2 : Below w.heap.size w w2 := (hb1.alloc hsz _).grown hgrow2 (by simp; omega) (fun k hk => (hown1.lt k hk).1)
    rw [HR.out, ← HQ.out] at hown2
    obtain ⟨p2, c2, rfl⟩ := owns_shape hown2
    clear hgrow2 hown1 hb1
    go_wp2
    go_ret
    exact ⟨_, _, rfl, hown2, hb2⟩
  | false =>
    have HR : Hid (bcs l ++ [.int .u8 0] = bcs (l ++ flagL false)) := by show _ = _; simp [flagL, bcs, bc]
    generalize l ++ flagL false = R at *
    go_enter Try.func83, Try.ntmps83
    go_wp2_with fail
    refine hg.mono ?_
    rintro e w1 ⟨p1, c1, rfl, hown1, hb1⟩
    have hsz := hb1.size
    clear hg
    go_wp2_with (first | (at_builtin; refine wpList_append_own _ rfl (.tmp 11) (.tmp 12) 22 rfl w.heap.size 5 i0 (.int .u8 0) 1 1 Try.underlying22 hi hz0 hz1 hz2 rfl (by decide) _ _ _ rfl (hown1.alloc _) ⟨w1.heap.size, 0, none⟩ 1 1 [.int .u8 0] rfl rfl ?ua ?ub ?uc ?ud ?ue ?_))
    case ua => exact cell_one_new _ _ _
    case ub => intro u hu; simp at hu; subst hu; rfl
    case uc => unfold maxLen; omega
    case ud => omega
    case ue => simp; omega
    intro v2 w2 hown2 hgrow2 _
    have hb2 : Below w.heap.size w w2 := (hb1.alloc hsz _).grown hgrow2 (by simp; omega) (fun k hk => (hown1.lt k hk).1)
    rw [HR.out, ← HQ.out] at hown2
    obtain ⟨p2, c2, rfl⟩ := owns_shape hown2
    clear hgrow2 hown1 hb1
    go_wp2
    go_ret
    exact ⟨_, _, rfl, hown2, hb2⟩

end Go.Proofs.Ythkgbgkijdeaoaa
