/- What this text proves: the walks of math/bits' Len64 and Len over this program: how many bits a number takes. What this text proves: the walks of codec.grown and codec.number over this program: bytes in memory of their own with room; a number behind bytes that the caller owns. What this text proves: the walk of codec.Uint over this program, alone. What this text proves: the walk of the document's Uint (annalsref04) over this program: a number behind bytes, in new memory. -/
import Derived.Test.YtdjaemobfbbkoaaDoorJText
import Derived.Test.YtdjaemobfbbkoaaDoorJRd
import Derived.Test.YtdjaemobfbbkoaaDoorJOwn
import Derived.Lib.MinMax
namespace Go.Proofs.YtdjaemobfbbkoaaDoor
open Go.RowKit

theorem tab_get (y : Int) (h0 : 0 ≤ y) (h1 : y ≤ 255) (h : y.toNat < Lib.len8tab.size) : ((Lib.len8tab[y.toNat]'h).toNat : Int) = (Lib.bitLen y.toNat : Int) ∧ Lib.bitLen y.toNat ≤ 8 := by
  have e := Lib.len8_eq ⟨y.toNat, by omega⟩
  have hle : Lib.bitLen y.toNat ≤ 8 := Lib.bitLen_le8 ⟨y.toNat, by omega⟩
  unfold Lib.len8 at e
  simp only [Int.toNat_natCast] at e
  rw [getElem?_pos Lib.len8tab y.toNat h] at e
  simp only [Option.getD_some] at e
  exact ⟨e, hle⟩

theorem wrap_two (k a b : Nat) (hk : k ≤ 56) (ha : a ≤ 8) (hb : b = k + a) : wrap64 ((k : Int) + wrap64 (a : Int)) = (b : Int) := by
  unfold wrap64
  omega

theorem nat64 (x : Int) (h : x ≤ 4611686018427387904) : x.toNat < 2 ^ 64 := by omega

theorem len_close (x y : Int) (k : Nat) (h0 : 0 ≤ y) (h1 : y ≤ 255) (hk : k ≤ 56) (hx : x ≤ 4611686018427387904) (hge : 2 ^ k ≤ x.toNat) (hy : y.toNat = x.toNat / 2 ^ k) (h : y.toNat < Lib.len8tab.size) :
    wrap64 ((k : Int) + wrap64 ((Lib.len8tab[y.toNat]'h).toNat : Int)) = (Lib.bitLen x.toNat : Int) := by
  obtain ⟨e, hle⟩ := tab_get y h0 h1 h
  have hs := Lib.bitLen_shift k x.toNat hge (nat64 x hx)
  rw [← hy] at hs
  rw [e]
  exact wrap_two k _ _ hk hle hs

theorem len_close0 (x : Int) (h0 : 0 ≤ x) (h1 : x ≤ 255) (h : x.toNat < Lib.len8tab.size) : wrap64 (wrap64 ((Lib.len8tab[x.toNat]'h).toNat : Int)) = (Lib.bitLen x.toNat : Int) := by
  obtain ⟨e, hle⟩ := tab_get x h0 h1 h
  rw [e]
  have := wrap_two 0 _ _ (by omega) hle (Nat.zero_add _).symm
  simpa using this

set_option maxRecDepth 100000 in
set_option maxHeartbeats 4000000 in
theorem len64_walk (x L : Int) (w : World) (h0 : 0 ≤ x) (hx : x ≤ 4611686018427387904) (hL : Hid (L = (Lib.bitLen x.toNat : Int))) :
    Calls Tryd.prog 85 #[.int .u64 x] w fun e w' => e = .returned (.int .i64 L) ∧ w' = w := by
  have hs : ((Lib.len8tab.size : Nat) : Int) = 256 := by rw [Lib.len8tab_size]; rfl
  by_cases h32 : (4294967296 : Int) ≤ x
  · by_cases h16 : (65536 : Int) ≤ x / 4294967296
    · by_cases h8 : (256 : Int) ≤ x / 4294967296 / 65536
      · go_enter Tryd.func85, Tryd.ntmps85
        go_wp2
        go_ret
        refine ⟨congrArg (fun z => Ending.returned (Value.int .i64 z)) ?_, rfl⟩
        rw [hL.out]
        exact len_close x _ 56 (by omega) (by omega) (by decide) hx (by omega) (by omega) _
      · have d8 : decide ((256 : Int) ≤ x / 4294967296 / 65536) = false := by simpa using h8
        go_enter Tryd.func85, Tryd.ntmps85
        go_wp2
        go_ret
        refine ⟨congrArg (fun z => Ending.returned (Value.int .i64 z)) ?_, rfl⟩
        rw [hL.out]
        exact len_close x _ 48 (by omega) (by omega) (by decide) hx (by omega) (by omega) _
    · have d16 : decide ((65536 : Int) ≤ x / 4294967296) = false := by simpa using h16
      by_cases h8 : (256 : Int) ≤ x / 4294967296
      · go_enter Tryd.func85, Tryd.ntmps85
        go_wp2
        go_ret
        refine ⟨congrArg (fun z => Ending.returned (Value.int .i64 z)) ?_, rfl⟩
        rw [hL.out]
        exact len_close x _ 40 (by omega) (by omega) (by decide) hx (by omega) (by omega) _
      · have d8 : decide ((256 : Int) ≤ x / 4294967296) = false := by simpa using h8
        go_enter Tryd.func85, Tryd.ntmps85
        go_wp2
        go_ret
        refine ⟨congrArg (fun z => Ending.returned (Value.int .i64 z)) ?_, rfl⟩
        rw [hL.out]
        exact len_close x _ 32 (by omega) (by omega) (by decide) hx (by omega) (by omega) _
  · have d32 : decide ((4294967296 : Int) ≤ x) = false := by simpa using h32
    by_cases h16 : (65536 : Int) ≤ x
    · by_cases h8 : (256 : Int) ≤ x / 65536
      · go_enter Tryd.func85, Tryd.ntmps85
        go_wp2
        go_ret
        refine ⟨congrArg (fun z => Ending.returned (Value.int .i64 z)) ?_, rfl⟩
        rw [hL.out]
        exact len_close x _ 24 (by omega) (by omega) (by decide) hx (by omega) (by omega) _
      · have d8 : decide ((256 : Int) ≤ x / 65536) = false := by simpa using h8
        go_enter Tryd.func85, Tryd.ntmps85
        go_wp2
        go_ret
        refine ⟨congrArg (fun z => Ending.returned (Value.int .i64 z)) ?_, rfl⟩
        rw [hL.out]
        exact len_close x _ 16 (by omega) (by omega) (by decide) hx (by omega) (by omega) _
    · have d16 : decide ((65536 : Int) ≤ x) = false := by simpa using h16
      by_cases h8 : (256 : Int) ≤ x
      · go_enter Tryd.func85, Tryd.ntmps85
        go_wp2
        go_ret
        refine ⟨congrArg (fun z => Ending.returned (Value.int .i64 z)) ?_, rfl⟩
        rw [hL.out]
        exact len_close x _ 8 (by omega) (by omega) (by decide) hx (by omega) (by omega) _
      · have d8 : decide ((256 : Int) ≤ x) = false := by simpa using h8
        go_enter Tryd.func85, Tryd.ntmps85
        go_wp2
        go_ret
        refine ⟨congrArg (fun z => Ending.returned (Value.int .i64 z)) ?_, rfl⟩
        rw [hL.out]
        exact len_close0 x (by omega) (by omega) _

set_option maxRecDepth 100000 in
set_option maxHeartbeats 400000 in
theorem len_any (n : Nat) (w : World) (hn : n ≤ 4611686018427387904) :
    Calls Tryd.prog 75 #[.int .u64 (n : Int)] w fun e w' => e = .returned (.int .i64 (Lib.bitLen n : Int)) ∧ w' = w := by
  have hc := len64_walk (n : Int) (Lib.bitLen n : Int) w (by omega) (by omega) (by show _ = _; simp)
  obtain ⟨L, hL⟩ : ∃ L : Int, L = (Lib.bitLen n : Int) := ⟨_, rfl⟩
  rw [← hL] at hc ⊢
  clear hL
  go_enter Tryd.func75, Tryd.ntmps75
  go_wp2_with (first | (go_at_call 85; refine hc.mono ?_; rintro e w1 ⟨rfl, rfl⟩))
  go_ret
  exact ⟨rfl, rfl⟩

end Go.Proofs.YtdjaemobfbbkoaaDoor

namespace Go.Proofs.YtdjaemobfbbkoaaDoor
open Go.RowKit

set_option maxRecDepth 100000 in
set_option maxHeartbeats 1000000 in
theorem grown_any (v : Value) (l : List UInt8) (m : Nat) (w : World) (h : HB w v l) (hbig : l.length ≤ 140737488355328) (hm : m ≤ 140737488355328) :
    Calls Tryd.prog 65 #[v, .int .i64 (m : Int)] w fun e w' => ∃ p c, e = .returned (.slice p l.length c) ∧ w'.ownsRow w.heap.size 5 1 (.slice p l.length c) l.length (bcs l) ∧ Below w.heap.size w w' := by
  obtain ⟨p, c, rfl⟩ := h.shape
  obtain ⟨i0, hi, hz0, hz1, hz2⟩ := info_parts i_u8
  go_enter Tryd.func65, Tryd.ntmps65
  go_wp2_with (first | (at_make; refine wpList_make_own _ rfl _ _ 22 rfl w.heap.size 5 i0 (.int .u8 0) 1 Tryd.underlying22 hi hz0 hz1 .i64 .i64 _ (l.length + m) rfl rfl ?qa ?qb ?qc ?qd ?_))
  case qa => omega
  case qb => rw [hz2]; omega
  case qc => unfold maxLen; omega
  case qd => exact Nat.le_refl _
  intro w1 hown1 hgrow1
  have hb1 : Below w.heap.size w w1 := (Below.refl _ w).grown hgrow1 (Nat.le_refl _) (by intro k hk; cases hk)
  have h1 := h.later hb1
  have hs1 := hb1.size
  clear hgrow1 h
  go_wp2_with (first | (at_builtin; refine wpList_append_hb rfl (.tmp 9) (.tmp 10) 22 rfl w.heap.size 5 Tryd.underlying22 i_u8 _ _ _ rfl hown1 _ _ _ l rfl h1 ?sa ?sb ?_))
  case sa => omega
  case sb => exact hs1
  intro v2 w2 hown2 hgrow2
  have hb2 : Below w.heap.size w w2 := hb1.grown hgrow2 hs1 (by intro k hk; cases hk; exact Nat.le_refl _)
  obtain ⟨p2, c2, rfl⟩ := owns_shape hown2
  clear hgrow2 hown1 h1
  go_wp2
  go_ret
  exact ⟨_, _, rfl, hown2, hb2⟩

def lenW : Value → Nat | .slice _ n _ => n | _ => 0

theorem cnumB (N j : Nat) : Value.int .u8 ((N : Int) / 2 ^ (8 * j) % 256) = bc (UInt8.ofNat (N / 256 ^ j)) := by
  unfold bc
  rw [show (256 : Nat) ^ j = 2 ^ (8 * j) by rw [Nat.pow_mul]]
  rw [show (N : Int) / 2 ^ (8 * j) % 256 = ((N / 2 ^ (8 * j) % 256 : Nat) : Int) by simp]
  simp

/-- What stands behind the bytes F when k of the number's c bytes are put. -/
def putTo (F : List UInt8) (N c k : Nat) : List UInt8 := F ++ (UInt8.ofNat c :: beN (N / 256 ^ (c - k)) k)
theorem putTo_length (F : List UInt8) (N c k : Nat) : (putTo F N c k).length = F.length + 1 + k := by unfold putTo; simp [beN_length]; omega
theorem putTo_next (F : List UInt8) (N c k : Nat) (hk : k < c) : putTo F N c k ++ [UInt8.ofNat (N / 256 ^ (c - (k + 1)))] = putTo F N c (k + 1) := by
  unfold putTo
  rw [beN_next N c k hk]
  simp
theorem putTo_all (F : List UInt8) (N : Nat) : putTo F N (cnt N) (cnt N) = F ++ numL N := by
  unfold putTo numL ndigs
  simp

set_option maxRecDepth 100000 in
set_option maxHeartbeats 1000000 in
theorem cnum_any (p : Option Addr) (c : Nat) (F : List UInt8) (base : Nat) (n : Int) (w : World) (h : w.ownsRow base 5 1 (.slice p F.length c) F.length (bcs F)) (hbase : base ≤ w.heap.size) (hbig : F.length ≤ 140737488355300) :
    Calls Tryd.prog 64 #[.slice p F.length c, .int .i64 n] w fun e w' => ∃ p1 c1, e = .returned (.slice p1 (F ++ numL (clampN n)).length c1) ∧ w'.ownsRow base 5 1 (.slice p1 (F ++ numL (clampN n)).length c1) (F ++ numL (clampN n)).length (bcs (F ++ numL (clampN n))) ∧ Below base w w' := by
  obtain ⟨i0, hi, hz0, hz1, hz2⟩ := info_parts i_u8
  have hNle := clampN_le n
  have hcl : min (max n 0) 4611686018427387904 = (clampN n : Int) := by unfold clampN; omega
  generalize clampN n = N at *
  have hlen := len_any N
  have hc8 := cnt_le8 N (by omega)
  have hcnt : ((Lib.bitLen N : Int) + 7).tdiv 8 = (cnt N : Int) := by
    rw [Int.tdiv_eq_ediv_of_nonneg (by omega)]
    unfold cnt
    omega
  have hbl : (Lib.bitLen N : Int) ≤ 64 := by unfold cnt at hc8; omega
  rw [← putTo_all F N]
  have hN2 : (N : Int) ≤ 4611686018427387904 := by omega
  have hn1 := putTo_next F N (cnt N)
  have hl1 := putTo_length F N (cnt N)
  have h00 : putTo F N (cnt N) 0 = F ++ [UInt8.ofNat (cnt N)] := by unfold putTo; rfl
  generalize cnt N = C at *
  generalize putTo F N C = G at *
  generalize Lib.bitLen N = bl at *
  go_enter Tryd.func64, Tryd.ntmps64
  go_wp2_with fail
  refine (hlen w hNle).mono ?_
  rintro e w1 ⟨rfl, rfl⟩
  clear hlen
  have HV : Hid (Value.int .u8 (C : Int) = bc (UInt8.ofNat C)) := by show Value.int .u8 (C : Int) = bc (UInt8.ofNat C); simp [bc]; omega
  go_wp2_with (first | (at_builtin; refine wpList_append_own _ rfl (.tmp 15) (.tmp 18) 22 rfl base 5 i0 (.int .u8 0) 1 1 Tryd.underlying22 hi hz0 hz1 hz2 rfl (by decide) _ _ _ rfl (h.alloc _) ⟨w1.heap.size, 0, none⟩ 1 1 [.int .u8 (C : Int)] rfl rfl ?ua ?ub ?uc ?ud ?ue ?_))
  case ua => exact cell_one_new _ _ _
  case ub => intro u hu; simp at hu; subst hu; rfl
  case uc => unfold maxLen; omega
  case ud => omega
  case ue => simp; omega
  intro v2 w2 hown2 hgrow2 _
  have hb2 : Below base w1 w2 := ((Below.refl base w1).alloc hbase _).grown hgrow2 (by simp; omega) (fun k hk => (h.lt k hk).1)
  rw [HV.out, show bcs F ++ [bc (UInt8.ofNat C)] = bcs (F ++ [UInt8.ofNat C]) by simp [bcs], ← h00] at hown2
  have hl0 := hl1 0
  rw [Nat.add_zero] at hl0
  rw [← hl0] at hown2
  obtain ⟨p2, c2, rfl⟩ := owns_shape hown2
  have HL1 : Hid (∀ k, (G k).length = F.length + 1 + k) := hl1
  have HN1 : Hid (∀ k, k < C → G k ++ [UInt8.ofNat (N / 256 ^ (C - (k + 1)))] = G (k + 1)) := hn1
  clear hgrow2 h HV h00 hl0 hcnt hcl hl1 hn1
  go_wp2
  go_loopw [0, 6] (fun v i wr => ∃ (k : Nat) (p5 : Option Addr) (c5 : Nat), k ≤ C ∧ i = .int .i64 ((C : Int) - 1 - k) ∧ v = .slice p5 (G k).length c5 ∧ wr.ownsRow base 5 1 (.slice p5 (G k).length c5) (G k).length (bcs (G k)) ∧ Below base w1 wr)
    (fun v _ _ => C + (F.length + 1) - lenW v)
  case atStart => exact ⟨0, p2, c2, Nat.zero_le _, by go_num, rfl, hown2, hb2⟩
  case round =>
    clear hown2 hb2
    obtain ⟨k, p5, c5, hk, rfl, rfl, hown, hbe⟩ := hrel
    have hsz := hbe.size
    have HLK : Hid ((G k).length = F.length + 1 + k) := HL1.out k
    by_cases hlt : k < C
    · obtain ⟨j, hj⟩ : ∃ j, j = C - (k + 1) := ⟨_, rfl⟩
      have hji : (C : Int) - 1 - (k : Int) = (j : Int) := by omega
      have HST := HN1.out k hlt
      rw [← hj] at HST
      have HS : Hid (G k ++ [UInt8.ofNat (N / 256 ^ j)] = G (k + 1)) := HST
      have HV : Hid (Value.int .u8 ((N : Int) / 2 ^ (8 * j) % 256) = bc (UInt8.ofNat (N / 256 ^ j))) := cnumB N j
      rw [hji]
      have HJ : Hid (j = C - (k + 1)) := hj
      have hj8 : (j : Int) ≤ 8 := by omega
      clear HST hj hji
      go_wp2_with (first | (at_builtin; refine wpList_append_own _ rfl (.tmp 26) (.tmp 32) 22 rfl base 5 i0 (.int .u8 0) 1 1 Tryd.underlying22 hi hz0 hz1 hz2 rfl (by decide) _ _ _ rfl (hown.alloc _) ⟨wr.heap.size, 0, none⟩ 1 1 [.int .u8 ((N : Int) / 2 ^ (8 * j) % 256)] rfl rfl ?va ?vb ?vc ?vd ?ve ?_))
      case va => exact cell_one_new _ _ _
      case vb => intro u hu; simp at hu; subst hu; rfl
      case vc => have := HLK.out; unfold maxLen; omega
      case vd => have := HLK.out; omega
      case ve => simp; omega
      intro v6 w6 hown6 hgrow6 _
      have hb6 : Below base w1 w6 := (hbe.alloc (by omega) _).grown hgrow6 (by simp; omega) (fun k hk => (hown.lt k hk).1)
      rw [HV.out, show bcs (G k) ++ [bc (UInt8.ofNat (N / 256 ^ j))] = bcs (G k ++ [UInt8.ofNat (N / 256 ^ j)]) by simp [bcs], HS.out] at hown6
      have HFL : Hid ((G k).length + 1 = (G (k + 1)).length) := by show (G k).length + 1 = _; rw [HL1.out, HL1.out]; omega
      rw [HFL.out] at hown6
      obtain ⟨p6, c6, hv6⟩ := owns_shape hown6
      rw [hv6] at hown6 ⊢
      have H6 : Hid (w6.ownsRow base 5 1 (.slice p6 (G (k + 1)).length c6) (G (k + 1)).length (bcs (G (k + 1)))) := hown6
      clear hv6 hgrow6 hown hown6 hbe HV HS
      go_wp2
      have hj := HJ.out
      exact ⟨⟨k + 1, p6, c6, by omega, by congr 1; omega, rfl, H6.out, hb6⟩, by simp [lenW]; have := HFL.out; have := HLK.out; omega⟩
    · have hkC : k = C := by omega
      subst hkC
      have hneg : (k : Int) - 1 - (k : Int) = -1 := by omega
      rw [hneg]
      have H5 : Hid (wr.ownsRow base 5 1 (.slice p5 (G k).length c5) (G k).length (bcs (G k))) := hown
      clear hown hneg
      go_wp2
      go_ret
      exact ⟨_, _, rfl, H5.out, hbe⟩

end Go.Proofs.YtdjaemobfbbkoaaDoor

namespace Go.Proofs.YtdjaemobfbbkoaaDoor
open Go.RowKit

set_option maxRecDepth 100000 in
set_option maxHeartbeats 400000 in
theorem cuint_any (v : Value) (l : List UInt8) (n : Int) (w : World) (h : HB w v l) (hbig : l.length ≤ 140737488355300) :
    Calls Tryd.prog 38 #[v, .int .i64 n] w fun e w' => ∃ p c, e = .returned (.slice p (l ++ numL (clampN n)).length c) ∧ w'.ownsRow w.heap.size 5 1 (.slice p (l ++ numL (clampN n)).length c) (l ++ numL (clampN n)).length (bcs (l ++ numL (clampN n))) ∧ Below w.heap.size w w' := by
  obtain ⟨p, c, rfl⟩ := h.shape
  have hg := grown_any _ l 9 w h (by omega) (by omega)
  generalize hR : l ++ numL (clampN n) = R
  have HR : Hid (l ++ numL (clampN n) = R) := hR
  clear hR h
  go_enter Tryd.func38, Tryd.ntmps38
  go_wp2_with fail
  refine hg.mono ?_
  rintro e w1 ⟨p1, c1, rfl, hown1, hb1⟩
  have hc := cnum_any p1 c1 l w.heap.size n w1 hown1 hb1.size hbig
  rw [HR.out] at hc
  clear hg hown1
  go_wp2_with fail
  refine hc.mono ?_
  rintro e w2 ⟨p2, c2, rfl, hown2, hb2⟩
  have hb02 := hb1.trans hb2
  clear hc hb1 hb2
  go_wp2
  go_ret
  exact ⟨_, _, rfl, hown2, hb02⟩

theorem clampN_nat (n : Nat) (h : n ≤ 4611686018427387904) : clampN (n : Int) = n := by unfold clampN; omega

end Go.Proofs.YtdjaemobfbbkoaaDoor

namespace Go.Proofs.YtdjaemobfbbkoaaDoor
open Go.RowKit

def natOf : Value → Nat | .int _ i => i.toNat | _ => 0

/-- One byte in a new block is a row that the call owns. -/
theorem owns_one (w : World) (base : Nat) (e : TypeId) (y : UInt8) (V : Value) (hV : V = bc y) (hb : base ≤ w.heap.size) : (w.alloc (.cells #[V] e)).ownsRow base e 1 (.slice (some ⟨w.heap.size, 0, none⟩) 1 1) 1 (bcs [y]) := by
  subst hV
  exact ⟨rfl, .inr ⟨w.heap.size, 1, #[bc y], rfl, hb, heap_alloc_new w _, Nat.le_refl _, by unfold maxLen; omega, rfl, rfl⟩⟩

theorem low_byte (m : Nat) : Value.int .u8 ((m : Int) % 256) = bc (UInt8.ofNat m) := by
  unfold bc
  rw [show (m : Int) % 256 = ((m % 256 : Nat) : Int) by omega]
  simp

set_option maxRecDepth 100000 in
set_option maxHeartbeats 2000000 in
theorem ruint_any (v : Value) (l : List UInt8) (n : Int) (w : World) (h : HB w v l) (hbig : l.length ≤ 140737488355300) :
    Calls Tryd.prog 40 #[v, .int .i64 n] w fun e w' => ∃ p c, e = .returned (.slice p (l ++ numL (clampN n)).length c) ∧ w'.ownsRow w.heap.size 5 1 (.slice p (l ++ numL (clampN n)).length c) (l ++ numL (clampN n)).length (bcs (l ++ numL (clampN n))) ∧ Below w.heap.size w w' := by
  obtain ⟨p, c, rfl⟩ := h.shape
  obtain ⟨i0, hi, hz0, hz1, hz2⟩ := info_parts i_u8
  have hNle := clampN_le n
  have hcl : max 0 (min n 4611686018427387904) = (clampN n : Int) := by unfold clampN; omega
  generalize clampN n = N at *
  have hc8 := cnt_le8 N (by omega)
  have HNL : Hid (numL N = UInt8.ofNat (ndigs N).length :: ndigs N) := by show _ = _; unfold numL; rw [ndigs_length]
  have hdl : (ndigs N).length ≤ 8 := by rw [ndigs_length]; exact hc8
  go_enter Tryd.func40, Tryd.ntmps40
  go_wp2
  go_loopw [1, 5] (fun i v wr => ∃ (m : Nat) (L : List UInt8) (p5 : Option Addr) (c5 : Nat), m ≤ N ∧ i = .int .i64 (m : Int) ∧ v = .slice p5 L.length c5 ∧ HB wr (.slice p5 L.length c5) L ∧ ndigs N = ndigs m ++ L ∧ Below w.heap.size w wr)
    (fun i _ _ => natOf i)
  case atStart => exact ⟨N, [], none, 0, Nat.le_refl _, rfl, rfl, HB.nil _, by simp, Below.refl _ _⟩
  case round =>
    obtain ⟨m, L, p5, c5, hmN, rfl, rfl, hL, hdig, hbe⟩ := hrel
    have hsz := hbe.size
    have hLl : L.length ≤ 8 := by
      have := congrArg List.length hdig
      rw [List.length_append] at this
      omega
    by_cases hm : 0 < m
    · have HD : Hid (ndigs N = ndigs (m / 256) ++ (UInt8.ofNat m :: L)) := by
        show _ = _
        rw [hdig, ndigs_step m (by omega) (by omega)]
        simp
      have hm2 : (0 : Int) < (m : Int) := by omega
      have hown0 := owns_one wr w.heap.size 5 (UInt8.ofNat m) _ (low_byte m) hsz
      have hL0 := hL.later ((Below.refl _ wr).alloc (Nat.le_refl _) (.cells #[Value.int .u8 ((m : Int) % 256)] 5))
      clear hdig hL h HNL
      go_wp2_with (first | (at_builtin; refine wpList_append_hb rfl (.tmp 14) (.tmp 15) 22 rfl w.heap.size 5 Tryd.underlying22 i_u8 _ _ _ rfl hown0 _ _ _ L rfl hL0 ?sa ?sb ?_))
      case sa => omega
      case sb => simp; omega
      intro v2 w2 hown2 hgrow2
      have hb2 : Below w.heap.size w w2 := (hbe.alloc hsz _).grown hgrow2 (by simp; omega) (by intro k hk; cases hk; exact hsz)
      have hh : HB w2 v2 (UInt8.ofNat m :: L) := by
        rw [← bcs_append] at hown2
        exact HB.of_owns hown2
      obtain ⟨p2, c2, rfl⟩ := hh.shape
      have HH : Hid (HB w2 (.slice p2 (UInt8.ofNat m :: L).length c2) (UInt8.ofNat m :: L)) := hh
      clear hgrow2 hown2 hown0 hL0 hbe hh
      go_wp2
      exact ⟨⟨m / 256, UInt8.ofNat m :: L, p2, c2, by omega, by rw [show ((m / 256 : Nat) : Int) = (m : Int) / 256 by omega], rfl, HH.out, HD.out, hb2⟩, by simp [natOf]; omega⟩
    · obtain rfl : m = 0 := by omega
      rw [ndigs_zero, List.nil_append] at hdig
      rw [hdig] at HNL
      have hl1 := h.later hbe
      have h2 : HB (wr.alloc (.cells #[] 5)) (.slice p l.length c) l := hl1.later ((Below.refl _ wr).alloc (Nat.le_refl _) _)
      have hb1 : Below w.heap.size w (wr.alloc (.cells #[] 5)) := hbe.alloc hsz _
      have hL1 : HB (wr.alloc (.cells #[] 5)) (.slice p5 L.length c5) L := hL.later ((Below.refl _ wr).alloc (Nat.le_refl _) _)
      clear hdig h hl1 hmN
      go_wp2_with (first | (at_builtin; refine wpList_append_hb rfl (.tmp 19) (.tmp 20) 22 rfl wr.heap.size 5 Tryd.underlying22 i_u8 _ 0 [] rfl (World.ownsRow_made wr #[] 0 (Nat.le_refl _) (Nat.zero_le _) rfl) _ _ _ l rfl h2 ?qa ?qb ?_))
      case qa => omega
      case qb => simp
      intro v3 w3 hown3 hgrow3
      have hbr3 : Below wr.heap.size wr w3 := ((Below.refl _ wr).alloc (Nat.le_refl _) _).grown hgrow3 (by simp) (by intro k hk; cases hk; exact Nat.le_refl _)
      have hb3 : Below w.heap.size w w3 := hbe.trans (hbr3.mono hsz)
      have hs3 := hb3.size
      have hown3' : w3.ownsRow wr.heap.size 5 1 v3 l.length (bcs l) := by simpa using hown3
      obtain ⟨p3, c3, rfl⟩ := owns_shape hown3'
      have hsr3 := hbr3.size
      clear hown3 hgrow3 h2 hL1 hb1
      have HV : Hid (Value.int .u8 (L.length : Int) = bc (UInt8.ofNat L.length)) := by show Value.int .u8 (L.length : Int) = bc (UInt8.ofNat L.length); simp [bc]; omega
      go_wp2_with (first | (at_builtin; refine wpList_append_own _ rfl (.tmp 21) (.tmp 25) 22 rfl wr.heap.size 5 i0 (.int .u8 0) 1 1 Tryd.underlying22 hi hz0 hz1 hz2 rfl (by decide) _ _ _ rfl (hown3'.alloc _) ⟨w3.heap.size, 0, none⟩ 1 1 [.int .u8 (L.length : Int)] rfl rfl ?ua ?ub ?uc ?ud ?ue ?_))
      case ua => exact cell_one_new _ _ _
      case ub => intro u hu; simp at hu; subst hu; rfl
      case uc => unfold maxLen; omega
      case ud => omega
      case ue => simp; omega
      intro v4 w4 hown4 hgrow4 _
      have hbr4 : Below wr.heap.size wr w4 := (hbr3.alloc hsr3 _).grown hgrow4 (by simp; omega) (fun k hk => (hown3'.lt k hk).1)
      have hL4 := hL.later hbr4
      have hb4 : Below w.heap.size w w4 := hbe.trans (hbr4.mono hsz)
      have hsr4 := hbr4.size
      have hs4 := hb4.size
      rw [HV.out, show bcs l ++ [bc (UInt8.ofNat L.length)] = bcs (l ++ [UInt8.ofNat L.length]) by simp [bcs]] at hown4
      obtain ⟨p4, c4, rfl⟩ := owns_shape hown4
      clear hgrow4 hown3' hbr3 hb3 hs3 HV hL hbe
      go_wp2_with (first | (at_builtin; refine wpList_append_hb rfl (.tmp 27) (.tmp 28) 22 rfl wr.heap.size 5 Tryd.underlying22 i_u8 _ _ _ rfl hown4 _ _ _ L rfl hL4 ?ra ?rb ?_))
      case ra => omega
      case rb => exact hsr4
      intro v5 w5 hown5 hgrow5
      have hb5 : Below w.heap.size w w5 := hb4.grown hgrow5 hs4 (fun k hk => Nat.le_trans hsz (hown4.lt k hk).1)
      have HE : Hid (l ++ [UInt8.ofNat L.length] ++ L = l ++ numL N) := by show _ = _; rw [HNL.out]; simp
      have HQ : Hid ((l ++ numL N).length = l.length + 1 + L.length) := by show _ = _; rw [← HE.out]; simp; omega
      rw [← bcs_append, HE.out, ← HQ.out] at hown5
      have hown6 := owns_mono hown5 hsz
      obtain ⟨p6, c6, rfl⟩ := owns_shape hown6
      have H6 : Hid (w5.ownsRow w.heap.size 5 1 (.slice p6 (l ++ numL N).length c6) (l ++ numL N).length (bcs (l ++ numL N))) := hown6
      clear hgrow5 hown4 hown5 hown6 hL4 hb4 HE HQ
      go_wp2
      go_ret
      exact ⟨_, _, rfl, H6.out, hb5⟩

end Go.Proofs.YtdjaemobfbbkoaaDoor
