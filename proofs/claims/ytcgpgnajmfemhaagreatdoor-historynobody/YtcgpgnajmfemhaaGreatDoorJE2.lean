/- What this text holds: plain facts about numbers as bytes (no program): the bytes of a number, the highest first, without a nought ahead; how many they are; the number of bytes. What this text proves: the walks of math/bits' Len64 and Len over this program: how many bits a number takes. What this text proves: the walks of codec.grown and codec.number over this program: bytes in memory of their own with room; a number behind bytes that the caller owns. -/
import Derived.Lib.BitFns
import Derived.Test.YtcgpgnajmfemhaaGreatDoorJQ4
import Derived.Test.YtcgpgnajmfemhaaGreatDoorJOw
import Derived.Lib.MinMax
namespace Go.Proofs.YtcgpgnajmfemhaaGreatDoor

/-- The last c bytes of a number, the highest first. -/
def beN : Nat → Nat → List UInt8
  | _, 0 => []
  | n, c + 1 => beN (n / 256) c ++ [UInt8.ofNat n]

theorem beN_length : ∀ (c n : Nat), (beN n c).length = c
  | 0, n => rfl
  | c + 1, n => by simp [beN, beN_length c]

/-- How many bytes a number takes. -/
def cnt (n : Nat) : Nat := (Lib.bitLen n + 7) / 8

theorem bitLen_zero : Lib.bitLen 0 = 0 := by decide +kernel
theorem bitLen_small : ∀ n : Fin 256, n.val ≠ 0 → 1 ≤ Lib.bitLen n.val ∧ Lib.bitLen n.val ≤ 8 := by decide +kernel

theorem cnt_zero : cnt 0 = 0 := by unfold cnt; rw [bitLen_zero]
theorem cnt_step (n : Nat) (h0 : n ≠ 0) (h : n < 2 ^ 64) : cnt n = cnt (n / 256) + 1 := by
  unfold cnt
  by_cases hs : n < 256
  · have := bitLen_small ⟨n, hs⟩ h0
    simp only at this
    rw [show n / 256 = 0 by omega, bitLen_zero]
    omega
  · have := Lib.bitLen_shift 8 n (by omega) h
    rw [show (2 : Nat) ^ 8 = 256 from rfl] at this
    rw [this]
    omega

/-- The bytes of a number. -/
def ndigs (n : Nat) : List UInt8 := beN n (cnt n)

theorem ndigs_zero : ndigs 0 = [] := by unfold ndigs; rw [cnt_zero]; rfl
theorem ndigs_step (n : Nat) (h0 : n ≠ 0) (h : n < 2 ^ 64) : ndigs n = ndigs (n / 256) ++ [UInt8.ofNat n] := by
  unfold ndigs
  rw [cnt_step n h0 h]
  rfl
theorem ndigs_length (n : Nat) : (ndigs n).length = cnt n := beN_length _ _

theorem cnt_le : ∀ (f n : Nat), n < 256 ^ f → f ≤ 8 → cnt n ≤ f
  | 0, n, h, _ => by
    have : n = 0 := by simpa using h
    subst this
    rw [cnt_zero]
    exact Nat.le_refl _
  | f + 1, n, h, hf => by
    by_cases h0 : n = 0
    · subst h0; rw [cnt_zero]; omega
    · have hp : (256 : Nat) ^ (f + 1) ≤ 256 ^ 8 := Nat.pow_le_pow_right (by omega) hf
      rw [cnt_step n h0 (by rw [show (2 : Nat) ^ 64 = 256 ^ 8 from rfl]; omega)]
      have := cnt_le f (n / 256) (by rw [Nat.pow_succ] at h; omega) (by omega)
      omega

theorem cnt_le8 (n : Nat) (h : n < 2 ^ 64) : cnt n ≤ 8 := cnt_le 8 n (by rw [show (256 : Nat) ^ 8 = 2 ^ 64 from rfl]; exact h) (Nat.le_refl _)

/-- A number, put: how many bytes, and the bytes. -/
def numL (n : Nat) : List UInt8 := UInt8.ofNat (cnt n) :: ndigs n
def bytesL (s : List UInt8) : List UInt8 := numL s.length ++ s
def flagL (b : Bool) : List UInt8 := [if b then 1 else 0]
/-- What counts of a number that is put. -/
def clampN (n : Int) : Nat := (max 0 (min n 4611686018427387904)).toNat

theorem clampN_le (n : Int) : clampN n ≤ 4611686018427387904 := by unfold clampN; omega
theorem numL_length (n : Nat) : (numL n).length = 1 + cnt n := by unfold numL; rw [List.length_cons, ndigs_length]; omega

/-- The first bytes that the loop has put, at index i. -/
theorem beN_next (n c k : Nat) (hk : k < c) : beN (n / 256 ^ (c - (k + 1))) (k + 1) = beN (n / 256 ^ (c - k)) k ++ [UInt8.ofNat (n / 256 ^ (c - (k + 1)))] := by
  rw [beN, Nat.div_div_eq_div_mul, ← Nat.pow_succ, show (c - (k + 1)).succ = c - k by omega]

/-- The number of bytes. -/
def valL (l : List UInt8) : Nat := l.foldl (fun n d => n * 256 + d.toNat) 0

theorem valL_snoc (l : List UInt8) (d : UInt8) : valL (l ++ [d]) = valL l * 256 + d.toNat := by simp [valL]
theorem valL_nil : valL [] = 0 := rfl

theorem foldl_val : ∀ (l : List UInt8) (acc : Nat), l.foldl (fun n d => n * 256 + d.toNat) acc = acc * 256 ^ l.length + valL l
  | [], acc => by simp [valL]
  | d :: l, acc => by
    have h1 := foldl_val l (acc * 256 + d.toNat)
    have h2 := foldl_val l d.toNat
    unfold valL
    simp only [List.foldl_cons, List.length_cons, Nat.zero_mul, Nat.zero_add]
    rw [h1, h2, Nat.pow_succ, Nat.add_mul, Nat.mul_assoc, Nat.mul_comm 256 (256 ^ l.length), Nat.add_assoc]

theorem valL_cons (d : UInt8) (l : List UInt8) : valL (d :: l) = d.toNat * 256 ^ l.length + valL l := by
  have := foldl_val l d.toNat
  unfold valL
  simp only [List.foldl_cons, Nat.zero_mul, Nat.zero_add]
  exact this

theorem valL_lt : ∀ l : List UInt8, valL l < 256 ^ l.length
  | [] => by simp [valL]
  | d :: l => by
    have h1 := valL_lt l
    have h2 := d.toNat_lt
    rw [valL_cons, List.length_cons, Nat.pow_succ]
    have h3 : d.toNat * 256 ^ l.length ≤ 255 * 256 ^ l.length := Nat.mul_le_mul_right _ (by omega)
    omega

theorem valL_digs : ∀ (f n : Nat), n < 256 ^ f → f ≤ 8 → valL (ndigs n) = n
  | 0, n, h, _ => by
    have : n = 0 := by simpa using h
    subst this
    rw [ndigs_zero]
    rfl
  | f + 1, n, h, hf => by
    by_cases h0 : n = 0
    · subst h0; rw [ndigs_zero]; rfl
    · have hp : (256 : Nat) ^ (f + 1) ≤ 256 ^ 8 := Nat.pow_le_pow_right (by omega) hf
      rw [ndigs_step n h0 (by rw [show (2 : Nat) ^ 64 = 256 ^ 8 from rfl]; omega), valL_snoc, valL_digs f (n / 256) (by rw [Nat.pow_succ] at h; omega) (by omega)]
      simp
      omega

theorem beN_val : ∀ (m : Nat) (l : List UInt8), l.length = m → beN (valL l) m = l := by
  intro m
  induction m with
  | zero => intro l h; rw [List.eq_nil_of_length_eq_zero h]; rfl
  | succ m ih =>
    intro l h
    obtain ⟨l', d, rfl⟩ : ∃ l' d, l = l' ++ [d] := by
      have hne : l ≠ [] := fun e => by subst e; simp at h
      exact ⟨l.dropLast, l.getLast hne, (List.dropLast_concat_getLast hne).symm⟩
    have hd := d.toNat_lt
    rw [valL_snoc, beN, show (valL l' * 256 + d.toNat) / 256 = valL l' by omega, ih l' (by simpa using h)]
    congr 2
    apply UInt8.toNat_inj.1
    simp

/-- Bytes without a nought ahead are the bytes of their number. -/
theorem cnt_val (l : List UInt8) (h8 : l.length ≤ 8) (h : ∀ d r, l = d :: r → d ≠ 0) : cnt (valL l) = l.length := by
  have hlt := valL_lt l
  have h1 := cnt_le l.length (valL l) hlt h8
  rcases Nat.lt_or_ge (cnt (valL l)) l.length with h2 | h2
  · cases l with
    | nil => simp at h2
    | cons d r =>
      have hd : 1 ≤ d.toNat := by
        have := h d r rfl
        rcases Nat.eq_zero_or_pos d.toNat with h0 | h0
        · exact absurd (UInt8.toNat_inj.1 (by simpa using h0)) this
        · exact h0
      simp only [List.length_cons] at h2 h8
      have hle : cnt (valL (d :: r)) ≤ r.length := by omega
      have hbig : 256 ^ r.length ≤ valL (d :: r) := by
        rw [valL_cons]
        have := Nat.mul_le_mul_right (256 ^ r.length) hd
        omega
      have hp : (256 : Nat) ^ (r.length + 1) ≤ 256 ^ 8 := Nat.pow_le_pow_right (by omega) h8
      have hv := valL_digs 8 (valL (d :: r)) (by simp only [List.length_cons] at hlt; omega) (Nat.le_refl _)
      have hl := valL_lt (ndigs (valL (d :: r)))
      rw [hv, ndigs_length] at hl
      have := Nat.pow_le_pow_right (n := 256) (by omega) hle
      omega
  · omega

theorem ndigs_val (l : List UInt8) (h8 : l.length ≤ 8) (h : ∀ d r, l = d :: r → d ≠ 0) : ndigs (valL l) = l := by
  unfold ndigs
  rw [cnt_val l h8 h, beN_val _ l rfl]

/-- No nought stands ahead. -/
theorem ndigs_head (n : Nat) (hn : n < 2 ^ 64) : ∀ d r, ndigs n = d :: r → d ≠ 0 := by
  intro d r e h0
  subst h0
  have hv := valL_digs 8 n (by rw [show (256 : Nat) ^ 8 = 2 ^ 64 from rfl]; exact hn) (Nat.le_refl _)
  rw [e, valL_cons] at hv
  have hlt := valL_lt r
  have hl : (ndigs n).length = r.length + 1 := by rw [e]; rfl
  rw [ndigs_length] at hl
  have h8 := cnt_le8 n hn
  have := cnt_le r.length n (by simp at hv; omega) (by omega)
  omega

end Go.Proofs.YtcgpgnajmfemhaaGreatDoor

namespace Go.Proofs.YtcgpgnajmfemhaaGreatDoor
open Go.RowKit

theorem tab_get (y : Int) (h0 : 0 ≤ y) (h1 : y ≤ 255) (h : y.toNat < Lib.len8tab.size) : ((Lib.len8tab[y.toNat]'h).toNat : Int) = (Lib.bitLen y.toNat : Int) ∧ Lib.bitLen y.toNat ≤ 8 := by
  have e := Lib.len8_eq ⟨y.toNat, by omega⟩
  have hle : Lib.bitLen y.toNat ≤ 8 := Lib.bitLen_le8 ⟨y.toNat, by omega⟩
  unfold Lib.len8 at e
  simp only [Int.toNat_natCast] at e
  rw [getElem?_pos Lib.len8tab y.toNat h] at e
  simp only [Option.getD_some] at e
  exact ⟨e, hle⟩

theorem wrap_two (k a b : Nat) (hk : k ≤ 56) (ha : a ≤ 8) (hb : b = k + a) : wrap64 ((k : Int) + wrap64 (a : Int)) = (b : Int) := by
  unfold wrap64
  omega

theorem nat64 (x : Int) (h : x ≤ 4611686018427387904) : x.toNat < 2 ^ 64 := by omega

theorem len_close (x y : Int) (k : Nat) (h0 : 0 ≤ y) (h1 : y ≤ 255) (hk : k ≤ 56) (hx : x ≤ 4611686018427387904) (hge : 2 ^ k ≤ x.toNat) (hy : y.toNat = x.toNat / 2 ^ k) (h : y.toNat < Lib.len8tab.size) :
    wrap64 ((k : Int) + wrap64 ((Lib.len8tab[y.toNat]'h).toNat : Int)) = (Lib.bitLen x.toNat : Int) := by
  obtain ⟨e, hle⟩ := tab_get y h0 h1 h
  have hs := Lib.bitLen_shift k x.toNat hge (nat64 x hx)
  rw [← hy] at hs
  rw [e]
  exact wrap_two k _ _ hk hle hs

theorem len_close0 (x : Int) (h0 : 0 ≤ x) (h1 : x ≤ 255) (h : x.toNat < Lib.len8tab.size) : wrap64 (wrap64 ((Lib.len8tab[x.toNat]'h).toNat : Int)) = (Lib.bitLen x.toNat : Int) := by
  obtain ⟨e, hle⟩ := tab_get x h0 h1 h
  rw [e]
  have := wrap_two 0 _ _ (by omega) hle (Nat.zero_add _).symm
  simpa using this

set_option maxRecDepth 100000 in
set_option maxHeartbeats 4000000 in
theorem len64_walk (x L : Int) (w : World) (h0 : 0 ≤ x) (hx : x ≤ 4611686018427387904) (hL : Hid (L = (Lib.bitLen x.toNat : Int))) :
    Calls Tryz.prog 188 #[.int .u64 x] w fun e w' => e = .returned (.int .i64 L) ∧ w' = w := by
  have hs : ((Lib.len8tab.size : Nat) : Int) = 256 := by rw [Lib.len8tab_size]; rfl
  by_cases h32 : (4294967296 : Int) ≤ x
  · by_cases h16 : (65536 : Int) ≤ x / 4294967296
    · by_cases h8 : (256 : Int) ≤ x / 4294967296 / 65536
      · go_enter Tryz.func188, Tryz.ntmps188
        go_wp2
        go_ret
        refine ⟨congrArg (fun z => Ending.returned (Value.int .i64 z)) ?_, rfl⟩
        rw [hL.out]
        exact len_close x _ 56 (by omega) (by omega) (by decide) hx (by omega) (by omega) _
      · have d8 : decide ((256 : Int) ≤ x / 4294967296 / 65536) = false := by simpa using h8
        go_enter Tryz.func188, Tryz.ntmps188
        go_wp2
        go_ret
        refine ⟨congrArg (fun z => Ending.returned (Value.int .i64 z)) ?_, rfl⟩
        rw [hL.out]
        exact len_close x _ 48 (by omega) (by omega) (by decide) hx (by omega) (by omega) _
    · have d16 : decide ((65536 : Int) ≤ x / 4294967296) = false := by simpa using h16
      by_cases h8 : (256 : Int) ≤ x / 4294967296
      · go_enter Tryz.func188, Tryz.ntmps188
        go_wp2
        go_ret
        refine ⟨congrArg (fun z => Ending.returned (Value.int .i64 z)) ?_, rfl⟩
        rw [hL.out]
        exact len_close x _ 40 (by omega) (by omega) (by decide) hx (by omega) (by omega) _
      · have d8 : decide ((256 : Int) ≤ x / 4294967296) = false := by simpa using h8
        go_enter Tryz.func188, Tryz.ntmps188
        go_wp2
        go_ret
        refine ⟨congrArg (fun z => Ending.returned (Value.int .i64 z)) ?_, rfl⟩
        rw [hL.out]
        exact len_close x _ 32 (by omega) (by omega) (by decide) hx (by omega) (by omega) _
  · have d32 : decide ((4294967296 : Int) ≤ x) = false := by simpa using h32
    by_cases h16 : (65536 : Int) ≤ x
    · by_cases h8 : (256 : Int) ≤ x / 65536
      · go_enter Tryz.func188, Tryz.ntmps188
        go_wp2
        go_ret
        refine ⟨congrArg (fun z => Ending.returned (Value.int .i64 z)) ?_, rfl⟩
        rw [hL.out]
        exact len_close x _ 24 (by omega) (by omega) (by decide) hx (by omega) (by omega) _
      · have d8 : decide ((256 : Int) ≤ x / 65536) = false := by simpa using h8
        go_enter Tryz.func188, Tryz.ntmps188
        go_wp2
        go_ret
        refine ⟨congrArg (fun z => Ending.returned (Value.int .i64 z)) ?_, rfl⟩
        rw [hL.out]
        exact len_close x _ 16 (by omega) (by omega) (by decide) hx (by omega) (by omega) _
    · have d16 : decide ((65536 : Int) ≤ x) = false := by simpa using h16
      by_cases h8 : (256 : Int) ≤ x
      · go_enter Tryz.func188, Tryz.ntmps188
        go_wp2
        go_ret
        refine ⟨congrArg (fun z => Ending.returned (Value.int .i64 z)) ?_, rfl⟩
        rw [hL.out]
        exact len_close x _ 8 (by omega) (by omega) (by decide) hx (by omega) (by omega) _
      · have d8 : decide ((256 : Int) ≤ x) = false := by simpa using h8
        go_enter Tryz.func188, Tryz.ntmps188
        go_wp2
        go_ret
        refine ⟨congrArg (fun z => Ending.returned (Value.int .i64 z)) ?_, rfl⟩
        rw [hL.out]
        exact len_close0 x (by omega) (by omega) _

set_option maxRecDepth 100000 in
set_option maxHeartbeats 400000 in
theorem len_any (n : Nat) (w : World) (hn : n ≤ 4611686018427387904) :
    Calls Tryz.prog 149 #[.int .u64 (n : Int)] w fun e w' => e = .returned (.int .i64 (Lib.bitLen n : Int)) ∧ w' = w := by
  have hc := len64_walk (n : Int) (Lib.bitLen n : Int) w (by omega) (by omega) (by show _ = _; simp)
  obtain ⟨L, hL⟩ : ∃ L : Int, L = (Lib.bitLen n : Int) := ⟨_, rfl⟩
  rw [← hL] at hc ⊢
  clear hL
  go_enter Tryz.func149, Tryz.ntmps149
  go_wp2_with (first | (go_at_call 188; refine hc.mono ?_; rintro e w1 ⟨rfl, rfl⟩))
  go_ret
  exact ⟨rfl, rfl⟩

end Go.Proofs.YtcgpgnajmfemhaaGreatDoor

namespace Go.Proofs.YtcgpgnajmfemhaaGreatDoor
open Go.RowKit

set_option maxRecDepth 100000 in
set_option maxHeartbeats 1000000 in
theorem grown_any (v : Value) (l : List UInt8) (m : Nat) (w : World) (h : HB w v l) (hbig : l.length ≤ 140737488355328) (hm : m ≤ 140737488355328) :
    Calls Tryz.prog 132 #[v, .int .i64 (m : Int)] w fun e w' => ∃ p c, e = .returned (.slice p l.length c) ∧ w'.ownsRow w.heap.size 5 1 (.slice p l.length c) l.length (bcs l) ∧ Below w.heap.size w w' := by
  obtain ⟨p, c, rfl⟩ := h.shape
  obtain ⟨i0, hi, hz0, hz1, hz2⟩ := info_parts i_u8
  go_enter Tryz.func132, Tryz.ntmps132
  go_wp2_with (first | (at_make; refine wpList_make_own _ rfl _ _ 37 rfl w.heap.size 5 i0 (.int .u8 0) 1 Tryz.underlying37 hi hz0 hz1 .i64 .i64 _ (l.length + m) rfl rfl ?qa ?qb ?qc ?qd ?_))
  case qa => omega
  case qb => rw [hz2]; omega
  case qc => unfold maxLen; omega
  case qd => exact Nat.le_refl _
  intro w1 hown1 hgrow1
  have hb1 : Below w.heap.size w w1 := (Below.refl _ w).grown hgrow1 (Nat.le_refl _) (by intro k hk; cases hk)
  have h1 := h.later hb1
  have hs1 := hb1.size
  clear hgrow1 h
  go_wp2_with (first | (at_builtin; refine wpList_append_hb rfl (.tmp 9) (.tmp 10) 37 rfl w.heap.size 5 Tryz.underlying37 i_u8 _ _ _ rfl hown1 _ _ _ l rfl h1 ?sa ?sb ?_))
  case sa => omega
  case sb => exact hs1
  intro v2 w2 hown2 hgrow2
  have hb2 : Below w.heap.size w w2 := hb1.grown hgrow2 hs1 (by intro k hk; cases hk; exact Nat.le_refl _)
  obtain ⟨p2, c2, rfl⟩ := owns_shape hown2
  clear hgrow2 hown1 h1
  go_wp2
  go_ret
  exact ⟨_, _, rfl, hown2, hb2⟩

def lenW : Value → Nat | .slice _ n _ => n | _ => 0

theorem cnumB (N j : Nat) : Value.int .u8 ((N : Int) / 2 ^ (8 * j) % 256) = bc (UInt8.ofNat (N / 256 ^ j)) := by
  unfold bc
  rw [show (256 : Nat) ^ j = 2 ^ (8 * j) by rw [Nat.pow_mul]]
  rw [show (N : Int) / 2 ^ (8 * j) % 256 = ((N / 2 ^ (8 * j) % 256 : Nat) : Int) by simp]
  simp

/-- What stands behind the bytes F when k of the number's c bytes are put. -/
def putTo (F : List UInt8) (N c k : Nat) : List UInt8 := F ++ (UInt8.ofNat c :: beN (N / 256 ^ (c - k)) k)
theorem putTo_length (F : List UInt8) (N c k : Nat) : (putTo F N c k).length = F.length + 1 + k := by unfold putTo; simp [beN_length]; omega
theorem putTo_next (F : List UInt8) (N c k : Nat) (hk : k < c) : putTo F N c k ++ [UInt8.ofNat (N / 256 ^ (c - (k + 1)))] = putTo F N c (k + 1) := by
  unfold putTo
  rw [beN_next N c k hk]
  simp
theorem putTo_all (F : List UInt8) (N : Nat) : putTo F N (cnt N) (cnt N) = F ++ numL N := by
  unfold putTo numL ndigs
  simp

set_option maxRecDepth 100000 in
set_option maxHeartbeats 1000000 in
theorem cnum_any (p : Option Addr) (c : Nat) (F : List UInt8) (base : Nat) (n : Int) (w : World) (h : w.ownsRow base 5 1 (.slice p F.length c) F.length (bcs F)) (hbase : base ≤ w.heap.size) (hbig : F.length ≤ 140737488355300) :
    Calls Tryz.prog 131 #[.slice p F.length c, .int .i64 n] w fun e w' => ∃ p1 c1, e = .returned (.slice p1 (F ++ numL (clampN n)).length c1) ∧ w'.ownsRow base 5 1 (.slice p1 (F ++ numL (clampN n)).length c1) (F ++ numL (clampN n)).length (bcs (F ++ numL (clampN n))) ∧ Below base w w' := by
  obtain ⟨i0, hi, hz0, hz1, hz2⟩ := info_parts i_u8
  have hNle := clampN_le n
  have hcl : min (max n 0) 4611686018427387904 = (clampN n : Int) := by unfold clampN; omega
  generalize clampN n = N at *
  have hlen := len_any N
  have hc8 := cnt_le8 N (by omega)
  have hcnt : ((Lib.bitLen N : Int) + 7).tdiv 8 = (cnt N : Int) := by
    rw [Int.tdiv_eq_ediv_of_nonneg (by omega)]
    unfold cnt
    omega
  have hbl : (Lib.bitLen N : Int) ≤ 64 := by unfold cnt at hc8; omega
  rw [← putTo_all F N]
  have hN2 : (N : Int) ≤ 4611686018427387904 := by omega
  have hn1 := putTo_next F N (cnt N)
  have hl1 := putTo_length F N (cnt N)
  have h00 : putTo F N (cnt N) 0 = F ++ [UInt8.ofNat (cnt N)] := by unfold putTo; rfl
  generalize cnt N = C at *
  generalize putTo F N C = G at *
  generalize Lib.bitLen N = bl at *
  go_enter Tryz.func131, Tryz.ntmps131
  go_wp2_with fail
  refine (hlen w hNle).mono ?_
  rintro e w1 ⟨rfl, rfl⟩
  clear hlen
  have HV : Hid (Value.int .u8 (C : Int) = bc (UInt8.ofNat C)) := by show Value.int .u8 (C : Int) = bc (UInt8.ofNat C); simp [bc]; omega
  go_wp2_with (first | (at_builtin; refine wpList_append_own _ rfl (.tmp 15) (.tmp 18) 37 rfl base 5 i0 (.int .u8 0) 1 1 Tryz.underlying37 hi hz0 hz1 hz2 rfl (by decide) _ _ _ rfl (h.alloc _) ⟨w1.heap.size, 0, none⟩ 1 1 [.int .u8 (C : Int)] rfl rfl ?ua ?ub ?uc ?ud ?ue ?_))
  case ua => exact cell_one_new _ _ _
  case ub => intro u hu; simp at hu; subst hu; rfl
  case uc => unfold maxLen; omega
  case ud => omega
  case ue => simp; omega
  intro v2 w2 hown2 hgrow2 _
  have hb2 : Below base w1 w2 := ((Below.refl base w1).alloc hbase _).grown hgrow2 (by simp; omega) (fun k hk => (h.lt k hk).1)
  rw [HV.out, show bcs F ++ [bc (UInt8.ofNat C)] = bcs (F ++ [UInt8.ofNat C]) by simp [bcs], ← h00] at hown2
  have hl0 := hl1 0
  rw [Nat.add_zero] at hl0
  rw [← hl0] at hown2
  obtain ⟨p2, c2, rfl⟩ := owns_shape hown2
  have HL1 : Hid (∀ k, (G k).length = F.length + 1 + k) := hl1
  have HN1 : Hid (∀ k, k < C → G k ++ [UInt8.ofNat (N / 256 ^ (C - (k + 1)))] = G (k + 1)) := hn1
  clear hgrow2 h HV h00 hl0 hcnt hcl hl1 hn1
  go_wp2
  go_loopw [0, 6] (fun v i wr => ∃ (k : Nat) (p5 : Option Addr) (c5 : Nat), k ≤ C ∧ i = .int .i64 ((C : Int) - 1 - k) ∧ v = .slice p5 (G k).length c5 ∧ wr.ownsRow base 5 1 (.slice p5 (G k).length c5) (G k).length (bcs (G k)) ∧ Below base w1 wr)
    (fun v _ _ => C + (F.length + 1) - lenW v)
  case atStart => exact ⟨0, p2, c2, Nat.zero_le _, by go_num, rfl, hown2, hb2⟩
  case round =>
    clear hown2 hb2
    obtain ⟨k, p5, c5, hk, rfl, rfl, hown, hbe⟩ := hrel
    have hsz := hbe.size
    have HLK : Hid ((G k).length = F.length + 1 + k) := HL1.out k
    by_cases hlt : k < C
    · obtain ⟨j, hj⟩ : ∃ j, j = C - (k + 1) := ⟨_, rfl⟩
      have hji : (C : Int) - 1 - (k : Int) = (j : Int) := by omega
      have HST := HN1.out k hlt
      rw [← hj] at HST
      have HS : Hid (G k ++ [UInt8.ofNat (N / 256 ^ j)] = G (k + 1)) := HST
      have HV : Hid (Value.int .u8 ((N : Int) / 2 ^ (8 * j) % 256) = bc (UInt8.ofNat (N / 256 ^ j))) := cnumB N j
      rw [hji]
      have HJ : Hid (j = C - (k + 1)) := hj
      have hj8 : (j : Int) ≤ 8 := by omega
      clear HST hj hji
      go_wp2_with (first | (at_builtin; refine wpList_append_own _ rfl (.tmp 26) (.tmp 32) 37 rfl base 5 i0 (.int .u8 0) 1 1 Tryz.underlying37 hi hz0 hz1 hz2 rfl (by decide) _ _ _ rfl (hown.alloc _) ⟨wr.heap.size, 0, none⟩ 1 1 [.int .u8 ((N : Int) / 2 ^ (8 * j) % 256)] rfl rfl ?va ?vb ?vc ?vd ?ve ?_))
      case va => exact cell_one_new _ _ _
      case vb => intro u hu; simp at hu; subst hu; rfl
      case vc => have := HLK.out; unfold maxLen; omega
      case vd => have := HLK.out; omega
      case ve => simp; omega
      intro v6 w6 hown6 hgrow6 _
      have hb6 : Below base w1 w6 := (hbe.alloc (by omega) _).grown hgrow6 (by simp; omega) (fun k hk => (hown.lt k hk).1)
      rw [HV.out, show bcs (G k) ++ [bc (UInt8.ofNat (N / 256 ^ j))] = bcs (G k ++ [UInt8.ofNat (N / 256 ^ j)]) by simp [bcs], HS.out] at hown6
      have HFL : Hid ((G k).length + 1 = (G (k + 1)).length) := by show (G k).length + 1 = _; rw [HL1.out, HL1.out]; omega
      rw [HFL.out] at hown6
      obtain ⟨p6, c6, hv6⟩ := owns_shape hown6
      rw [hv6] at hown6 ⊢
      have H6 : Hid (w6.ownsRow base 5 1 (.slice p6 (G (k + 1)).length c6) (G (k + 1)).length (bcs (G (k + 1)))) := hown6
      clear hv6 hgrow6 hown hown6 hbe HV HS
      go_wp2
      have hj := HJ.out
      exact ⟨⟨k + 1, p6, c6, by omega, by congr 1; omega, rfl, H6.out, hb6⟩, by simp [lenW]; have := HFL.out; have := HLK.out; omega⟩
    · have hkC : k = C := by omega
      subst hkC
      have hneg : (k : Int) - 1 - (k : Int) = -1 := by omega
      rw [hneg]
      have H5 : Hid (wr.ownsRow base 5 1 (.slice p5 (G k).length c5) (G k).length (bcs (G k))) := hown
      clear hown hneg
      go_wp2
      go_ret
      exact ⟨_, _, rfl, H5.out, hbe⟩

end Go.Proofs.YtcgpgnajmfemhaaGreatDoor
