/- What this text proves: the walks of math/bits' Len64 and Len over this program: how many bits a number takes. -/
import Derived.Test.YtldmbfemoepfkaaEqual
import Derived.Test.YtldmbfemoepfkaaCodecPlain
namespace Go.Proofs.Ytldmbfemoepfkaa
open Go.RowKit

theorem tab_get (y : Int) (h0 : 0 ≤ y) (h1 : y ≤ 255) (h : y.toNat < Lib.len8tab.size) : ((Lib.len8tab[y.toNat]'h).toNat : Int) = (Lib.bitLen y.toNat : Int) ∧ Lib.bitLen y.toNat ≤ 8 := by
  have e := Lib.len8_eq ⟨y.toNat, by omega⟩
  have hle : Lib.bitLen y.toNat ≤ 8 := Lib.bitLen_le8 ⟨y.toNat, by omega⟩
  unfold Lib.len8 at e
  simp only [Int.toNat_natCast] at e
  rw [getElem?_pos Lib.len8tab y.toNat h] at e
  simp only [Option.getD_some] at e
  exact ⟨e, hle⟩

theorem wrap_two (k a b : Nat) (hk : k ≤ 56) (ha : a ≤ 8) (hb : b = k + a) : wrap64 ((k : Int) + wrap64 (a : Int)) = (b : Int) := by
  unfold wrap64
  omega

theorem nat64 (x : Int) (h : x ≤ 4611686018427387904) : x.toNat < 2 ^ 64 := by omega

theorem len_close (x y : Int) (k : Nat) (h0 : 0 ≤ y) (h1 : y ≤ 255) (hk : k ≤ 56) (hx : x ≤ 4611686018427387904) (hge : 2 ^ k ≤ x.toNat) (hy : y.toNat = x.toNat / 2 ^ k) (h : y.toNat < Lib.len8tab.size) :
    wrap64 ((k : Int) + wrap64 ((Lib.len8tab[y.toNat]'h).toNat : Int)) = (Lib.bitLen x.toNat : Int) := by
  obtain ⟨e, hle⟩ := tab_get y h0 h1 h
  have hs := Lib.bitLen_shift k x.toNat hge (nat64 x hx)
  rw [← hy] at hs
  rw [e]
  exact wrap_two k _ _ hk hle hs

theorem len_close0 (x : Int) (h0 : 0 ≤ x) (h1 : x ≤ 255) (h : x.toNat < Lib.len8tab.size) : wrap64 (wrap64 ((Lib.len8tab[x.toNat]'h).toNat : Int)) = (Lib.bitLen x.toNat : Int) := by
  obtain ⟨e, hle⟩ := tab_get x h0 h1 h
  rw [e]
  have := wrap_two 0 _ _ (by omega) hle (Nat.zero_add _).symm
  simpa using this

set_option maxRecDepth 100000 in
set_option maxHeartbeats 4000000 in
theorem len64_walk (x L : Int) (w : World) (h0 : 0 ≤ x) (hx : x ≤ 4611686018427387904) (hL : Hid (L = (Lib.bitLen x.toNat : Int))) :
    Calls Try.prog 78 #[.int .u64 x] w fun e w' => e = .returned (.int .i64 L) ∧ w' = w := by
  have hs : ((Lib.len8tab.size : Nat) : Int) = 256 := by rw [Lib.len8tab_size]; rfl
  by_cases h32 : (4294967296 : Int) ≤ x
  · by_cases h16 : (65536 : Int) ≤ x / 4294967296
    · by_cases h8 : (256 : Int) ≤ x / 4294967296 / 65536
      · go_enter Try.func78, Try.ntmps78
        go_wp2
        go_ret
        refine ⟨congrArg (fun z => Ending.returned (Value.int .i64 z)) ?_, rfl⟩
        rw [hL.out]
        exact len_close x _ 56 (by omega) (by omega) (by decide) hx (by omega) (by omega) _
      · have d8 : decide ((256 : Int) ≤ x / 4294967296 / 65536) = false := by simpa using h8
        go_enter Try.func78, Try.ntmps78
        go_wp2
        go_ret
        refine ⟨congrArg (fun z => Ending.returned (Value.int .i64 z)) ?_, rfl⟩
        rw [hL.out]
        exact len_close x _ 48 (by omega) (by omega) (by decide) hx (by omega) (by omega) _
    · have d16 : decide ((65536 : Int) ≤ x / 4294967296) = false := by simpa using h16
      by_cases h8 : (256 : Int) ≤ x / 4294967296
      · go_enter Try.func78, Try.ntmps78
        go_wp2
        go_ret
        refine ⟨congrArg (fun z => Ending.returned (Value.int .i64 z)) ?_, rfl⟩
        rw [hL.out]
        exact len_close x _ 40 (by omega) (by omega) (by decide) hx (by omega) (by omega) _
      · have d8 : decide ((256 : Int) ≤ x / 4294967296) = false := by simpa using h8
        go_enter Try.func78, Try.ntmps78
        go_wp2
        go_ret
        refine ⟨congrArg (fun z => Ending.returned (Value.int .i64 z)) ?_, rfl⟩
        rw [hL.out]
        exact len_close x _ 32 (by omega) (by omega) (by decide) hx (by omega) (by omega) _
  · have d32 : decide ((4294967296 : Int) ≤ x) = false := by simpa using h32
    by_cases h16 : (65536 : Int) ≤ x
    · by_cases h8 : (256 : Int) ≤ x / 65536
      · go_enter Try.func78, Try.ntmps78
        go_wp2
        go_ret
        refine ⟨congrArg (fun z => Ending.returned (Value.int .i64 z)) ?_, rfl⟩
        rw [hL.out]
        exact len_close x _ 24 (by omega) (by omega) (by decide) hx (by omega) (by omega) _
      · have d8 : decide ((256 : Int) ≤ x / 65536) = false := by simpa using h8
        go_enter Try.func78, Try.ntmps78
        go_wp2
        go_ret
        refine ⟨congrArg (fun z => Ending.returned (Value.int .i64 z)) ?_, rfl⟩
        rw [hL.out]
        exact len_close x _ 16 (by omega) (by omega) (by decide) hx (by omega) (by omega) _
    · have d16 : decide ((65536 : Int) ≤ x) = false := by simpa using h16
      by_cases h8 : (256 : Int) ≤ x
      · go_enter Try.func78, Try.ntmps78
        go_wp2
        go_ret
        refine ⟨congrArg (fun z => Ending.returned (Value.int .i64 z)) ?_, rfl⟩
        rw [hL.out]
        exact len_close x _ 8 (by omega) (by omega) (by decide) hx (by omega) (by omega) _
      · have d8 : decide ((256 : Int) ≤ x) = false := by simpa using h8
        go_enter Try.func78, Try.ntmps78
        go_wp2
        go_ret
        refine ⟨congrArg (fun z => Ending.returned (Value.int .i64 z)) ?_, rfl⟩
        rw [hL.out]
        exact len_close0 x (by omega) (by omega) _

set_option maxHeartbeats 400000 in
theorem len_any (n : Nat) (w : World) (hn : n ≤ 4611686018427387904) :
    Calls Try.prog 76 #[.int .u64 (n : Int)] w fun e w' => e = .returned (.int .i64 (Lib.bitLen n : Int)) ∧ w' = w := by
  have hc := len64_walk (n : Int) (Lib.bitLen n : Int) w (by omega) (by omega) (by show _ = _; simp)
  obtain ⟨L, hL⟩ : ∃ L : Int, L = (Lib.bitLen n : Int) := ⟨_, rfl⟩
  rw [← hL] at hc ⊢
  clear hL
  go_enter Try.func76, Try.ntmps76
  go_wp2_with (first | (go_at_call 78; refine hc.mono ?_; rintro e w1 ⟨rfl, rfl⟩))
  go_ret
  exact ⟨rfl, rfl⟩

end Go.Proofs.Ytldmbfemoepfkaa
