/- What this text proves: the walk of the statement CodecPuts over this program: it answers true for any arguments (no more than 1048576 bytes of them), and writes nothing that was there. -/
import Derived.Test.YthbkkddfklbhlaaRPuts
import Derived.Test.YthbkkddfklbhlaaClone
namespace Go.Proofs.Ythbkkddfklbhlaa
open Go.RowKit

set_option maxHeartbeats 2000000 in
theorem putsWalk (x y : Value) (l s : List UInt8) (n : Int) (b : Bool) (w : World) (h : HB w x l) (hs : HB w y s) (hsum : l.length + s.length ≤ 1048576) :
    Calls Try.prog 8 #[x, y, .int .i64 n, .bool b] w fun e w' => e = .returned (.bool true) ∧ Below w.heap.size w w' := by
  obtain ⟨p, c, rfl⟩ := h.shape
  obtain ⟨q, d, rfl⟩ := hs.shape
  have c1 := fun W v (h : HB W v l) => cuint_any v l n W h (by omega)
  have c2 := fun W v (h : HB W v l) => ruint_any v l n W h (by omega)
  have c3 := fun W v u (h : HB W v l) (h2 : HB W u s) => cbytes_any v u l s W h h2 (by omega)
  have c4 := fun W v u (h : HB W v l) (h2 : HB W u s) => rbytes_any v u l s W h h2 (by omega)
  have c5 := fun W v (h : HB W v l) => cflag_any v l b W h (by omega)
  have c6 := fun W v (h : HB W v l) => rflag_any v l b W h (by omega)
  generalize l ++ numL (clampN n) = X1 at *
  generalize l ++ bytesL s = X2 at *
  generalize l ++ flagL b = X3 at *
  have hcl := clone_any _ l w h (by omega)
  go_enter Try.func8, Try.ntmps8
  go_wp2_with fail
  refine hcl.mono ?_
  rintro e w1 ⟨p1, d1, rfl, k1, hb1⟩
  clear hcl
  go_wp2_with fail
  refine (c1 _ _ k1).mono ?_
  rintro e w2 ⟨p2, d2, rfl, o2, hb2⟩
  have hb02 := hb1.trans (hb2.mono hb1.size)
  have k12 := k1.later hb2
  clear c1 hb1 k1
  go_wp2_with fail
  refine (c2 _ _ (h.later hb02)).mono ?_
  rintro e w3 ⟨p3, d3, rfl, o3, hb3⟩
  have hb03 := hb02.trans (hb3.mono hb02.size)
  have k13 := k12.later hb3
  have hx := (HB.of_owns o2).later hb3
  have hy := HB.of_owns o3
  clear c2 hb02 k12 o2 o3 hb2 hb3
  go_wp2_with fail
  refine (equal_t _ _ X1 X1 _ hx hy rfl).mono ?_
  rintro e w4 ⟨rfl, rfl⟩
  clear hx hy
  go_wp2_with fail
  refine (c3 _ _ _ k13 (hs.later hb03)).mono ?_
  rintro e w5 ⟨p5, d5, rfl, o5, hb5⟩
  have hb05 := hb03.trans (hb5.mono hb03.size)
  have k15 := k13.later hb5
  clear c3 hb03 k13 hb5
  go_wp2_with fail
  refine (c4 _ _ _ (h.later hb05) (hs.later hb05)).mono ?_
  rintro e w6 ⟨p6, d6, rfl, o6, hb6⟩
  have hb06 := hb05.trans (hb6.mono hb05.size)
  have k16 := k15.later hb6
  have hx := (HB.of_owns o5).later hb6
  have hy := HB.of_owns o6
  clear c4 hb05 k15 o5 o6 hb6 hs
  go_wp2_with fail
  refine (equal_t _ _ X2 X2 _ hx hy rfl).mono ?_
  rintro e w7 ⟨rfl, rfl⟩
  clear hx hy
  go_wp2_with fail
  refine (c5 _ _ k16).mono ?_
  rintro e w8 ⟨p8, d8, rfl, o8, hb8⟩
  have hb08 := hb06.trans (hb8.mono hb06.size)
  have k18 := k16.later hb8
  clear c5 hb06 k16 hb8
  go_wp2_with fail
  refine (c6 _ _ (h.later hb08)).mono ?_
  rintro e w9 ⟨p9, d9, rfl, o9, hb9⟩
  have hb09 := hb08.trans (hb9.mono hb08.size)
  have k19 := k18.later hb9
  have hx := (HB.of_owns o8).later hb9
  have hy := HB.of_owns o9
  clear c6 hb08 k18 o8 o9 hb9
  go_wp2_with fail
  refine (equal_t _ _ X3 X3 _ hx hy rfl).mono ?_
  rintro e w10 ⟨rfl, rfl⟩
  clear hx hy
  go_wp2_with fail
  refine (equal_t _ _ l l _ k19 (h.later hb09) rfl).mono ?_
  rintro e w11 ⟨rfl, rfl⟩
  clear k19 h
  go_wp2_with fail
  refine (codecAwake_any _).mono ?_
  rintro e w12 ⟨rfl, hb12⟩
  have hb012 := hb09.trans (hb12.mono hb09.size)
  go_wp2
  go_ret
  exact ⟨rfl, hb012⟩

end Go.Proofs.Ythbkkddfklbhlaa
