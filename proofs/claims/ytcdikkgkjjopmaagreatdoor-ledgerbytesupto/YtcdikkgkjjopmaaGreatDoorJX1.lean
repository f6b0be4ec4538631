/- What this text proves: the document's reader (annalsref04.Reader) in memory; the walks of its Fail, Take and End over this program. What this text proves: the walk of the document's Uint (annalsref04.Reader) over this program: the next number, or the error. What this text proves: the walk of the document's Uint (annalsref04.Reader) over this program where the bytes of the number are there. What this text proves: the walks of the document's Bytes and Flag (annalsref04.Reader) over this program. What this text proves: the walk of annalsref12.Read over this program: the batch that bytes begin with, and what is left, or the error. -/
import Derived.Test.YtcdikkgkjjopmaaGreatDoorJR1
import Derived.Test.YtcdikkgkjjopmaaGreatDoorJCRead
namespace Go.Proofs.YtcdikkgkjjopmaaGreatDoor
open Go.RowKit

/-- Block g holds the document's reader: what is left, the first error. -/
def XD (w : World) (g : Nat) (v : Value) (e : Int) : Prop := w.heap[g]? = some (.cells #[v, .int .i64 e] 49 (0, 0))

theorem XD.cells {w : World} {g : Nat} {v : Value} {e : Int} (h : XD w g v e) : w.cell? ⟨g, 0, none⟩ = some v ∧ w.cell? ⟨g, 1, none⟩ = some (.int .i64 e) := by
  refine ⟨?_, ?_⟩ <;> rw [cell_of_row w g _ _ _ _ h] <;> rfl

theorem XD.lt {w : World} {g : Nat} {v : Value} {e : Int} (h : XD w g v e) : g < w.heap.size := (Array.getElem?_eq_some_iff.1 h).1

theorem XD.later {w w' : World} {g : Nat} {v : Value} {e : Int} (h : XD w g v e) (hb : Below w.heap.size w w') : XD w' g v e := by
  unfold XD
  rw [hb.block g h.lt]
  exact h

theorem XD.put0 {w : World} {g : Nat} {v : Value} {e : Int} (h : XD w g v e) (v' : Value) : XD (w.setCell ⟨g, 0, none⟩ v') g v' e := by
  unfold XD
  rw [heap_setCell_same w g 0 _ _ _ h]
  rfl

theorem XD.put1 {w : World} {g : Nat} {v : Value} {e : Int} (h : XD w g v e) (e' : Int) : XD (w.setCell ⟨g, 1, none⟩ (.int .i64 e')) g v e' := by
  unfold XD
  rw [heap_setCell_same w g 1 _ _ _ h]
  rfl

theorem XD.free {w : World} {g : Nat} {v : Value} {e : Int} (h : XD w g v e) (i : Nat) : w.frozen? ⟨g, i, none⟩ = false := by
  unfold XD at h
  simp [World.frozen?, h]

theorem XD.only {w w' : World} {g g' : Nat} {v : Value} {e : Int} (h : XD w g v e) (ho : Only g' w w') (hne : g ≠ g') : XD w' g v e := by
  unfold XD
  rw [ho.block g hne h.lt]
  exact h

/-- The document's reader: what is left, and the first error. -/
def XR (w : World) (g : Nat) (l : List UInt8) (e : Int) : Prop := ∃ p c, XD w g (.slice p l.length c) e ∧ HBN w g (.slice p l.length c) l

theorem XR.later {w w' : World} {g : Nat} {l : List UInt8} {e : Int} (h : XR w g l e) (hb : Below w.heap.size w w') : XR w' g l e := by
  obtain ⟨p, c, h1, h2⟩ := h
  exact ⟨p, c, h1.later hb, h2.later hb⟩

set_option maxRecDepth 100000 in
set_option maxHeartbeats 400000 in
theorem xfail_first (g : Nat) (l : List UInt8) (e' : Int) (w : World) (h : XR w g l 0) :
    Calls Tryz.prog 38 #[.pointer (some ⟨g, 0, none⟩), .int .i64 e'] w fun x w' => x = .returned (.tuple #[]) ∧ XR w' g [] e' ∧ Only g w w' := by
  obtain ⟨p, c, h, _⟩ := h
  obtain ⟨c0, c1⟩ := h.cells
  have f0 := h.free 0
  have f1 := h.free 1
  obtain ⟨c0', _⟩ := (h.put1 e').cells
  have f0' := (h.put1 e').free 0
  have hx : XR ((w.setCell ⟨g, 1, none⟩ (.int .i64 e')).setCell ⟨g, 0, none⟩ (.slice none 0 0)) g [] e' := ⟨none, 0, (h.put1 e').put0 _, HBN.nil _ _⟩
  clear h
  go_enter Tryz.func38, Tryz.ntmps38
  go_wp2
  go_end0
  exact ⟨rfl, hx, ((Only.refl g w).setCell 1 _).setCell 0 _⟩

set_option maxRecDepth 100000 in
set_option maxHeartbeats 400000 in
theorem xfail_stays (g : Nat) (l : List UInt8) (e e' : Int) (w : World) (h : XR w g l e) (he : e ≠ 0) :
    Calls Tryz.prog 38 #[.pointer (some ⟨g, 0, none⟩), .int .i64 e'] w fun x w' => x = .returned (.tuple #[]) ∧ w' = w := by
  obtain ⟨p, c, h, _⟩ := h
  obtain ⟨c0, c1⟩ := h.cells
  have hd : (e == 0) = false := by simpa using he
  clear h
  go_enter Tryz.func38, Tryz.ntmps38
  go_wp2
  go_end0
  exact ⟨rfl, rfl⟩

set_option maxRecDepth 100000 in
set_option maxHeartbeats 1000000 in
theorem xtake_err (g : Nat) (e : Int) (n : Nat) (w : World) (h : XR w g [] e) (he : e ≠ 0) :
    Calls Tryz.prog 37 #[.pointer (some ⟨g, 0, none⟩), .int .i64 (n : Int)] w fun x w' => x = .returned (.slice none 0 0) ∧ w' = w := by
  have k := xfail_stays g [] e 3 w h he
  obtain ⟨p, c, hd, _⟩ := h
  obtain ⟨c0, c1⟩ := hd.cells
  simp only [List.length_nil] at c0
  have hd0 : (e == 0) = false := by simpa using he
  clear hd
  by_cases hn : 0 < n
  · have hn2 : (0 : Int) < (n : Int) := by omega
    go_enter Tryz.func37, Tryz.ntmps37
    go_wp2_with (first | (go_at_call 38; refine k.mono ?_; rintro e w' ⟨rfl, hw⟩; have hw2 := hw.symm; clear hw; subst hw2))
    go_ret
    exact ⟨rfl, rfl⟩
  · obtain rfl : n = 0 := by omega
    go_enter Tryz.func37, Tryz.ntmps37
    go_wp2
    go_ret
    exact ⟨rfl, rfl⟩

set_option maxRecDepth 100000 in
set_option maxHeartbeats 1000000 in
theorem xtake_short (g : Nat) (l : List UInt8) (n : Nat) (w : World) (h : XR w g l 0) (hn : l.length < n) :
    Calls Tryz.prog 37 #[.pointer (some ⟨g, 0, none⟩), .int .i64 (n : Int)] w fun x w' => x = .returned (.slice none 0 0) ∧ XR w' g [] 3 ∧ Only g w w' := by
  have k := xfail_first g l 3 w h
  obtain ⟨p, c, hd, _⟩ := h
  obtain ⟨c0, c1⟩ := hd.cells
  have hn2 : (l.length : Int) < (n : Int) := by omega
  clear hd
  go_enter Tryz.func37, Tryz.ntmps37
  go_wp2_with (first | (go_at_call 38; refine k.mono ?_; rintro e w1 ⟨rfl, hx1, ho1⟩; have hX1 : Hid (XR w1 g [] 3) := hx1; obtain ⟨p1, d1, hd1, hz1⟩ := hx1; obtain ⟨e0, e1⟩ := hd1.cells; clear hd1 hz1))
  go_ret
  exact ⟨rfl, hX1.out, ho1⟩

set_option maxRecDepth 100000 in
set_option maxHeartbeats 1000000 in
theorem xtake_ok (g : Nat) (l : List UInt8) (n : Nat) (w : World) (h : XR w g l 0) (hn : n ≤ l.length) (hsz : l.length ≤ 140737488355328) :
    Calls Tryz.prog 37 #[.pointer (some ⟨g, 0, none⟩), .int .i64 (n : Int)] w fun x w' => ∃ p c, x = .returned (.slice p n c) ∧ HBN w' g (.slice p n c) (l.take n) ∧ XR w' g (l.drop n) 0 ∧ Only g w w' := by
  obtain ⟨p, c, hd, hh, hnb⟩ := h
  obtain ⟨c0, c1⟩ := hd.cells
  have hlen := hh.len.2
  unfold maxLen at hlen
  have hgl := hd.lt
  have hn2 : (n : Int) ≤ (l.length : Int) := by omega
  have k1 := fun w => run_upto (P := Tryz.prog) Tryz.underlying27 s_u8 p l.length c n (n : Int) rfl (by omega) w
  have k3 : ∀ w, (Instr.slice 27 (.slice p l.length c) (some (.int .i64 (n : Int))) none none).run Tryz.prog w = .ok (.slice (cutP p c n) (l.length - n) (c - n)) w := fun w => run_cut (P := Tryz.prog) Tryz.underlying27 s_u8 p l.length c n (n : Int) rfl (by omega) w
  have hb0 : Below w.heap.size w (w.alloc (.cells #[] 5)) := (Below.refl _ w).alloc (Nat.le_refl _) _
  have hf := (hh.front n (by omega)).later hb0
  obtain ⟨c0', c1'⟩ := (hd.later hb0).cells
  have hbh : HBN w g (.slice (cutP p c n) (l.length - n) (c - n)) (l.drop n) := HBN.behind (g := g) ⟨hh, hnb⟩ n (by omega)
  have HTL : Hid ((l.take n).length = n) := by show _ = _; rw [List.length_take]; omega
  have HDL : Hid ((l.drop n).length = l.length - n) := by show _ = _; rw [List.length_drop]
  have HD : Hid (XD w g (.slice p l.length c) 0) := hd
  clear hh hnb hd
  go_enter Tryz.func37, Tryz.ntmps37
  go_wp2_with (first | (at_builtin; refine wpList_append_hb rfl (.tmp 20) (.tmp 26) 27 rfl w.heap.size 5 Tryz.underlying27 i_u8 _ 0 [] rfl (World.ownsRow_made w #[] 0 (Nat.le_refl _) (Nat.zero_le _) rfl) _ _ _ (l.take n) rfl hf ?qa ?qb ?_))
  case qa => omega
  case qb => simp
  intro v1 w1 hown1 hgrow1
  have hb1 : Below w.heap.size w w1 := hb0.grown hgrow1 (by simp) (by intro k hk; cases hk; exact Nat.le_refl _)
  have hown1' : w1.ownsRow w.heap.size 5 1 v1 n (bcs (l.take n)) := by simpa using hown1
  have hlt := hown1'.lt
  obtain ⟨p1, d1, rfl⟩ := owns_shape hown1'
  have ht1 : HBN w1 g (.slice p1 n d1) (l.take n) := ⟨HB.of_owns hown1', fun a n c e => ⟨by have := (hlt a.block (by rw [e]; rfl)).1; omega, TY.of_owns hown1' e⟩⟩
  have hd1 := HD.out.later hb1
  obtain ⟨e0, e1⟩ := hd1.cells
  have f0 := hd1.free 0
  have hbh1 := hbh.later hb1
  clear hgrow1 hown1 hown1' hlt hf c0 c1 c0' c1' hbh hb0
  go_wp2
  go_ret
  have ho1 : Only g w w1 := Only.of_below hb1 (by omega)
  have hos : Only g w1 (w1.setCell ⟨g, 0, none⟩ (.slice (cutP p c n) (l.length - n) (c - n))) := (Only.refl g w1).setCell 0 _
  refine ⟨p1, d1, rfl, ht1.only hos, ⟨cutP p c n, c - n, ?_, ?_⟩, ho1.trans hos⟩
  · rw [HDL.out]; exact hd1.put0 _
  · rw [HDL.out]; exact hbh1.only hos

end Go.Proofs.YtcdikkgkjjopmaaGreatDoor

namespace Go.Proofs.YtcdikkgkjjopmaaGreatDoor
open Go.RowKit

/-- What the document's Uint answers. -/
def XSaid (g : Nat) (w : World) (l : List UInt8) (most : Int) (x : Ending) (w' : World) : Prop := x = .returned (.int .i64 ((uintF l most).2.1 : Int)) ∧ XR w' g (uintF l most).2.2 (uintF l most).1 ∧ Only g w w'

theorem XR.xd {w : World} {g : Nat} {l : List UInt8} {e : Int} (h : XR w g l e) : w.cell? ⟨g, 1, none⟩ = some (.int .i64 e) := by
  obtain ⟨p, c, h1, _⟩ := h
  exact h1.cells.2

theorem take_one (g : Nat) (x : UInt8) (r : List UInt8) (w : World) (h : XR w g (x :: r) 0) (hsz : (x :: r).length ≤ 140737488355328) :
    Calls Tryz.prog 37 #[.pointer (some ⟨g, 0, none⟩), .int .i64 1] w fun y w' => ∃ b o c, y = .returned (.slice (some ⟨b, o, none⟩) 1 c) ∧ b ≠ g ∧ w'.cell? ⟨b, o, none⟩ = some (.int .u8 (x.toNat : Int)) ∧ XR w' g r 0 ∧ Only g w w' := by
  refine (xtake_ok g (x :: r) 1 w h (by simp) hsz).mono fun y w' ⟨p, c, hy, ⟨hh, hn⟩, hx, ho⟩ => ?_
  obtain ⟨b, o, rfl, hc⟩ := hh.addr (by omega)
  exact ⟨b, o, c, hy, (hn _ _ _ rfl).1, by have := hc 0 x rfl; simpa [bc] using this, by simpa using hx, ho⟩

set_option maxRecDepth 100000 in
set_option maxHeartbeats 1000000 in
theorem xuint_nil (g : Nat) (most : Int) (w : World) (h : XR w g [] 0) : Calls Tryz.prog 18 #[.pointer (some ⟨g, 0, none⟩), .int .i64 most] w (XSaid g w [] most) := by
  have k := xtake_short g [] 1 w h (by simp)
  clear h
  go_enter Tryz.func18, Tryz.ntmps18
  go_wp2_with (first | (go_at_call 37; refine k.mono ?_; rintro e w1 ⟨rfl, hx1, ho1⟩))
  go_ret
  exact ⟨rfl, hx1, ho1⟩

set_option maxRecDepth 100000 in
set_option maxHeartbeats 1000000 in
theorem xuint_stays (g : Nat) (e most : Int) (w : World) (h : XR w g [] e) (he : e ≠ 0) : Calls Tryz.prog 18 #[.pointer (some ⟨g, 0, none⟩), .int .i64 most] w fun x w' => x = .returned (.int .i64 0) ∧ w' = w := by
  have k := xtake_err g e 1 w h he
  clear h
  go_enter Tryz.func18, Tryz.ntmps18
  go_wp2_with (first | (go_at_call 37; refine k.mono ?_; rintro e w1 ⟨rfl, hw⟩; have hw2 := hw.symm; clear hw; subst hw2))
  go_ret
  exact ⟨rfl, rfl⟩

set_option maxRecDepth 100000 in
set_option maxHeartbeats 2000000 in
theorem xuint_big (g : Nat) (x : UInt8) (r : List UInt8) (most : Int) (w : World) (h : XR w g (x :: r) 0) (hsz : (x :: r).length ≤ 140737488355328) (h8 : 8 < x.toNat) : Calls Tryz.prog 18 #[.pointer (some ⟨g, 0, none⟩), .int .i64 most] w (XSaid g w (x :: r) most) := by
  have k := take_one g x r w h hsz
  have HU : Hid (uintF (x :: r) most = (5, 0, [])) := by show uintF (x :: r) most = _; simp only [uintF]; rw [if_pos h8]
  have hx := x.toNat_lt
  have h82 : (8 : Int) < (x.toNat : Int) := by omega
  have hrem : (x.toNat : Int).tmod 9 = ((x.toNat % 9 : Nat) : Int) := by rw [Int.tmod_eq_emod_of_nonneg (by omega)]; omega
  have hrem2 : (x.toNat : Int) % 9 = ((x.toNat % 9 : Nat) : Int) := by omega
  generalize x.toNat % 9 = z at *
  clear h
  go_enter Tryz.func18, Tryz.ntmps18
  go_wp2_with fail
  refine k.mono ?_
  rintro e w1 ⟨b, o, d, rfl, hbg, hc1, hx1, ho1⟩
  have kf := xfail_first g r 5 w1 hx1
  clear k
  go_wp2_with fail
  refine kf.mono ?_
  rintro e w2 ⟨rfl, hx2, ho2⟩
  have hc2 : w2.cell? ⟨b, o, none⟩ = some (.int .u8 (x.toNat : Int)) := by rw [World.cell?_of_block (w := w1) (ho2.block b hbg (cell_lt hc1))]; exact hc1
  have ho02 := ho1.trans ho2
  have kt := xtake_err g 5 z w2 hx2 (by decide)
  have ks := xfail_stays g [] 5 4 w2 hx2 (by decide)
  have ce := hx2.xd
  clear kf hc1 hx1 ho1 ho2
  go_wp2_with (first | (go_at_call 37; refine kt.mono ?_; rintro e w3 ⟨rfl, hw⟩; have hw2 := hw.symm; clear hw; subst hw2))
  go_loopw [7, 30] (fun n i wr => i = .int .i64 0 ∧ n = .int .u64 0 ∧ w2 = wr) (fun _ _ _ => 0)
  case atStart => exact ⟨rfl, rfl, rfl⟩
  case round =>
    obtain ⟨rfl, rfl, rfl⟩ := hrel
    by_cases hm : most < 0
    · go_wp2_with (first | (go_at_call 38; refine ks.mono ?_; rintro e w3 ⟨rfl, hw⟩; have hw2 := hw.symm; clear hw; subst hw2))
      go_ret
      refine ⟨?_, ?_, ho02⟩
      · rw [HU.out]; rfl
      · rw [HU.out]; exact hx2
    · have hd : decide (most < 0) = false := by simpa using hm
      go_wp2
      go_ret
      refine ⟨?_, ?_, ho02⟩
      · rw [HU.out]; rfl
      · rw [HU.out]; exact hx2

set_option maxRecDepth 100000 in
set_option maxHeartbeats 2000000 in
theorem xuint_short (g : Nat) (x : UInt8) (r : List UInt8) (most : Int) (w : World) (h : XR w g (x :: r) 0) (hsz : (x :: r).length ≤ 140737488355328) (h8 : x.toNat ≤ 8) (hs : r.length < x.toNat) : Calls Tryz.prog 18 #[.pointer (some ⟨g, 0, none⟩), .int .i64 most] w (XSaid g w (x :: r) most) := by
  have k := take_one g x r w h hsz
  have HU : Hid (uintF (x :: r) most = (3, 0, [])) := by show uintF (x :: r) most = _; simp only [uintF]; rw [if_neg (by omega), if_pos hs]
  have hx := x.toNat_lt
  have h82 : (x.toNat : Int) ≤ 8 := by omega
  have hrem : (x.toNat : Int).tmod 9 = (x.toNat : Int) := by rw [Int.tmod_eq_emod_of_nonneg (by omega)]; omega
  have hrem2 : (x.toNat : Int) % 9 = (x.toNat : Int) := by omega
  clear h
  go_enter Tryz.func18, Tryz.ntmps18
  go_wp2_with fail
  refine k.mono ?_
  rintro e w1 ⟨b, o, d, rfl, hbg, hc1, hx1, ho1⟩
  have kt1 := xtake_short g r x.toNat w1 hx1 hs
  clear k
  go_wp2_with fail
  refine kt1.mono ?_
  rintro e w2 ⟨rfl, hx2, ho2⟩
  have ho02 := ho1.trans ho2
  have ks := xfail_stays g [] 3 4 w2 hx2 (by decide)
  have ce := hx2.xd
  clear kt1 hc1 hx1 ho1 ho2
  go_wp2
  go_loopw [7, 30] (fun n i wr => i = .int .i64 0 ∧ n = .int .u64 0 ∧ w2 = wr) (fun _ _ _ => 0)
  case atStart => exact ⟨rfl, rfl, rfl⟩
  case round =>
    obtain ⟨rfl, rfl, rfl⟩ := hrel
    by_cases hm : most < 0
    · go_wp2_with (first | (go_at_call 38; refine ks.mono ?_; rintro e w3 ⟨rfl, hw⟩; have hw2 := hw.symm; clear hw; subst hw2))
      go_ret
      refine ⟨?_, ?_, ho02⟩
      · rw [HU.out]; rfl
      · rw [HU.out]; exact hx2
    · have hd : decide (most < 0) = false := by simpa using hm
      go_wp2
      go_ret
      refine ⟨?_, ?_, ho02⟩
      · rw [HU.out]; rfl
      · rw [HU.out]; exact hx2

set_option maxRecDepth 100000 in
set_option maxHeartbeats 2000000 in
theorem xuint_zero (g : Nat) (r : List UInt8) (most : Int) (w : World) (h : XR w g (0 :: r) 0) (hsz : ((0 : UInt8) :: r).length ≤ 140737488355328) : Calls Tryz.prog 18 #[.pointer (some ⟨g, 0, none⟩), .int .i64 most] w (XSaid g w (0 :: r) most) := by
  have k := take_one g 0 r w h hsz
  simp only [UInt8.toNat_zero] at k
  have hU : uintF (0 :: r) most = if most < 0 then (4, 0, []) else (0, 0, r) := by simp [uintF, valL]
  have hszr : r.length ≤ 140737488355328 := by simp at hsz; omega
  clear h
  go_enter Tryz.func18, Tryz.ntmps18
  go_wp2_with fail
  refine k.mono ?_
  rintro e w1 ⟨b, o, d, rfl, hbg, hc1, hx1, ho1⟩
  have kt1 := xtake_ok g r 0 w1 hx1 (by omega) hszr
  clear k
  go_wp2_with fail
  refine kt1.mono ?_
  rintro e w2 ⟨p2, d2, rfl, _, hx2, ho2⟩
  simp only [List.drop_zero] at hx2
  have ho02 := ho1.trans ho2
  have ks := xfail_first g r 4 w2 hx2
  have ce := hx2.xd
  clear kt1 hc1 hx1 ho1 ho2
  go_wp2
  go_loopw [7, 30] (fun n i wr => i = .int .i64 0 ∧ n = .int .u64 0 ∧ w2 = wr) (fun _ _ _ => 0)
  case atStart => exact ⟨rfl, rfl, rfl⟩
  case round =>
    obtain ⟨rfl, rfl, rfl⟩ := hrel
    by_cases hm : most < 0
    · rw [if_pos hm] at hU
      have HU : Hid (uintF (0 :: r) most = (4, 0, [])) := hU
      clear hU
      go_wp2_with (first | (go_at_call 38; refine ks.mono ?_; rintro e w3 ⟨rfl, hx3, ho3⟩; have ce3 := hx3.xd))
      go_ret
      refine ⟨?_, ?_, ho02.trans ho3⟩
      · rw [HU.out]; rfl
      · rw [HU.out]; exact hx3
    · rw [if_neg hm] at hU
      have HU : Hid (uintF (0 :: r) most = (0, 0, r)) := hU
      have hd : decide (most < 0) = false := by simpa using hm
      clear hU
      go_wp2
      go_ret
      refine ⟨?_, ?_, ho02⟩
      · rw [HU.out]; rfl
      · rw [HU.out]; exact hx2

end Go.Proofs.YtcdikkgkjjopmaaGreatDoor

namespace Go.Proofs.YtcdikkgkjjopmaaGreatDoor
open Go.RowKit

theorem HBN.get {w : World} {g b o n c : Nat} {l : List UInt8} (h : HBN w g (.slice (some ⟨b, o, none⟩) n c) l) (k : Nat) (d : UInt8) (hk : l[k]? = some d) : w.cell? ⟨b, o + k, none⟩ = some (.int .u8 (d.toNat : Int)) := by
  have hlt : k < l.length := (List.getElem?_eq_some_iff.1 hk).1
  have hl := h.1.len.1
  obtain ⟨b', o', e, hc⟩ := h.1.addr (by omega)
  simp only [Option.some.injEq, Addr.mk.injEq, and_true] at e
  obtain ⟨rfl, rfl⟩ := e
  exact hc k d hk

set_option maxRecDepth 100000 in
set_option maxHeartbeats 4000000 in
theorem xuint_pos (g : Nat) (x : UInt8) (r : List UInt8) (most : Int) (w : World) (h : XR w g (x :: r) 0) (hsz : (x :: r).length ≤ 140737488355328) (hx1 : 1 ≤ x.toNat) (h8 : x.toNat ≤ 8) (hs : x.toNat ≤ r.length) : Calls Tryz.prog 18 #[.pointer (some ⟨g, 0, none⟩), .int .i64 most] w (XSaid g w (x :: r) most) := by
  have k := take_one g x r w h hsz
  have hx := x.toNat_lt
  have h82 : (x.toNat : Int) ≤ 8 := by omega
  have hrem : (x.toNat : Int).tmod 9 = (x.toNat : Int) := by rw [Int.tmod_eq_emod_of_nonneg (by omega)]; omega
  have hrem2 : (x.toNat : Int) % 9 = (x.toNat : Int) := by omega
  have hszr : r.length ≤ 140737488355328 := by simp at hsz; omega
  obtain ⟨D, hD⟩ : ∃ D, D = r.take x.toNat := ⟨_, rfl⟩
  obtain ⟨R, hR⟩ : ∃ R, R = r.drop x.toNat := ⟨_, rfl⟩
  have hDl : D.length = x.toNat := by rw [hD, List.length_take]; omega
  obtain ⟨d0, D', hDD⟩ : ∃ d0 D', D = d0 :: D' := by
    cases D with
    | nil => simp at hDl; omega
    | cons d0 D' => exact ⟨d0, D', rfl⟩
  have hd0 := d0.toNat_lt
  have hV8 : valL D < 18446744073709551616 := by
    have h1 := valL_lt D
    have h2 : (256 : Nat) ^ D.length ≤ 256 ^ 8 := Nat.pow_le_pow_right (by omega) (by omega)
    have h3 : (256 : Nat) ^ 8 = 18446744073709551616 := by decide
    omega
  have hU : uintF (x :: r) most = if d0 = 0 then (5, 0, []) else if 4611686018427387904 < valL D then (5, 0, []) else if most < (valL D : Int) then (4, 0, []) else (0, valL D, R) := by
    simp only [uintF]
    rw [if_neg (by omega), if_neg (by omega), ← hD, ← hR]
    by_cases hz : d0 = 0
    · rw [if_pos (by rw [hDD, hz]; rfl), if_pos hz]
    · rw [if_neg (by rw [hDD]; simp; exact hz), if_neg hz]
  have hDn : ∀ k, k < x.toNat → ∃ d, Hid (D[k]? = some d) ∧ Hid (valL (D.take (k + 1)) = valL (D.take k) * 256 + d.toNat) ∧ (k = 0 → d = d0) := by
    intro k hk
    have gd : D[k]? = some (D[k]'(by omega)) := List.getElem?_eq_getElem (by omega)
    refine ⟨_, gd, valL_next D k _ gd, fun h0 => ?_⟩
    subst h0
    simp [hDD]
  have hDt : D.take x.toNat = D := List.take_of_length_le (by omega)
  have hvl := fun k (hk : k < x.toNat) => valL_take_lt D k (by omega)
  have kt := fun w1 (hx1 : XR w1 g r 0) => xtake_ok g r x.toNat w1 hx1 hs hszr
  rw [← hD, ← hR] at kt
  have hz7 : d0 = 0 → valL D < 72057594037927936 := by
    intro h0
    rw [hDD, h0, valL_cons]
    have h1 := valL_lt D'
    have hl : D'.length ≤ 7 := by rw [hDD] at hDl; simp at hDl; omega
    have h2 : (256 : Nat) ^ D'.length ≤ 256 ^ 7 := Nat.pow_le_pow_right (by omega) hl
    have h3 : (256 : Nat) ^ 7 = 72057594037927936 := by decide
    simp
    omega
  clear h hsz hD hR hDD
  go_enter Tryz.func18, Tryz.ntmps18
  go_wp2_with fail
  refine k.mono ?_
  rintro e w1 ⟨b, o, d, rfl, hbg, hc1, hx1, ho1⟩
  clear k
  go_wp2_with fail
  refine (kt _ hx1).mono ?_
  rintro e w2 ⟨p2, c2, rfl, hd2, hx2, ho2⟩
  have ho02 := ho1.trans ho2
  obtain ⟨b2, o2, rfl, hcc⟩ := hd2.1.addr (by omega)
  clear kt hc1 hx1 ho1 ho2 hcc
  by_cases hz : d0 = 0
  · rw [if_pos hz] at hU
    have HU : Hid (uintF (x :: r) most = (5, 0, [])) := hU
    have hV7 := hz7 hz
    clear hU hz7
    go_wp2
    go_loopw [7, 30] (fun n i wr => ∃ k : Nat, k ≤ x.toNat ∧ i = .int .i64 k ∧ n = .int .u64 (valL (D.take k) : Int) ∧ HBN wr g (.slice (some ⟨b2, o2, none⟩) x.toNat c2) D ∧ Only g w wr ∧ (k = 0 → XR wr g R 0) ∧ (0 < k → XR wr g [] 5)) (fun _ i _ => x.toNat - (intOf i).toNat)
    case atStart => exact ⟨0, Nat.zero_le _, rfl, rfl, hd2, ho02, fun _ => hx2, fun h => absurd h (by omega)⟩
    case round =>
      clear hd2 hx2 ho02
      obtain ⟨k, hk, rfl, rfl, hd2, ho02, hk0, hk1⟩ := hrel
      by_cases hlt : k < x.toNat
      · obtain ⟨d, gd, HV, hdd⟩ := hDn k hlt
        have cdk := hd2.get k d gd.out
        have hvk := hvl k hlt
        generalize valL (D.take k) = V at *
        have hd := d.toNat_lt
        have hlt2 : (k : Int) < (x.toNat : Int) := by omega
        by_cases h0 : k = 0
        · obtain rfl := hdd h0
          have kf := xfail_first g R 5 wr (hk0 h0)
          subst h0
          subst hz
          simp only [UInt8.toNat_zero, Nat.add_zero] at cdk
          rw [show ((0 : Nat) : Int) = 0 from rfl]
          clear hk0 hk1 hdd
          go_wp2_with (first | (go_at_call 38; refine kf.mono ?_; rintro e w4 ⟨rfl, hx4, ho4⟩; have hd4 := hd2.only ho4; have ho04 := ho02.trans ho4; clear hd2 ho02))
          refine ⟨⟨1, by omega, by go_num, ?_, hd4, ho04, fun h => absurd h (by omega), fun _ => hx4⟩, by simp [intOf]; omega⟩
          have := HV.out
          simp only [UInt8.toNat_zero] at this
          rw [show (0 : Nat) + 1 = 1 from rfl] at this
          congr 1
          omega
        · have h0' : ¬ (k : Int) = 0 := by omega
          have h0b : ((k : Int) == 0) = false := by simpa using h0'
          have hx5 := hk1 (by omega)
          clear hk0 hk1 hdd
          go_wp2
          refine ⟨⟨k + 1, by omega, by go_num, ?_, hd2, ho02, fun h => absurd h (by omega), fun _ => hx5⟩, by simp [intOf]; omega⟩
          have := HV.out
          congr 1
          omega
      · obtain rfl : k = x.toNat := by omega
        rw [hDt]
        have hx5 := hk1 (by omega)
        have ks := xfail_stays g [] 5 4 wr hx5 (by decide)
        have ce := hx5.xd
        clear hk0 hk1 hDn hDt hvl
        generalize valL D = V at *
        have hV2 : (V : Int) ≤ 4611686018427387904 := by omega
        by_cases hm : most < (V : Int)
        · go_wp2_with (first | (go_at_call 38; refine ks.mono ?_; rintro e w3 ⟨rfl, hw⟩; have hw2 := hw.symm; clear hw; subst hw2))
          go_ret
          refine ⟨?_, ?_, ho02⟩
          · rw [HU.out]; rfl
          · rw [HU.out]; exact hx5
        · have hd : decide (most < (V : Int)) = false := by simpa using hm
          go_wp2
          go_ret
          refine ⟨?_, ?_, ho02⟩
          · rw [HU.out]; rfl
          · rw [HU.out]; exact hx5
  · rw [if_neg hz] at hU
    have hzI : ¬ (d0.toNat : Int) = 0 := fun e => hz (UInt8.toNat_inj.1 (by simp; omega))
    clear hz7
    go_wp2
    go_loopw [7, 30] (fun n i wr => ∃ k : Nat, k ≤ x.toNat ∧ i = .int .i64 k ∧ n = .int .u64 (valL (D.take k) : Int) ∧ w2 = wr) (fun _ i _ => x.toNat - (intOf i).toNat)
    case atStart => exact ⟨0, Nat.zero_le _, rfl, rfl, rfl⟩
    case round =>
      obtain ⟨k, hk, rfl, rfl, rfl⟩ := hrel
      by_cases hlt : k < x.toNat
      · obtain ⟨d, gd, HV, hdd⟩ := hDn k hlt
        have cdk := hd2.get k d gd.out
        have hvk := hvl k hlt
        generalize valL (D.take k) = V at *
        have hd := d.toNat_lt
        have hlt2 : (k : Int) < (x.toNat : Int) := by omega
        by_cases h0 : k = 0
        · obtain rfl := hdd h0
          subst h0
          have hzb : ((d.toNat : Int) == 0) = false := by simpa using hzI
          simp only [Nat.add_zero] at cdk
          rw [show ((0 : Nat) : Int) = 0 from rfl]
          clear hdd
          go_wp2
          refine ⟨⟨1, by omega, by go_num, ?_, trivial⟩, by simp [intOf]; omega⟩
          have := HV.out
          rw [show (0 : Nat) + 1 = 1 from rfl] at this
          congr 1
          omega
        · have h0' : ¬ (k : Int) = 0 := by omega
          have h0b : ((k : Int) == 0) = false := by simpa using h0'
          clear hdd
          go_wp2
          refine ⟨⟨k + 1, by omega, by go_num, ?_, trivial⟩, by simp [intOf]; omega⟩
          have := HV.out
          congr 1
          omega
      · obtain rfl : k = x.toNat := by omega
        rw [hDt]
        have ce := hx2.xd
        clear hDn hDt hvl
        generalize valL D = V at *
        by_cases hbig : 4611686018427387904 < V
        · rw [if_pos hbig] at hU
          have HU : Hid (uintF (x :: r) most = (5, 0, [])) := hU
          have hb2 : (4611686018427387904 : Int) < (V : Int) := by omega
          have kf := xfail_first g R 5 w2 hx2
          clear hU
          go_wp2_with fail
          refine kf.mono ?_
          rintro e w4 ⟨rfl, hx4, ho4⟩
          have ho04 := ho02.trans ho4
          have ks := xfail_stays g [] 5 4 w4 hx4 (by decide)
          have ce4 := hx4.xd
          clear kf ce hx2 ho02 ho4 hd2
          go_wp2_with (first | (go_at_call 38; refine ks.mono ?_; rintro e w3 ⟨rfl, hw⟩; have hw2 := hw.symm; clear hw; subst hw2))
          all_goals
            go_ret
            refine ⟨?_, ?_, ho04⟩
            · rw [HU.out]; rfl
            · rw [HU.out]; exact hx4
        · rw [if_neg hbig] at hU
          have hb2 : (V : Int) ≤ 4611686018427387904 := by omega
          by_cases hm : most < (V : Int)
          · rw [if_pos hm] at hU
            have HU : Hid (uintF (x :: r) most = (4, 0, [])) := hU
            have kf := xfail_first g R 4 w2 hx2
            clear hU
            go_wp2_with (first | (go_at_call 38; refine kf.mono ?_; rintro e w4 ⟨rfl, hx4, ho4⟩; have ce4 := hx4.xd))
            go_ret
            refine ⟨?_, ?_, ho02.trans ho4⟩
            · rw [HU.out]; rfl
            · rw [HU.out]; exact hx4
          · rw [if_neg hm] at hU
            have HU : Hid (uintF (x :: r) most = (0, V, R)) := hU
            have hd : decide (most < (V : Int)) = false := by simpa using hm
            clear hU
            go_wp2
            go_ret
            refine ⟨?_, ?_, ho02⟩
            · rw [HU.out]; rfl
            · rw [HU.out]; exact hx2

theorem xuint_any (g : Nat) (l : List UInt8) (most : Int) (w : World) (h : XR w g l 0) (hsz : l.length ≤ 140737488355328) : Calls Tryz.prog 18 #[.pointer (some ⟨g, 0, none⟩), .int .i64 most] w (XSaid g w l most) := by
  cases l with
  | nil => exact xuint_nil g most w h
  | cons x r =>
    by_cases h8 : 8 < x.toNat
    · exact xuint_big g x r most w h hsz h8
    · by_cases hs : r.length < x.toNat
      · exact xuint_short g x r most w h hsz (by omega) hs
      · by_cases h0 : x.toNat = 0
        · obtain rfl : x = 0 := UInt8.toNat_inj.1 (by simpa using h0)
          exact xuint_zero g r most w h hsz
        · exact xuint_pos g x r most w h hsz (by omega) (by omega) (by omega)

end Go.Proofs.YtcdikkgkjjopmaaGreatDoor

namespace Go.Proofs.YtcdikkgkjjopmaaGreatDoor
open Go.RowKit

/-- What the document's Bytes answers. -/
def XBytesSaid (g : Nat) (w : World) (l : List UInt8) (most : Int) (x : Ending) (w' : World) : Prop := ∃ p c, x = .returned (.slice p (bytesF l most).2.1.length c) ∧ HBN w' g (.slice p (bytesF l most).2.1.length c) (bytesF l most).2.1 ∧ XR w' g (bytesF l most).2.2 (bytesF l most).1 ∧ Only g w w'

set_option maxRecDepth 100000 in
set_option maxHeartbeats 1000000 in
theorem xbytes_any (g : Nat) (l : List UInt8) (most : Int) (w : World) (h : XR w g l 0) (hsz : l.length ≤ 140737488355328) : Calls Tryz.prog 39 #[.pointer (some ⟨g, 0, none⟩), .int .i64 most] w (XBytesSaid g w l most) := by
  have ku := xuint_any g l most w h hsz
  have hle := uintF_le l most
  have hfe : (uintF l most).1 ≠ 0 → (uintF l most).2 = (0, []) := uintF_fell l most
  have hB : bytesF l most = if (uintF l most).1 ≠ 0 then ((uintF l most).1, [], []) else if (uintF l most).2.2.length < (uintF l most).2.1 then (3, [], []) else (0, (uintF l most).2.2.take (uintF l most).2.1, (uintF l most).2.2.drop (uintF l most).2.1) := rfl
  unfold XSaid at ku
  unfold XBytesSaid
  generalize bytesF l most = B at *
  generalize uintF l most = u at *
  obtain ⟨E, N, R⟩ := u
  simp only at ku hle hfe hB
  clear h
  by_cases hE : E = 0
  · subst hE
    rw [if_neg (by simp)] at hB
    by_cases hN : R.length < N
    · rw [if_pos hN] at hB
      have HB3 : Hid (B = (3, [], [])) := hB
      clear hB hfe
      go_enter Tryz.func39, Tryz.ntmps39
      go_wp2_with fail
      refine ku.mono ?_
      rintro e w1 ⟨rfl, hx1, ho1⟩
      have kt := xtake_short g R N w1 hx1 hN
      clear ku
      go_wp2_with fail
      refine kt.mono ?_
      rintro e w2 ⟨rfl, hx2, ho2⟩
      go_wp2
      go_ret
      rw [HB3.out]
      exact ⟨none, 0, rfl, HBN.nil _ _, hx2, ho1.trans ho2⟩
    · rw [if_neg hN] at hB
      have HB3 : Hid (B = (0, R.take N, R.drop N)) := hB
      have HTL : Hid ((R.take N).length = N) := by show _ = _; rw [List.length_take]; omega
      clear hB hfe
      go_enter Tryz.func39, Tryz.ntmps39
      go_wp2_with fail
      refine ku.mono ?_
      rintro e w1 ⟨rfl, hx1, ho1⟩
      have kt := xtake_ok g R N w1 hx1 (by omega) (by omega)
      clear ku
      go_wp2_with fail
      refine kt.mono ?_
      rintro e w2 ⟨p2, c2, rfl, ht2, hx2, ho2⟩
      go_wp2
      go_ret
      rw [HB3.out]
      refine ⟨p2, c2, ?_, ?_, hx2, ho1.trans ho2⟩
      · simp only [HTL.out]; rfl
      · simp only [HTL.out]; exact ht2
  · rw [if_pos hE] at hB
    have HB3 : Hid (B = (E, [], [])) := hB
    have hf := hfe hE
    simp only [Prod.mk.injEq] at hf
    obtain ⟨rfl, rfl⟩ := hf
    clear hB hfe
    go_enter Tryz.func39, Tryz.ntmps39
    go_wp2_with fail
    refine ku.mono ?_
    rintro e w1 ⟨rfl, hx1, ho1⟩
    have kt := xtake_err g E 0 w1 hx1 hE
    clear ku
    go_wp2_with fail
    refine kt.mono ?_
    rintro e w2 ⟨rfl, hw⟩
    have hw2 := hw.symm
    clear hw
    subst hw2
    go_wp2
    go_ret
    rw [HB3.out]
    exact ⟨none, 0, rfl, HBN.nil _ _, hx1, ho1⟩

set_option maxRecDepth 100000 in
set_option maxHeartbeats 1000000 in
theorem xbytes_stays (g : Nat) (e most : Int) (w : World) (h : XR w g [] e) (he : e ≠ 0) : Calls Tryz.prog 39 #[.pointer (some ⟨g, 0, none⟩), .int .i64 most] w fun x w' => x = .returned (.slice none 0 0) ∧ w' = w := by
  have ku := xuint_stays g e most w h he
  have kt := xtake_err g e 0 w h he
  clear h
  go_enter Tryz.func39, Tryz.ntmps39
  go_wp2_with (first | (go_at_call 18; refine ku.mono ?_; rintro e w1 ⟨rfl, hw⟩; have hw2 := hw.symm; clear hw; subst hw2) | (go_at_call 37; refine kt.mono ?_; rintro e w1 ⟨rfl, hw⟩; have hw2 := hw.symm; clear hw; subst hw2))
  go_ret
  exact ⟨rfl, rfl⟩

/-- What the document's Flag answers. -/
def XFlagSaid (g : Nat) (w : World) (l : List UInt8) (x : Ending) (w' : World) : Prop := x = .returned (.bool (flagF l).2.1) ∧ XR w' g (flagF l).2.2 (flagF l).1 ∧ Only g w w'

end Go.Proofs.YtcdikkgkjjopmaaGreatDoor

namespace Go.Proofs.YtcdikkgkjjopmaaGreatDoor
open Go.RowKit

theorem XR.tk {T : TypeId} {g : Nat} {w w' : World} {l : List UInt8} {e : Int} (h : XR w g l e) (t : TK T w w') (hT : 5 ≠ T) (hR : 49 ≠ T) : XR w' g l e := by
  obtain ⟨p, c, h1, h2⟩ := h
  exact ⟨p, c, t g _ _ _ h1 hR, h2.tk t hT⟩
theorem XR.typed {g : Nat} {w : World} {l : List UInt8} {e : Int} (h : XR w g l e) : ∃ cs f, w.heap[g]? = some (.cells cs 49 f) := by
  obtain ⟨p, c, h1, h2⟩ := h
  exact ⟨_, _, h1⟩

theorem xuint_all (g : Nat) (l : List UInt8) (e most : Int) (w : World) (h : XR w g l e) (he : e ≠ 0 → l = []) (hsz : l.length ≤ 140737488355328) : Calls Tryz.prog 18 #[.pointer (some ⟨g, 0, none⟩), .int .i64 most] w fun x w' => x = .returned (.int .i64 ((rdU l e most).2.1 : Int)) ∧ XR w' g (rdU l e most).2.2 (rdU l e most).1 ∧ Only g w w' := by
  unfold rdU
  by_cases h0 : e = 0
  · subst h0
    rw [if_pos rfl]
    exact xuint_any g l most w h hsz
  · rw [if_neg h0]
    obtain rfl := he h0
    refine (xuint_stays g e most w h h0).mono ?_
    rintro x w' ⟨rfl, rfl⟩
    exact ⟨rfl, h, Only.refl _ _⟩

theorem xbytes_all (g : Nat) (l : List UInt8) (e most : Int) (w : World) (h : XR w g l e) (he : e ≠ 0 → l = []) (hsz : l.length ≤ 140737488355328) : Calls Tryz.prog 39 #[.pointer (some ⟨g, 0, none⟩), .int .i64 most] w fun x w' => ∃ v, x = .returned v ∧ ∃ p c, v = .slice p (rdB l e most).2.1.length c ∧ HBN w' g (.slice p (rdB l e most).2.1.length c) (rdB l e most).2.1 ∧ XR w' g (rdB l e most).2.2 (rdB l e most).1 ∧ Only g w w' := by
  unfold rdB
  by_cases h0 : e = 0
  · subst h0
    rw [if_pos rfl]
    exact (xbytes_any g l most w h hsz).mono fun x w' ⟨p, c, h1, h2, h3, h4⟩ => ⟨_, h1, p, c, rfl, h2, h3, h4⟩
  · rw [if_neg h0]
    obtain rfl := he h0
    refine (xbytes_stays g e most w h h0).mono ?_
    rintro x w' ⟨rfl, rfl⟩
    exact ⟨_, rfl, none, 0, rfl, HBN.nil _ _, h, Only.refl _ _⟩

theorem bytesF_fell (l : List UInt8) (most : Int) (h : (bytesF l most).1 ≠ 0) : (bytesF l most).2.2 = [] := by
  unfold bytesF at h ⊢
  dsimp only at h ⊢
  split
  · rfl
  · split
    · rfl
    · rename_i h1 h2
      rw [if_neg h1, if_neg h2] at h
      exact absurd rfl h
theorem rdU_fellX (l : List UInt8) (e most : Int) (he : e ≠ 0 → l = []) : (rdU l e most).1 ≠ 0 → (rdU l e most).2.2 = [] := by
  unfold rdU
  split
  · intro h; rw [uintF_fell l most h]
  · rename_i h; intro _; exact he h
theorem rdB_fell (l : List UInt8) (e most : Int) (he : e ≠ 0 → l = []) : (rdB l e most).1 ≠ 0 → (rdB l e most).2.2 = [] := by
  unfold rdB
  split
  · exact bytesF_fell l most
  · rename_i h; intro _; exact he h
theorem bdS_fell (mi mk : Int) (l : List UInt8) (e : Int) (he : e ≠ 0 → l = []) (k : Nat) : (bdS mi mk l e k).2.2 ≠ 0 → (bdS mi mk l e k).2.1 = [] := by
  induction k with
  | zero => exact he
  | succ k ih => exact rdB_fell _ _ _ (rdB_fell _ _ _ ih)

/-- A row of bindings that the call owns, none of their bytes in block g. -/
def RBx (w : World) (base g : Nat) (y : Value) (ps : List (List UInt8 × List UInt8)) : Prop :=
  ∃ vs : List Value, w.ownsRow base 62 2 y ps.length vs ∧ ∀ (j : Nat) x, ps[j]? = some x → ∃ p1 c1 p2 c2, vs[j * 2]? = some (.slice p1 x.1.length c1) ∧ vs[j * 2 + 1]? = some (.slice p2 x.2.length c2) ∧ HBN w g (.slice p1 x.1.length c1) x.1 ∧ HBN w g (.slice p2 x.2.length c2) x.2

theorem RBx.nil (w : World) (base g : Nat) : RBx w base g (.slice none 0 0) [] := ⟨[], World.ownsRow_nil _ _ _ _, fun j x h => by simp at h⟩

theorem owns2_tk {T e : TypeId} {w w' : World} {base n s : Nat} {v : Value} {xs : List Value} (h : w.ownsRow base e s v n xs) (t : TK T w w') (hT : e ≠ T) : w'.ownsRow base e s v n xs := by
  refine ⟨h.1, ?_⟩
  rcases h.2 with hn | ⟨g, cap, cur, rfl, hbg, hg, rest⟩
  · exact .inl hn
  · exact .inr ⟨g, cap, cur, rfl, hbg, t g cur _ _ hg hT, rest⟩

theorem RBx.tk {T : TypeId} {w w' : World} {base g : Nat} {y : Value} {ps : List (List UInt8 × List UInt8)} (h : RBx w base g y ps) (t : TK T w w') (hT : 5 ≠ T) (hB : 62 ≠ T) : RBx w' base g y ps := by
  obtain ⟨vs, h1, h2⟩ := h
  refine ⟨vs, owns2_tk h1 t hB, fun j x hx => ?_⟩
  obtain ⟨p1, c1, p2, c2, q1, q2, q3, q4⟩ := h2 j x hx
  exact ⟨p1, c1, p2, c2, q1, q2, q3.tk t hT, q4.tk t hT⟩

theorem RBx.ba {w : World} {base g : Nat} {y : Value} {ps : List (List UInt8 × List UInt8)} (h : RBx w base g y ps) : BA w y ps := by
  obtain ⟨vs, h1, h2⟩ := h
  obtain ⟨h4, h5⟩ := h1
  rcases h5 with ⟨rfl, h0⟩ | ⟨g', cap, cur, rfl, hb, hg, hl, hm, hs, ht⟩
  · obtain rfl : ps = [] := List.eq_nil_of_length_eq_zero h0
    exact ⟨none, 0, rfl, Nat.le_refl _, Nat.zero_le _, fun h => absurd rfl h⟩
  · refine ⟨_, cap, rfl, hl, hm, fun _ => ⟨g', 0, rfl, fun k x hx => ?_⟩⟩
    obtain ⟨p1, c1, p2, c2, q1, q2, q3, q4⟩ := h2 k x hx
    have cellOf : ∀ i v, vs[i]? = some v → w.cell? ⟨g', 0 + i, none⟩ = some v := by
      intro i v hv
      rw [Nat.zero_add, cell_of_row w g' i cur 62 (0, 0) hg]
      have hi : i < vs.length := (List.getElem?_eq_some_iff.1 hv).1
      rw [← ht, List.getElem?_take, if_pos (by omega)] at hv
      simpa using hv
    exact ⟨p1, c1, p2, c2, cellOf _ _ q1, by rw [Nat.zero_add]; have := cellOf _ _ q2; rwa [Nat.zero_add] at this, q3.1, q4.1⟩

theorem RBx.snoc {w wA w' : World} {base g p1 c1 p2 c2 : _} {y v' : Value} {vs : List Value} {ps : List (List UInt8 × List UInt8)} {a b : List UInt8} (h2 : wA.ownsRow base 62 2 y ps.length vs) (h3 : ∀ (j : Nat) x, ps[j]? = some x → ∃ p1 c1 p2 c2, vs[j * 2]? = some (.slice p1 x.1.length c1) ∧ vs[j * 2 + 1]? = some (.slice p2 x.2.length c2) ∧ HBN w g (.slice p1 x.1.length c1) x.1 ∧ HBN w g (.slice p2 x.2.length c2) x.2)
    (ha : HBN w g (.slice p1 a.length c1) a) (hb' : HBN w g (.slice p2 b.length c2) b) (hb : Below w.heap.size w wA) (hg : wA.grownBy w' y.ownBlock) (ho : w'.ownsRow base 62 2 v' (ps.length + 1) (vs ++ [.slice p1 a.length c1, .slice p2 b.length c2])) : RBx w' base g v' (ps ++ [(a, b)]) := by
  have t := TK.of_grown h2 hg
  have hvl : vs.length = ps.length * 2 := h2.1
  refine ⟨vs ++ [.slice p1 a.length c1, .slice p2 b.length c2], by simpa using ho, fun j x hx => ?_⟩
  by_cases hj : j < ps.length
  · rw [List.getElem?_append_left hj] at hx
    obtain ⟨p1', c1', p2', c2', q1, q2, q3, q4⟩ := h3 j x hx
    refine ⟨p1', c1', p2', c2', ?_, ?_, (q3.later hb).tk t (by decide), (q4.later hb).tk t (by decide)⟩
    · rw [List.getElem?_append_left (by omega)]; exact q1
    · rw [List.getElem?_append_left (by omega)]; exact q2
  · rw [List.getElem?_append_right (by omega)] at hx
    cases hj2 : j - ps.length with
    | succ i => rw [hj2] at hx; simp at hx
    | zero =>
      rw [hj2] at hx
      simp at hx
      obtain rfl : j = ps.length := by omega
      subst hx
      refine ⟨p1, c1, p2, c2, ?_, ?_, (ha.later hb).tk t (by decide), (hb'.later hb).tk t (by decide)⟩
      · rw [List.getElem?_append_right (by omega), hvl, Nat.sub_self]; rfl
      · rw [List.getElem?_append_right (by omega), hvl, show ps.length * 2 + 1 - ps.length * 2 = 1 by omega]; rfl

/-- Under way: the parameters' block, the document's reader. -/
def CX (w0 : World) (gp g : Nat) (P8 : Array Value) (l : List UInt8) (e : Int) (w : World) : Prop :=
  w.heap[gp]? = some (.cells P8 23 (0, 0)) ∧ XR w g l e ∧ Below w0.heap.size w0 w ∧ w0.heap.size ≤ g

theorem CX.only {w0 w w' : World} {gp g : Nat} {P8 : Array Value} {l l' : List UInt8} {e e' : Int} (h : CX w0 gp g P8 l e w) (ho : Only g w w') (hr : XR w' g l' e') : CX w0 gp g P8 l' e' w' ∧ TK 49 w w' := by
  obtain ⟨h1, h2, h3, h4⟩ := h
  obtain ⟨cs, f, hg⟩ := h2.typed
  have t := TK.of_only ho hg
  exact ⟨⟨t _ _ _ _ h1 (by decide), hr, h3.trans (ho.below h4), h4⟩, t⟩
theorem CX.later {w0 w w' : World} {gp g : Nat} {P8 : Array Value} {l : List UInt8} {e : Int} (h : CX w0 gp g P8 l e w) (hb : Below w.heap.size w w') : CX w0 gp g P8 l e w' := by
  obtain ⟨h1, h2, h3, h4⟩ := h
  exact ⟨(hb.block _ (Array.getElem?_eq_some_iff.1 h1).1).trans h1, h2.later hb, h3.trans (hb.mono h3.size), h4⟩
theorem CX.grown {w0 w w' : World} {gp g base n : Nat} {P8 : Array Value} {l : List UInt8} {e : Int} {y : Value} {vs : List Value} (h : CX w0 gp g P8 l e w) (hr : w.ownsRow base 62 2 y n vs) (hb : w0.heap.size ≤ base) (hg : w.grownBy w' y.ownBlock) : CX w0 gp g P8 l e w' := by
  have t := TK.of_grown hr hg
  obtain ⟨h1, h2, h3, h4⟩ := h
  exact ⟨t _ _ _ _ h1 (by decide), h2.tk t (by decide) (by decide), h3.grown hg h3.size (fun k hk => by have := (hr.lt k hk).1; omega), h4⟩

set_option maxRecDepth 100000 in
set_option maxHeartbeats 8000000 in
theorem crread_core (pa pb mi mk pc pd pe pf : Int) (v : Value) (b : List UInt8) (w : World) (hv : HB w v b) (hsz : b.length ≤ 4000000)
    (e1 : Int) (n : Nat) (r1 : List UInt8) (S : Nat → List (List UInt8 × List UInt8)) (Sl Ml : Nat → List UInt8) (Se Me : Nat → Int) (So Sp : Nat → List UInt8)
    (hU1 : ∀ g w, XR w g b 0 → Calls Tryz.prog 18 #[.pointer (some ⟨g, 0, none⟩), .int .i64 32] w fun x w' => x = .returned (.int .i64 (n : Int)) ∧ XR w' g r1 e1 ∧ Only g w w')
    (hBi : Hid (∀ k g w, XR w g (Sl k) (Se k) → Calls Tryz.prog 39 #[.pointer (some ⟨g, 0, none⟩), .int .i64 mi] w fun x w' => ∃ v, x = .returned v ∧ ∃ p c, v = .slice p (So k).length c ∧ HBN w' g (.slice p (So k).length c) (So k) ∧ XR w' g (Ml k) (Me k) ∧ Only g w w'))
    (hBk : Hid (∀ k g w, XR w g (Ml k) (Me k) → Calls Tryz.prog 39 #[.pointer (some ⟨g, 0, none⟩), .int .i64 mk] w fun x w' => ∃ v, x = .returned v ∧ ∃ p c, v = .slice p (Sp k).length c ∧ HBN w' g (.slice p (Sp k).length c) (Sp k) ∧ XR w' g (Sl (k + 1)) (Se (k + 1)) ∧ Only g w w'))
    (hS0 : Hid (S 0 = [] ∧ Sl 0 = r1 ∧ Se 0 = e1)) (hSk : Hid (∀ k, S (k + 1) = S k ++ [(So k, Sp k)])) (hSl : Hid (∀ k, (S k).length = k)) (hn : n ≤ 32) :
    Calls Tryz.prog 19 #[.agg #[.int .i64 pa, .int .i64 pb, .int .i64 mi, .int .i64 mk, .int .i64 pc, .int .i64 pd, .int .i64 pe, .int .i64 pf], v] w (RdTold (Se n) (S n) (Sl n) w) := by
  obtain ⟨P8, hP8⟩ : ∃ P8 : Array Value, P8 = #[.int .i64 pa, .int .i64 pb, .int .i64 mi, .int .i64 mk, .int .i64 pc, .int .i64 pd, .int .i64 pe, .int .i64 pf] := ⟨_, rfl⟩
  have bA := (Below.refl w.heap.size w).alloc (Nat.le_refl _) (.cells P8 23)
  have gA := heap_alloc_new w (.cells P8 23)
  obtain ⟨p, c, rfl⟩ := hv.shape
  obtain ⟨i0, hi, hz0, hz1, hz2⟩ := info_parts i_bind
  obtain ⟨V, hV⟩ : ∃ V, V = w.alloc (.cells P8 23) := ⟨_, rfl⟩
  rw [← hV] at bA gA
  have sV : w.heap.size < V.heap.size := (Array.getElem?_eq_some_iff.1 gA).1
  have sV1 : V.heap.size = w.heap.size + 1 := by rw [hV]; simp
  have bV := (Below.refl V.heap.size V).alloc (Nat.le_refl _) (.cells #[] 5)
  have hf := (hv.later bA).later bV
  have hmade : (V.alloc (.cells #[] 5)).ownsRow (w.heap.size + 1) 5 1 (.slice (some ⟨w.heap.size + 1, 0, none⟩) 0 0) 0 (bcs []) := by
    have := World.ownsRow_made (e := 5) (size := 1) (base := V.heap.size) V #[] 0 (Nat.le_refl _) (Nat.zero_le _) rfl
    rw [sV1] at this
    exact this
  rw [hV] at hf hmade
  rw [hP8] at hf hmade hV
  clear hv
  go_enter Tryz.func19, Tryz.ntmps19
  go_wp2_with (first | (at_builtin; refine wpList_append_hb rfl (.tmp 10) (.tmp 11) 27 rfl (w.heap.size + 1) 5 Tryz.underlying27 i_u8 _ 0 (bcs []) rfl hmade _ _ _ b rfl hf ?qa ?qb ?_))
  case qa => omega
  case qb => simp
  intro v1 w1 hown1 hgrow1
  rw [← hV] at hgrow1
  rw [← sV1] at hown1
  have hb1 : Below V.heap.size V w1 := bV.grown hgrow1 (by simp) (by intro k hk; cases hk; show _ ≤ w.heap.size + 1; omega)
  have hown1' : w1.ownsRow V.heap.size 5 1 v1 b.length (bcs b) := by simpa [bcs] using hown1
  have hlt := hown1'.lt
  obtain ⟨p1, d1, rfl⟩ := owns_shape hown1'
  have hh := HB.of_owns hown1'
  have hty := fun a n c (e : Value.slice p1 b.length d1 = .slice (some a) n c) => TY.of_owns hown1' e
  have bW := (Below.refl w1.heap.size w1).alloc (Nat.le_refl _) (.cells #[.slice p1 b.length d1, .int .i64 0] 49)
  have hgw : w.heap.size ≤ w1.heap.size := by have := hb1.size; omega
  have c2 : CX w w.heap.size w1.heap.size P8 b 0 (w1.alloc (.cells #[.slice p1 b.length d1, .int .i64 0] 49)) :=
    ⟨((hb1.trans (bW.mono hb1.size)).block _ sV).trans gA, ⟨p1, d1, heap_alloc_new w1 _, hh.later bW, fun a n c e => ⟨by have := (hlt a.block (by rw [e]; rfl)).2; omega, (hty a n c e).later bW⟩⟩, bA.trans ((hb1.trans (bW.mono hb1.size)).mono bA.size), hgw⟩
  clear hgrow1 hown1 hown1' hlt hf hh hty bA gA bV hmade sV1 bW hb1 hV
  have hU := hU1 _ _ c2.2.1
  clear hU1
  go_wp2_with fail
  refine hU.mono ?_
  rintro x w3 ⟨rfl, r3, o3⟩
  obtain ⟨c3, _⟩ := c2.only o3 r3
  generalize w1.heap.size = g at *
  clear hU c2 r3 o3
  go_wp2
  go_loopw [8, 17] (fun y i wr => ∃ k : Nat, k ≤ n ∧ i = .int .i64 (k : Int) ∧ CX w w.heap.size g P8 (Sl k) (Se k) wr ∧ RBx wr w.heap.size g y (S k)) (fun _ i _ => n - (intOf i).toNat)
  case atStart =>
    obtain ⟨s1, s2, s3⟩ := hS0.out
    exact ⟨0, Nat.zero_le _, rfl, by rw [s2, s3]; exact c3, by rw [s1]; exact RBx.nil _ _ _⟩
  case round =>
    clear c3
    obtain ⟨k, hk, rfl, cr, br⟩ := hrel
    by_cases hlt : k < n
    · have hlt2 : (k : Int) < (n : Int) := by omega
      have hsm := hSl.out k
      have HSk : Hid (S (k + 1) = S k ++ [(So k, Sp k)]) := hSk.out k
      have hB1 := hBi.out k g wr cr.2.1
      have hB2 := fun w h => hBk.out k g w h
      have m2 : wr.cell? ⟨w.heap.size, 2, none⟩ = some (.int .i64 mi) := by rw [cell_of_row _ _ _ _ _ _ cr.1, hP8]; rfl
      clear hBi hBk hS0 hSk hSl
      go_wp2_with fail
      refine hB1.mono ?_
      rintro x w5 ⟨v5, rfl, p5, c5, rfl, h5, r5, o5⟩
      obtain ⟨cr5, t5⟩ := cr.only o5 r5
      have br5 := br.tk t5 (by decide) (by decide)
      have hB3 := hB2 _ cr5.2.1
      have m3 : w5.cell? ⟨w.heap.size, 3, none⟩ = some (.int .i64 mk) := by rw [cell_of_row _ _ _ _ _ _ cr5.1, hP8]; rfl
      clear hB1 m2 cr br r5 o5 t5 hB2
      go_wp2_with fail
      refine hB3.mono ?_
      rintro x w7 ⟨v7, rfl, p7, c7, rfl, h7, r7, o7⟩
      obtain ⟨cr7, t7⟩ := cr5.only o7 r7
      obtain ⟨vs, ow7, br7⟩ := br5.tk t7 (by decide) (by decide)
      have h57 := h5.tk t7 (by decide)
      clear hB3 m3 cr5 br5 r7 o7 t7 h5
      have bB := (Below.refl w7.heap.size w7).alloc (Nat.le_refl _) (.cells #[.slice p5 (So k).length c5, .slice p7 (Sp k).length c7] 62)
      have owB := owns2_tk ow7 (TK.of_below (T := 49) bB) (by decide)
      have cr8 := cr7.later bB
      have hws : w.heap.size ≤ w7.heap.size := cr7.2.2.1.size
      rw [hsm] at owB
      go_wp2_with (first | (at_builtin; refine wpList_append_own _ rfl (.tmp 23) (.tmp 30) 24 rfl w.heap.size 62 i0 _ 2 48 Tryz.underlying24 hi hz0 hz1 hz2 rfl (by decide) _ _ _ rfl owB ⟨w7.heap.size, 0, none⟩ 1 1 [.slice p5 (So k).length c5, .slice p7 (Sp k).length c7] rfl rfl ?ra ?rb ?rc ?rd ?re ?_))
      case ra => exact cell_two_new _ _ _ _
      case rb => intro u hu; simp at hu; rcases hu with rfl | rfl <;> rfl
      case rc => unfold maxLen; omega
      case rd => omega
      case re => simp; omega
      intro y9 w9 ow9 gr9 _
      have cr9 := cr8.grown owB (Nat.le_refl _) gr9
      have br9 := RBx.snoc (w := w7) (ps := S k) (by rw [hsm]; exact owB) br7 h57 h7 bB gr9 (by rw [hsm]; exact ow9)
      rw [← HSk.out] at br9
      clear ow7 br7 h57 h7 bB owB cr8 cr7 ow9 gr9
      go_wp2
      go_roundw
      case rel => first | exact ⟨k + 1, by omega, by go_num, cr9, br9⟩ | ((repeat apply Exists.intro); exact ⟨⟨k + 1, by omega, by go_num, cr9, br9⟩, rfl⟩)
      case measure => simp [intOf]; omega
    · obtain rfl : k = n := by omega
      have hbw := cr.2.2.1
      have hBA := br.ba
      have hnk : ¬ (k : Int) < (k : Int) := by omega
      obtain ⟨qx, dx, xd, xb⟩ := cr.2.1
      have ce := xd.cells.2
      have cb := xd.cells.1
      obtain ⟨py, cy, rfl⟩ := hBA.shape
      clear hBi hBk hS0 hSk hSl
      generalize hEN : Se k = EN at *
      clear hEN
      by_cases he : EN = 0
      · subst he
        have bD : Below wr.heap.size wr wr.drew := (Below.refl _ wr).drew
        have cbD := cell_later bD cb
        have hbaD := hBA.later bD
        have hxD := xb.1.later bD
        have bF := hbw.trans (bD.mono hbw.size)
        clear hBA xb xd br cr
        go_wp2
        go_region
        all_goals
          go_wp2
          go_ret3
          refine ⟨_, _, rfl, ?_, ?_, bF⟩
          · rw [if_pos rfl]; exact hbaD
          · rw [if_pos rfl]; exact hxD
      · have hne : (EN != 0) = true := by simpa using he
        have bD : Below wr.heap.size wr wr.drew := (Below.refl _ wr).drew
        have ceD := cell_later bD ce
        have bF := hbw.trans (bD.mono hbw.size)
        clear hBA xb xd br cr
        go_wp2
        go_region
        all_goals
          go_wp2
          go_ret3
          refine ⟨_, _, rfl, ?_, ?_, bF⟩
          · rw [if_neg he]; exact ⟨none, 0, rfl, Nat.le_refl _, Nat.zero_le _, fun h => absurd rfl h⟩
          · rw [if_neg he]; exact HB.nil _

theorem crread_any (pa pb mi mk pc pd pe pf : Int) (v : Value) (b : List UInt8) (w : World) (hv : HB w v b) (hsz : b.length ≤ 4000000) :
    Calls Tryz.prog 19 #[.agg #[.int .i64 pa, .int .i64 pb, .int .i64 mi, .int .i64 mk, .int .i64 pc, .int .i64 pd, .int .i64 pe, .int .i64 pf], v] w (RdTold (crS mi mk b).2.2 (crS mi mk b).1 (crS mi mk b).2.1 w) := by
  have l1 : (crU b).2.2.length ≤ b.length := rdU_le b 0 32
  have m1 : ((crU b).2.1 : Int) ≤ 32 := rdU_most b 0 32 (by omega)
  have ls := fun k => bdS_le mi mk (crU b).2.2 (crU b).1 k
  have f1 : (crU b).1 ≠ 0 → (crU b).2.2 = [] := rdU_fellX b 0 32 (fun h => absurd rfl h)
  have fk := fun k => bdS_fell mi mk (crU b).2.2 (crU b).1 f1 k
  exact crread_core pa pb mi mk pc pd pe pf v b w hv hsz (crU b).1 (crU b).2.1 (crU b).2.2
    (fun k => (bdS mi mk (crU b).2.2 (crU b).1 k).1) (fun k => (bdS mi mk (crU b).2.2 (crU b).1 k).2.1) (fun k => (rdB (bdS mi mk (crU b).2.2 (crU b).1 k).2.1 (bdS mi mk (crU b).2.2 (crU b).1 k).2.2 mi).2.2)
    (fun k => (bdS mi mk (crU b).2.2 (crU b).1 k).2.2) (fun k => (rdB (bdS mi mk (crU b).2.2 (crU b).1 k).2.1 (bdS mi mk (crU b).2.2 (crU b).1 k).2.2 mi).1)
    (fun k => (rdB (bdS mi mk (crU b).2.2 (crU b).1 k).2.1 (bdS mi mk (crU b).2.2 (crU b).1 k).2.2 mi).2.1)
    (fun k => (rdB (rdB (bdS mi mk (crU b).2.2 (crU b).1 k).2.1 (bdS mi mk (crU b).2.2 (crU b).1 k).2.2 mi).2.2 (rdB (bdS mi mk (crU b).2.2 (crU b).1 k).2.1 (bdS mi mk (crU b).2.2 (crU b).1 k).2.2 mi).1 mk).2.1)
    (fun g w h => xuint_all g b 0 32 w h (fun h => absurd rfl h) (by omega))
    (fun k g w h => xbytes_all g _ _ _ w h (fk k) (by have := ls k; omega))
    (fun k g w h => xbytes_all g _ _ _ w h (rdB_fell _ _ _ (fk k)) (by have := ls k; have := rdB_le (bdS mi mk (crU b).2.2 (crU b).1 k).2.1 (bdS mi mk (crU b).2.2 (crU b).1 k).2.2 mi; omega))
    ⟨rfl, rfl, rfl⟩ (fun _ => rfl) (fun k => bdS_len mi mk _ _ k) (by omega)

end Go.Proofs.YtcdikkgkjjopmaaGreatDoor
