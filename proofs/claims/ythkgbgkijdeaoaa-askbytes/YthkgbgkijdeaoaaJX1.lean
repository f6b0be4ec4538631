/- What this text proves: the document's reader (annalsref04.Reader) in memory; the walks of its Fail, Take and End over this program. What this text proves: the walk of the document's Uint (annalsref04.Reader) over this program: the next number, or the error. What this text proves: the walk of the document's Uint (annalsref04.Reader) over this program where the bytes of the number are there. What this text proves: the walks of the document's Bytes and Flag (annalsref04.Reader) over this program. -/
import Derived.Test.YthkgbgkijdeaoaaJR2
namespace Go.Proofs.Ythkgbgkijdeaoaa
open Go.RowKit

/-- Block g holds the document's reader: what is left, the first error. -/
def XD (w : World) (g : Nat) (v : Value) (e : Int) : Prop := w.heap[g]? = some (.cells #[v, .int .i64 e] 68 (0, 0))

theorem XD.cells {w : World} {g : Nat} {v : Value} {e : Int} (h : XD w g v e) : w.cell? ⟨g, 0, none⟩ = some v ∧ w.cell? ⟨g, 1, none⟩ = some (.int .i64 e) := by
  refine ⟨?_, ?_⟩ <;> rw [cell_of_row w g _ _ _ _ h] <;> rfl

theorem XD.lt {w : World} {g : Nat} {v : Value} {e : Int} (h : XD w g v e) : g < w.heap.size := (Array.getElem?_eq_some_iff.1 h).1

theorem XD.later {w w' : World} {g : Nat} {v : Value} {e : Int} (h : XD w g v e) (hb : Below w.heap.size w w') : XD w' g v e := by
  unfold XD
  rw [hb.block g h.lt]
  exact h

theorem XD.put0 {w : World} {g : Nat} {v : Value} {e : Int} (h : XD w g v e) (v' : Value) : XD (w.setCell ⟨g, 0, none⟩ v') g v' e := by
  unfold XD
  rw [heap_setCell_same w g 0 _ _ _ h]
  rfl

theorem XD.put1 {w : World} {g : Nat} {v : Value} {e : Int} (h : XD w g v e) (e' : Int) : XD (w.setCell ⟨g, 1, none⟩ (.int .i64 e')) g v e' := by
  unfold XD
  rw [heap_setCell_same w g 1 _ _ _ h]
  rfl

theorem XD.free {w : World} {g : Nat} {v : Value} {e : Int} (h : XD w g v e) (i : Nat) : w.frozen? ⟨g, i, none⟩ = false := by
  unfold XD at h
  simp [World.frozen?, h]

theorem XD.only {w w' : World} {g g' : Nat} {v : Value} {e : Int} (h : XD w g v e) (ho : Only g' w w') (hne : g ≠ g') : XD w' g v e := by
  unfold XD
  rw [ho.block g hne h.lt]
  exact h

/-- The document's reader: what is left, and the first error. -/
def XR (w : World) (g : Nat) (l : List UInt8) (e : Int) : Prop := ∃ p c, XD w g (.slice p l.length c) e ∧ HBN w g (.slice p l.length c) l

theorem XR.later {w w' : World} {g : Nat} {l : List UInt8} {e : Int} (h : XR w g l e) (hb : Below w.heap.size w w') : XR w' g l e := by
  obtain ⟨p, c, h1, h2⟩ := h
  exact ⟨p, c, h1.later hb, h2.later hb⟩

set_option maxRecDepth 100000 in
set_option maxHeartbeats 400000 in
theorem xfail_first (g : Nat) (l : List UInt8) (e' : Int) (w : World) (h : XR w g l 0) :
    Calls Try.prog 49 #[.pointer (some ⟨g, 0, none⟩), .int .i64 e'] w fun x w' => x = .returned (.tuple #[]) ∧ XR w' g [] e' ∧ Only g w w' := by
  obtain ⟨p, c, h, _⟩ := h
  obtain ⟨c0, c1⟩ := h.cells
  have f0 := h.free 0
  have f1 := h.free 1
  obtain ⟨c0', _⟩ := (h.put1 e').cells
  have f0' := (h.put1 e').free 0
  have hx : XR ((w.setCell ⟨g, 1, none⟩ (.int .i64 e')).setCell ⟨g, 0, none⟩ (.slice none 0 0)) g [] e' := ⟨none, 0, (h.put1 e').put0 _, HBN.nil _ _⟩
  clear h
  go_enter Try.func49, Try.ntmps49
  go_wp2
  go_end0
  exact ⟨rfl, hx, ((Only.refl g w).setCell 1 _).setCell 0 _⟩

set_option maxRecDepth 100000 in
set_option maxHeartbeats 400000 in
theorem xfail_stays (g : Nat) (l : List UInt8) (e e' : Int) (w : World) (h : XR w g l e) (he : e ≠ 0) :
    Calls Try.prog 49 #[.pointer (some ⟨g, 0, none⟩), .int .i64 e'] w fun x w' => x = .returned (.tuple #[]) ∧ w' = w := by
  obtain ⟨p, c, h, _⟩ := h
  obtain ⟨c0, c1⟩ := h.cells
  have hd : (e == 0) = false := by simpa using he
  clear h
  go_enter Try.func49, Try.ntmps49
  go_wp2
  go_end0
  exact ⟨rfl, rfl⟩

set_option maxRecDepth 100000 in
set_option maxHeartbeats 400000 in
theorem xend_any (g : Nat) (l : List UInt8) (e : Int) (w : World) (h : XR w g l e) :
    Calls Try.prog 35 #[.pointer (some ⟨g, 0, none⟩)] w fun x w' => x = .returned (.int .i64 (endF l.length e)) ∧ ∃ n, w' = w.drewN n := by
  obtain ⟨p, c, h, _⟩ := h
  obtain ⟨c0, c1⟩ := h.cells
  clear h
  by_cases hE : e = 0
  · subst hE
    by_cases hn : 0 < l.length
    · have hn2 : (0 : Int) < (l.length : Int) := by omega
      have HF : Hid (endF l.length 0 = 5) := by show endF l.length 0 = 5; unfold endF; rw [if_pos ⟨rfl, hn⟩]
      go_enter Try.func35, Try.ntmps35
      go_wp2
      go_ret
      exact ⟨by rw [HF.out]; rfl, 0, rfl⟩
    · have h0 : l.length = 0 := by omega
      rw [h0] at c0 ⊢
      have HF : Hid (endF 0 0 = 0) := by show endF 0 0 = 0; rfl
      clear hn h0
      go_enter Try.func35, Try.ntmps35
      go_wp2
      go_ret
      exact ⟨by rw [HF.out]; rfl, 0, rfl⟩
  · have HF : Hid (endF l.length e = e) := by show endF l.length e = e; unfold endF; rw [if_neg (fun h => hE h.1)]
    have hd : (e == 0) = false := by simpa using hE
    go_enter Try.func35, Try.ntmps35
    go_wp2
    go_ret
    exact ⟨by rw [HF.out]; rfl, 0, rfl⟩

set_option maxRecDepth 100000 in
set_option maxHeartbeats 1000000 in
theorem xtake_err (g : Nat) (e : Int) (n : Nat) (w : World) (h : XR w g [] e) (he : e ≠ 0) :
    Calls Try.prog 48 #[.pointer (some ⟨g, 0, none⟩), .int .i64 (n : Int)] w fun x w' => x = .returned (.slice none 0 0) ∧ w' = w := by
  have k := xfail_stays g [] e 3 w h he
  obtain ⟨p, c, hd, _⟩ := h
  obtain ⟨c0, c1⟩ := hd.cells
  simp only [List.length_nil] at c0
  have hd0 : (e == 0) = false := by simpa using he
  clear hd
  by_cases hn : 0 < n
  · have hn2 : (0 : Int) < (n : Int) := by omega
    go_enter Try.func48, Try.ntmps48
    go_wp2_with (first | (go_at_call 49; refine k.mono ?_; rintro e w' ⟨rfl, hw⟩; have hw2 := hw.symm; clear hw; subst hw2))
    go_ret
    exact ⟨rfl, rfl⟩
  · obtain rfl : n = 0 := by omega
    go_enter Try.func48, Try.ntmps48
    go_wp2
    go_ret
    exact ⟨rfl, rfl⟩

set_option maxRecDepth 100000 in
set_option maxHeartbeats 1000000 in
theorem xtake_short (g : Nat) (l : List UInt8) (n : Nat) (w : World) (h : XR w g l 0) (hn : l.length < n) :
    Calls Try.prog 48 #[.pointer (some ⟨g, 0, none⟩), .int .i64 (n : Int)] w fun x w' => x = .returned (.slice none 0 0) ∧ XR w' g [] 3 ∧ Only g w w' := by
  have k := xfail_first g l 3 w h
  obtain ⟨p, c, hd, _⟩ := h
  obtain ⟨c0, c1⟩ := hd.cells
  have hn2 : (l.length : Int) < (n : Int) := by omega
  clear hd
  go_enter Try.func48, Try.ntmps48
  go_wp2_with (first | (go_at_call 49; refine k.mono ?_; rintro e w1 ⟨rfl, hx1, ho1⟩; have hX1 : Hid (XR w1 g [] 3) := hx1; obtain ⟨p1, d1, hd1, hz1⟩ := hx1; obtain ⟨e0, e1⟩ := hd1.cells; clear hd1 hz1))
  go_ret
  exact ⟨rfl, hX1.out, ho1⟩

set_option maxRecDepth 100000 in
set_option maxHeartbeats 1000000 in
theorem xtake_ok (g : Nat) (l : List UInt8) (n : Nat) (w : World) (h : XR w g l 0) (hn : n ≤ l.length) (hsz : l.length ≤ 140737488355328) :
    Calls Try.prog 48 #[.pointer (some ⟨g, 0, none⟩), .int .i64 (n : Int)] w fun x w' => ∃ p c, x = .returned (.slice p n c) ∧ HBN w' g (.slice p n c) (l.take n) ∧ XR w' g (l.drop n) 0 ∧ Only g w w' := by
  obtain ⟨p, c, hd, hh, hnb⟩ := h
  obtain ⟨c0, c1⟩ := hd.cells
  have hlen := hh.len.2
  unfold maxLen at hlen
  have hgl := hd.lt
  have hn2 : (n : Int) ≤ (l.length : Int) := by omega
  have k1 := fun w => run_upto (P := Try.prog) Try.underlying22 s_u8 p l.length c n (n : Int) rfl (by omega) w
  have k3 : ∀ w, (Instr.slice 22 (.slice p l.length c) (some (.int .i64 (n : Int))) none none).run Try.prog w = .ok (.slice (cutP p c n) (l.length - n) (c - n)) w := fun w => run_cut (P := Try.prog) Try.underlying22 s_u8 p l.length c n (n : Int) rfl (by omega) w
  have hb0 : Below w.heap.size w (w.alloc (.cells #[] 5)) := (Below.refl _ w).alloc (Nat.le_refl _) _
  have hf := (hh.front n (by omega)).later hb0
  obtain ⟨c0', c1'⟩ := (hd.later hb0).cells
  have hbh : HBN w g (.slice (cutP p c n) (l.length - n) (c - n)) (l.drop n) := HBN.behind (g := g) ⟨hh, hnb⟩ n (by omega)
  have HTL : Hid ((l.take n).length = n) := by show _ = _; rw [List.length_take]; omega
  have HDL : Hid ((l.drop n).length = l.length - n) := by show _ = _; rw [List.length_drop]
  have HD : Hid (XD w g (.slice p l.length c) 0) := hd
  clear hh hnb hd
  go_enter Try.func48, Try.ntmps48
  go_wp2_with (first | (at_builtin; refine wpList_append_hb rfl (.tmp 20) (.tmp 26) 22 rfl w.heap.size 5 Try.underlying22 i_u8 _ 0 [] rfl (World.ownsRow_made w #[] 0 (Nat.le_refl _) (Nat.zero_le _) rfl) _ _ _ (l.take n) rfl hf ?qa ?qb ?_))
  case qa => omega
  case qb => simp
  intro v1 w1 hown1 hgrow1
  have hb1 : Below w.heap.size w w1 := hb0.grown hgrow1 (by simp) (by intro k hk; cases hk; exact Nat.le_refl _)
  have hown1' : w1.ownsRow w.heap.size 5 1 v1 n (bcs (l.take n)) := by simpa using hown1
  have hlt := hown1'.lt
  obtain ⟨p1, d1, rfl⟩ := owns_shape hown1'
  have ht1 : HBN w1 g (.slice p1 n d1) (l.take n) := ⟨HB.of_owns hown1', fun a n c e => ⟨by have := (hlt a.block (by rw [e]; rfl)).1; omega, TY.of_owns hown1' e⟩⟩
  have hd1 := HD.out.later hb1
  obtain ⟨e0, e1⟩ := hd1.cells
  have f0 := hd1.free 0
  have hbh1 := hbh.later hb1
  clear hgrow1 hown1 hown1' hlt hf c0 c1 c0' c1' hbh hb0
  go_wp2
  go_ret
  have ho1 : Only g w w1 := Only.of_below hb1 (by omega)
  have hos : Only g w1 (w1.setCell ⟨g, 0, none⟩ (.slice (cutP p c n) (l.length - n) (c - n))) := (Only.refl g w1).setCell 0 _
  refine ⟨p1, d1, rfl, ht1.only hos, ⟨cutP p c n, c - n, ?_, ?_⟩, ho1.trans hos⟩
  · rw [HDL.out]; exact hd1.put0 _
  · rw [HDL.out]; exact hbh1.only hos

end Go.Proofs.Ythkgbgkijdeaoaa

namespace Go.Proofs.Ythkgbgkijdeaoaa
open Go.RowKit

/-- What the document's Uint answers. -/
def XSaid (g : Nat) (w : World) (l : List UInt8) (most : Int) (x : Ending) (w' : World) : Prop := x = .returned (.int .i64 ((uintF l most).2.1 : Int)) ∧ XR w' g (uintF l most).2.2 (uintF l most).1 ∧ Only g w w'

theorem XR.xd {w : World} {g : Nat} {l : List UInt8} {e : Int} (h : XR w g l e) : w.cell? ⟨g, 1, none⟩ = some (.int .i64 e) := by
  obtain ⟨p, c, h1, _⟩ := h
  exact h1.cells.2

theorem take_one (g : Nat) (x : UInt8) (r : List UInt8) (w : World) (h : XR w g (x :: r) 0) (hsz : (x :: r).length ≤ 140737488355328) :
    Calls Try.prog 48 #[.pointer (some ⟨g, 0, none⟩), .int .i64 1] w fun y w' => ∃ b o c, y = .returned (.slice (some ⟨b, o, none⟩) 1 c) ∧ b ≠ g ∧ w'.cell? ⟨b, o, none⟩ = some (.int .u8 (x.toNat : Int)) ∧ XR w' g r 0 ∧ Only g w w' := by
  refine (xtake_ok g (x :: r) 1 w h (by simp) hsz).mono fun y w' ⟨p, c, hy, ⟨hh, hn⟩, hx, ho⟩ => ?_
  obtain ⟨b, o, rfl, hc⟩ := hh.addr (by omega)
  exact ⟨b, o, c, hy, (hn _ _ _ rfl).1, by have := hc 0 x rfl; simpa [bc] using this, by simpa using hx, ho⟩

set_option maxRecDepth 100000 in
set_option maxHeartbeats 1000000 in
theorem xuint_nil (g : Nat) (most : Int) (w : World) (h : XR w g [] 0) : Calls Try.prog 31 #[.pointer (some ⟨g, 0, none⟩), .int .i64 most] w (XSaid g w [] most) := by
  have k := xtake_short g [] 1 w h (by simp)
  clear h
  go_enter Try.func31, Try.ntmps31
  go_wp2_with (first | (go_at_call 48; refine k.mono ?_; rintro e w1 ⟨rfl, hx1, ho1⟩))
  go_ret
  exact ⟨rfl, hx1, ho1⟩

set_option maxRecDepth 100000 in
set_option maxHeartbeats 1000000 in
theorem xuint_stays (g : Nat) (e most : Int) (w : World) (h : XR w g [] e) (he : e ≠ 0) : Calls Try.prog 31 #[.pointer (some ⟨g, 0, none⟩), .int .i64 most] w fun x w' => x = .returned (.int .i64 0) ∧ w' = w := by
  have k := xtake_err g e 1 w h he
  clear h
  go_enter Try.func31, Try.ntmps31
  go_wp2_with (first | (go_at_call 48; refine k.mono ?_; rintro e w1 ⟨rfl, hw⟩; have hw2 := hw.symm; clear hw; subst hw2))
  go_ret
  exact ⟨rfl, rfl⟩

set_option maxRecDepth 100000 in
set_option maxHeartbeats 2000000 in
theorem xuint_big (g : Nat) (x : UInt8) (r : List UInt8) (most : Int) (w : World) (h : XR w g (x :: r) 0) (hsz : (x :: r).length ≤ 140737488355328) (h8 : 8 < x.toNat) : Calls Try.prog 31 #[.pointer (some ⟨g, 0, none⟩), .int .i64 most] w (XSaid g w (x :: r) most) := by
  have k := take_one g x r w h hsz
  have HU : Hid (uintF (x :: r) most = (5, 0, [])) := by show uintF (x :: r) most = _; simp only [uintF]; rw [if_pos h8]
  have hx := x.toNat_lt
  have h82 : (8 : Int) < (x.toNat : Int) := by omega
  have hrem : (x.toNat : Int).tmod 9 = ((x.toNat % 9 : Nat) : Int) := by rw [Int.tmod_eq_emod_of_nonneg (by omega)]; omega
  have hrem2 : (x.toNat : Int) % 9 = ((x.toNat % 9 : Nat) : Int) := by omega
  generalize x.toNat % 9 = z at *
  clear h
  go_enter Try.func31, Try.ntmps31
  go_wp2_with fail
  refine k.mono ?_
  rintro e w1 ⟨b, o, d, rfl, hbg, hc1, hx1, ho1⟩
  have kf := xfail_first g r 5 w1 hx1
  clear k
  go_wp2_with fail
  refine kf.mono ?_
  rintro e w2 ⟨rfl, hx2, ho2⟩
  have hc2 : w2.cell? ⟨b, o, none⟩ = some (.int .u8 (x.toNat : Int)) := by rw [World.cell?_of_block (w := w1) (ho2.block b hbg (cell_lt hc1))]; exact hc1
  have ho02 := ho1.trans ho2
  have kt := xtake_err g 5 z w2 hx2 (by decide)
  have ks := xfail_stays g [] 5 4 w2 hx2 (by decide)
  have ce := hx2.xd
  clear kf hc1 hx1 ho1 ho2
  go_wp2_with (first | (go_at_call 48; refine kt.mono ?_; rintro e w3 ⟨rfl, hw⟩; have hw2 := hw.symm; clear hw; subst hw2))
  go_loopw [7, 30] (fun n i wr => i = .int .i64 0 ∧ n = .int .u64 0 ∧ w2 = wr) (fun _ _ _ => 0)
  case atStart => exact ⟨rfl, rfl, rfl⟩
  case round =>
    obtain ⟨rfl, rfl, rfl⟩ := hrel
    by_cases hm : most < 0
    · go_wp2_with (first | (go_at_call 49; refine ks.mono ?_; rintro e w3 ⟨rfl, hw⟩; have hw2 := hw.symm; clear hw; subst hw2))
      go_ret
      refine ⟨?_, ?_, ho02⟩
      · rw [HU.out]; rfl
      · rw [HU.out]; exact hx2
    · have hd : decide (most < 0) = false := by simpa using hm
      go_wp2
      go_ret
      refine ⟨?_, ?_, ho02⟩
      · rw [HU.out]; rfl
      · rw [HU.out]; exact hx2

set_option maxRecDepth 100000 in
set_option maxHeartbeats 2000000 in
theorem xuint_short (g : Nat) (x : UInt8) (r : List UInt8) (most : Int) (w : World) (h : XR w g (x :: r) 0) (hsz : (x :: r).length ≤ 140737488355328) (h8 : x.toNat ≤ 8) (hs : r.length < x.toNat) : Calls Try.prog 31 #[.pointer (some ⟨g, 0, none⟩), .int .i64 most] w (XSaid g w (x :: r) most) := by
  have k := take_one g x r w h hsz
  have HU : Hid (uintF (x :: r) most = (3, 0, [])) := by show uintF (x :: r) most = _; simp only [uintF]; rw [if_neg (by omega), if_pos hs]
  have hx := x.toNat_lt
  have h82 : (x.toNat : Int) ≤ 8 := by omega
  have hrem : (x.toNat : Int).tmod 9 = (x.toNat : Int) := by rw [Int.tmod_eq_emod_of_nonneg (by omega)]; omega
  have hrem2 : (x.toNat : Int) % 9 = (x.toNat : Int) := by omega
  clear h
  go_enter Try.func31, Try.ntmps31
  go_wp2_with fail
  refine k.mono ?_
  rintro e w1 ⟨b, o, d, rfl, hbg, hc1, hx1, ho1⟩
  have kt1 := xtake_short g r x.toNat w1 hx1 hs
  clear k
  go_wp2_with fail
  refine kt1.mono ?_
  rintro e w2 ⟨rfl, hx2, ho2⟩
  have ho02 := ho1.trans ho2
  have ks := xfail_stays g [] 3 4 w2 hx2 (by decide)
  have ce := hx2.xd
  clear kt1 hc1 hx1 ho1 ho2
  go_wp2
  go_loopw [7, 30] (fun n i wr => i = .int .i64 0 ∧ n = .int .u64 0 ∧ w2 = wr) (fun _ _ _ => 0)
  case atStart => exact ⟨rfl, rfl, rfl⟩
  case round =>
    obtain ⟨rfl, rfl, rfl⟩ := hrel
    by_cases hm : most < 0
    · go_wp2_with (first | (go_at_call 49; refine ks.mono ?_; rintro e w3 ⟨rfl, hw⟩; have hw2 := hw.symm; clear hw; subst hw2))
      go_ret
      refine ⟨?_, ?_, ho02⟩
      · rw [HU.out]; rfl
      · rw [HU.out]; exact hx2
    · have hd : decide (most < 0) = false := by simpa using hm
      go_wp2
      go_ret
      refine ⟨?_, ?_, ho02⟩
      · rw [HU.out]; rfl
      · rw [HU.out]; exact hx2

set_option maxRecDepth 100000 in
set_option maxHeartbeats 2000000 in
theorem xuint_zero (g : Nat) (r : List UInt8) (most : Int) (w : World) (h : XR w g (0 :: r) 0) (hsz : ((0 : UInt8) :: r).length ≤ 140737488355328) : Calls Try.prog 31 #[.pointer (some ⟨g, 0, none⟩), .int .i64 most] w (XSaid g w (0 :: r) most) := by
  have k := take_one g 0 r w h hsz
  simp only [UInt8.toNat_zero] at k
  have hU : uintF (0 :: r) most = if most < 0 then (4, 0, []) else (0, 0, r) := by simp [uintF, valL]
  have hszr : r.length ≤ 140737488355328 := by simp at hsz; omega
  clear h
  go_enter Try.func31, Try.ntmps31
  go_wp2_with fail
  refine k.mono ?_
  rintro e w1 ⟨b, o, d, rfl, hbg, hc1, hx1, ho1⟩
  have kt1 := xtake_ok g r 0 w1 hx1 (by omega) hszr
  clear k
  go_wp2_with fail
  refine kt1.mono ?_
  rintro e w2 ⟨p2, d2, rfl, _, hx2, ho2⟩
  simp only [List.drop_zero] at hx2
  have ho02 := ho1.trans ho2
  have ks := xfail_first g r 4 w2 hx2
  have ce := hx2.xd
  clear kt1 hc1 hx1 ho1 ho2
  go_wp2
  go_loopw [7, 30] (fun n i wr => i = .int .i64 0 ∧ n = .int .u64 0 ∧ w2 = wr) (fun _ _ _ => 0)
  case atStart => exact ⟨rfl, rfl, rfl⟩
  case round =>
    obtain ⟨rfl, rfl, rfl⟩ := hrel
    by_cases hm : most < 0
    · rw [if_pos hm] at hU
      have HU : Hid (uintF (0 :: r) most = (4, 0, [])) := hU
      clear hU
      go_wp2_with (first | (go_at_call 49; refine ks.mono ?_; rintro e w3 ⟨rfl, hx3, ho3⟩; have ce3 := hx3.xd))
      go_ret
      refine ⟨?_, ?_, ho02.trans ho3⟩
      · rw [HU.out]; rfl
      · rw [HU.out]; exact hx3
    · rw [if_neg hm] at hU
      have HU : Hid (uintF (0 :: r) most = (0, 0, r)) := hU
      have hd : decide (most < 0) = false := by simpa using hm
      clear hU
      go_wp2
      go_ret
      refine ⟨?_, ?_, ho02⟩
      · rw [HU.out]; rfl
      · rw [HU.out]; exact hx2

end Go.Proofs.Ythkgbgkijdeaoaa

namespace Go.Proofs.Ythkgbgkijdeaoaa
open Go.RowKit

theorem HBN.get {w : World} {g b o n c : Nat} {l : List UInt8} (h : HBN w g (.slice (some ⟨b, o, none⟩) n c) l) (k : Nat) (d : UInt8) (hk : l[k]? = some d) : w.cell? ⟨b, o + k, none⟩ = some (.int .u8 (d.toNat : Int)) := by
  have hlt : k < l.length := (List.getElem?_eq_some_iff.1 hk).1
  have hl := h.1.len.1
  obtain ⟨b', o', e, hc⟩ := h.1.addr (by omega)
  simp only [Option.some.injEq, Addr.mk.injEq, and_true] at e
  obtain ⟨rfl, rfl⟩ := e
  exact hc k d hk

set_option maxRecDepth 100000 in
set_option maxHeartbeats 4000000 in
theorem xuint_pos (g : Nat) (x : UInt8) (r : List UInt8) (most : Int) (w : World) (h : XR w g (x :: r) 0) (hsz : (x :: r).length ≤ 140737488355328) (hx1 : 1 ≤ x.toNat) (h8 : x.toNat ≤ 8) (hs : x.toNat ≤ r.length) : Calls Try.prog 31 #[.pointer (some ⟨g, 0, none⟩), .int .i64 most] w (XSaid g w (x :: r) most) := by
  have k := take_one g x r w h hsz
  have hx := x.toNat_lt
  have h82 : (x.toNat : Int) ≤ 8 := by omega
  have hrem : (x.toNat : Int).tmod 9 = (x.toNat : Int) := by rw [Int.tmod_eq_emod_of_nonneg (by omega)]; omega
  have hrem2 : (x.toNat : Int) % 9 = (x.toNat : Int) := by omega
  have hszr : r.length ≤ 140737488355328 := by simp at hsz; omega
  obtain ⟨D, hD⟩ : ∃ D, D = r.take x.toNat := ⟨_, rfl⟩
  obtain ⟨R, hR⟩ : ∃ R, R = r.drop x.toNat := ⟨_, rfl⟩
  have hDl : D.length = x.toNat := by rw [hD, List.length_take]; omega
  obtain ⟨d0, D', hDD⟩ : ∃ d0 D', D = d0 :: D' := by
    cases D with
    | nil => simp at hDl; omega
    | cons d0 D' => exact ⟨d0, D', rfl⟩
  have hd0 := d0.toNat_lt
  have hV8 : valL D < 18446744073709551616 := by
    have h1 := valL_lt D
    have h2 : (256 : Nat) ^ D.length ≤ 256 ^ 8 := Nat.pow_le_pow_right (by omega) (by omega)
    have h3 : (256 : Nat) ^ 8 = 18446744073709551616 := by decide
    omega
  have hU : uintF (x :: r) most = if d0 = 0 then (5, 0, []) else if 4611686018427387904 < valL D then (5, 0, []) else if most < (valL D : Int) then (4, 0, []) else (0, valL D, R) := by
    simp only [uintF]
    rw [if_neg (by omega), if_neg (by omega), ← hD, ← hR]
    by_cases hz : d0 = 0
    · rw [if_pos (by rw [hDD, hz]; rfl), if_pos hz]
    · rw [if_neg (by rw [hDD]; simp; exact hz), if_neg hz]
  have hDn : ∀ k, k < x.toNat → ∃ d, Hid (D[k]? = some d) ∧ Hid (valL (D.take (k + 1)) = valL (D.take k) * 256 + d.toNat) ∧ (k = 0 → d = d0) := by
    intro k hk
    have gd : D[k]? = some (D[k]'(by omega)) := List.getElem?_eq_getElem (by omega)
    refine ⟨_, gd, valL_next D k _ gd, fun h0 => ?_⟩
    subst h0
    simp [hDD]
  have hDt : D.take x.toNat = D := List.take_of_length_le (by omega)
  have hvl := fun k (hk : k < x.toNat) => valL_take_lt D k (by omega)
  have kt := fun w1 (hx1 : XR w1 g r 0) => xtake_ok g r x.toNat w1 hx1 hs hszr
  rw [← hD, ← hR] at kt
  have hz7 : d0 = 0 → valL D < 72057594037927936 := by
    intro h0
    rw [hDD, h0, valL_cons]
    have h1 := valL_lt D'
    have hl : D'.length ≤ 7 := by rw [hDD] at hDl; simp at hDl; omega
    have h2 : (256 : Nat) ^ D'.length ≤ 256 ^ 7 := Nat.pow_le_pow_right (by omega) hl
    have h3 : (256 : Nat) ^ 7 = 72057594037927936 := by decide
    simp
    omega
  clear h hsz hD hR hDD
  go_enter Try.func31, Try.ntmps31
  go_wp2_with fail
  refine k.mono ?_
  rintro e w1 ⟨b, o, d, rfl, hbg, hc1, hx1, ho1⟩
  clear k
  go_wp2_with fail
  refine (kt _ hx1).mono ?_
  rintro e w2 ⟨p2, c2, rfl, hd2, hx2, ho2⟩
  have ho02 := ho1.trans ho2
  obtain ⟨b2, o2, rfl, hcc⟩ := hd2.1.addr (by omega)
  clear kt hc1 hx1 ho1 ho2 hcc
  by_cases hz : d0 = 0
  · rw [if_pos hz] at hU
    have HU : Hid (uintF (x :: r) most = (5, 0, [])) := hU
    have hV7 := hz7 hz
    clear hU hz7
    go_wp2
    go_loopw [7, 30] (fun n i wr => ∃ k : Nat, k ≤ x.toNat ∧ i = .int .i64 k ∧ n = .int .u64 (valL (D.take k) : Int) ∧ HBN wr g (.slice (some ⟨b2, o2, none⟩) x.toNat c2) D ∧ Only g w wr ∧ (k = 0 → XR wr g R 0) ∧ (0 < k → XR wr g [] 5)) (fun _ i _ => x.toNat - (intOf i).toNat)
    case atStart => exact ⟨0, Nat.zero_le _, rfl, rfl, hd2, ho02, fun _ => hx2, fun h => absurd h (by omega)⟩
    case round =>
      clear hd2 hx2 ho02
      obtain ⟨k, hk, rfl, rfl, hd2, ho02, hk0, hk1⟩ := hrel
      by_cases hlt : k < x.toNat
      · obtain ⟨d, gd, HV, hdd⟩ := hDn k hlt
        have cdk := hd2.get k d gd.out
        have hvk := hvl k hlt
        generalize valL (D.take k) = V at *
        have hd := d.toNat_lt
        have hlt2 : (k : Int) < (x.toNat : Int) := by omega
        by_cases h0 : k = 0
        · obtain rfl := hdd h0
          have kf := xfail_first g R 5 wr (hk0 h0)
          subst h0
          subst hz
          simp only [UInt8.toNat_zero, Nat.add_zero] at cdk
          rw [show ((0 : Nat) : Int) = 0 from rfl]
          clear hk0 hk1 hdd
          go_wp2_with (first | (go_at_call 49; refine kf.mono ?_; rintro e w4 ⟨rfl, hx4, ho4⟩; have hd4 := hd2.only ho4; have ho04 := ho02.trans ho4; clear hd2 ho02))
          refine ⟨⟨1, by omega, by go_num, ?_, hd4, ho04, fun h => absurd h (by omega), fun _ => hx4⟩, by simp [intOf]; omega⟩
          have := HV.out
          simp only [UInt8.toNat_zero] at this
          rw [show (0 : Nat) + 1 = 1 from rfl] at this
          congr 1
          omega
        · have h0' : ¬ (k : Int) = 0 := by omega
          have h0b : ((k : Int) == 0) = false := by simpa using h0'
          have hx5 := hk1 (by omega)
          clear hk0 hk1 hdd
          go_wp2
          refine ⟨⟨k + 1, by omega, by go_num, ?_, hd2, ho02, fun h => absurd h (by omega), fun _ => hx5⟩, by simp [intOf]; omega⟩
          have := HV.out
          congr 1
          omega
      · obtain rfl : k = x.toNat := by omega
        rw [hDt]
        have hx5 := hk1 (by omega)
        have ks := xfail_stays g [] 5 4 wr hx5 (by decide)
        have ce := hx5.xd
        clear hk0 hk1 hDn hDt hvl
        generalize valL D = V at *
        have hV2 : (V : Int) ≤ 4611686018427387904 := by omega
        by_cases hm : most < (V : Int)
        · go_wp2_with (first | (go_at_call 49; refine ks.mono ?_; rintro e w3 ⟨rfl, hw⟩; have hw2 := hw.symm; clear hw; subst hw2))
          go_ret
          refine ⟨?_, ?_, ho02⟩
          · rw [HU.out]; rfl
          · rw [HU.out]; exact hx5
        · have hd : decide (most < (V : Int)) = false := by simpa using hm
          go_wp2
          go_ret
          refine ⟨?_, ?_, ho02⟩
          · rw [HU.out]; rfl
          · rw [HU.out]; exact hx5
  · rw [if_neg hz] at hU
    have hzI : ¬ (d0.toNat : Int) = 0 := fun e => hz (UInt8.toNat_inj.1 (by simp; omega))
    clear hz7
    go_wp2
    go_loopw [7, 30] (fun n i wr => ∃ k : Nat, k ≤ x.toNat ∧ i = .int .i64 k ∧ n = .int .u64 (valL (D.take k) : Int) ∧ w2 = wr) (fun _ i _ => x.toNat - (intOf i).toNat)
    case atStart => exact ⟨0, Nat.zero_le _, rfl, rfl, rfl⟩
    case round =>
      obtain ⟨k, hk, rfl, rfl, rfl⟩ := hrel
      by_cases hlt : k < x.toNat
      · obtain ⟨d, gd, HV, hdd⟩ := hDn k hlt
        have cdk := hd2.get k d gd.out
        have hvk := hvl k hlt
        generalize valL (D.take k) = V at *
        have hd := d.toNat_lt
        have hlt2 : (k : Int) < (x.toNat : Int) := by omega
        by_cases h0 : k = 0
        · obtain rfl := hdd h0
          subst h0
          have hzb : ((d.toNat : Int) == 0) = false := by simpa using hzI
          simp only [Nat.add_zero] at cdk
          rw [show ((0 : Nat) : Int) = 0 from rfl]
          clear hdd
          go_wp2
          refine ⟨⟨1, by omega, by go_num, ?_, trivial⟩, by simp [intOf]; omega⟩
          have := HV.out
          rw [show (0 : Nat) + 1 = 1 from rfl] at this
          congr 1
          omega
        · have h0' : ¬ (k : Int) = 0 := by omega
          have h0b : ((k : Int) == 0) = false := by simpa using h0'
          clear hdd
          go_wp2
          refine ⟨⟨k + 1, by omega, by go_num, ?_, trivial⟩, by simp [intOf]; omega⟩
          have := HV.out
          congr 1
          omega
      · obtain rfl : k = x.toNat := by omega
        rw [hDt]
        have ce := hx2.xd
        clear hDn hDt hvl
        generalize valL D = V at *
        by_cases hbig : 4611686018427387904 < V
        · rw [if_pos hbig] at hU
          have HU : Hid (uintF (x :: r) most = (5, 0, [])) := hU
          have hb2 : (4611686018427387904 : Int) < (V : Int) := by omega
          have kf := xfail_first g R 5 w2 hx2
          clear hU
          go_wp2_with fail
          refine kf.mono ?_
          rintro e w4 ⟨rfl, hx4, ho4⟩
          have ho04 := ho02.trans ho4
          have ks := xfail_stays g [] 5 4 w4 hx4 (by decide)
          have ce4 := hx4.xd
          clear kf ce hx2 ho02 ho4 hd2
          go_wp2_with (first | (go_at_call 49; refine ks.mono ?_; rintro e w3 ⟨rfl, hw⟩; have hw2 := hw.symm; clear hw; subst hw2))
          all_goals
            go_ret
            refine ⟨?_, ?_, ho04⟩
            · rw [HU.out]; rfl
            · rw [HU.out]; exact hx4
        · rw [if_neg hbig] at hU
          have hb2 : (V : Int) ≤ 4611686018427387904 := by omega
          by_cases hm : most < (V : Int)
          · rw [if_pos hm] at hU
            have HU : Hid (uintF (x :: r) most = (4, 0, [])) := hU
            have kf := xfail_first g R 4 w2 hx2
            clear hU
            go_wp2_with (first | (go_at_call 49; refine kf.mono ?_; rintro e w4 ⟨rfl, hx4, ho4⟩; have ce4 := hx4.xd))
            go_ret
            refine ⟨?_, ?_, ho02.trans ho4⟩
            · rw [HU.out]; rfl
            · rw [HU.out]; exact hx4
          · rw [if_neg hm] at hU
            have HU : Hid (uintF (x :: r) most = (0, V, R)) := hU
            have hd : decide (most < (V : Int)) = false := by simpa using hm
            clear hU
            go_wp2
            go_ret
            refine ⟨?_, ?_, ho02⟩
            · rw [HU.out]; rfl
            · rw [HU.out]; exact hx2

theorem xuint_any (g : Nat) (l : List UInt8) (most : Int) (w : World) (h : XR w g l 0) (hsz : l.length ≤ 140737488355328) : Calls Try.prog 31 #[.pointer (some ⟨g, 0, none⟩), .int .i64 most] w (XSaid g w l most) := by
  cases l with
  | nil => exact xuint_nil g most w h
  | cons x r =>
    by_cases h8 : 8 < x.toNat
    · exact xuint_big g x r most w h hsz h8
    · by_cases hs : r.length < x.toNat
      · exact xuint_short g x r most w h hsz (by omega) hs
      · by_cases h0 : x.toNat = 0
        · obtain rfl : x = 0 := UInt8.toNat_inj.1 (by simpa using h0)
          exact xuint_zero g r most w h hsz
        · exact xuint_pos g x r most w h hsz (by omega) (by omega) (by omega)

end Go.Proofs.Ythkgbgkijdeaoaa

namespace Go.Proofs.Ythkgbgkijdeaoaa
open Go.RowKit

/-- What the document's Bytes answers. -/
def XBytesSaid (g : Nat) (w : World) (l : List UInt8) (most : Int) (x : Ending) (w' : World) : Prop := ∃ p c, x = .returned (.slice p (bytesF l most).2.1.length c) ∧ HBN w' g (.slice p (bytesF l most).2.1.length c) (bytesF l most).2.1 ∧ XR w' g (bytesF l most).2.2 (bytesF l most).1 ∧ Only g w w'

set_option maxRecDepth 100000 in
set_option maxHeartbeats 1000000 in
theorem xbytes_any (g : Nat) (l : List UInt8) (most : Int) (w : World) (h : XR w g l 0) (hsz : l.length ≤ 140737488355328) : Calls Try.prog 50 #[.pointer (some ⟨g, 0, none⟩), .int .i64 most] w (XBytesSaid g w l most) := by
  have ku := xuint_any g l most w h hsz
  have hle := uintF_le l most
  have hfe : (uintF l most).1 ≠ 0 → (uintF l most).2 = (0, []) := uintF_fell l most
  have hB : bytesF l most = if (uintF l most).1 ≠ 0 then ((uintF l most).1, [], []) else if (uintF l most).2.2.length < (uintF l most).2.1 then (3, [], []) else (0, (uintF l most).2.2.take (uintF l most).2.1, (uintF l most).2.2.drop (uintF l most).2.1) := rfl
  unfold XSaid at ku
  unfold XBytesSaid
  generalize bytesF l most = B at *
  generalize uintF l most = u at *
  obtain ⟨E, N, R⟩ := u
  simp only at ku hle hfe hB
  clear h
  by_cases hE : E = 0
  · subst hE
    rw [if_neg (by simp)] at hB
    by_cases hN : R.length < N
    · rw [if_pos hN] at hB
      have HB3 : Hid (B = (3, [], [])) := hB
      clear hB hfe
      go_enter Try.func50, Try.ntmps50
      go_wp2_with fail
      refine ku.mono ?_
      rintro e w1 ⟨rfl, hx1, ho1⟩
      have kt := xtake_short g R N w1 hx1 hN
      clear ku
      go_wp2_with fail
      refine kt.mono ?_
      rintro e w2 ⟨rfl, hx2, ho2⟩
      go_wp2
      go_ret
      rw [HB3.out]
      exact ⟨none, 0, rfl, HBN.nil _ _, hx2, ho1.trans ho2⟩
    · rw [if_neg hN] at hB
      have HB3 : Hid (B = (0, R.take N, R.drop N)) := hB
      have HTL : Hid ((R.take N).length = N) := by show _ = _; rw [List.length_take]; omega
      clear hB hfe
      go_enter Try.func50, Try.ntmps50
      go_wp2_with fail
      refine ku.mono ?_
      rintro e w1 ⟨rfl, hx1, ho1⟩
      have kt := xtake_ok g R N w1 hx1 (by omega) (by omega)
      clear ku
      go_wp2_with fail
      refine kt.mono ?_
      rintro e w2 ⟨p2, c2, rfl, ht2, hx2, ho2⟩
      go_wp2
      go_ret
      rw [HB3.out]
      refine ⟨p2, c2, ?_, ?_, hx2, ho1.trans ho2⟩
      · simp only [HTL.out]; rfl
      · simp only [HTL.out]; exact ht2
  · rw [if_pos hE] at hB
    have HB3 : Hid (B = (E, [], [])) := hB
    have hf := hfe hE
    simp only [Prod.mk.injEq] at hf
    obtain ⟨rfl, rfl⟩ := hf
    clear hB hfe
    go_enter Try.func50, Try.ntmps50
    go_wp2_with fail
    refine ku.mono ?_
    rintro e w1 ⟨rfl, hx1, ho1⟩
    have kt := xtake_err g E 0 w1 hx1 hE
    clear ku
    go_wp2_with fail
    refine kt.mono ?_
    rintro e w2 ⟨rfl, hw⟩
    have hw2 := hw.symm
    clear hw
    subst hw2
    go_wp2
    go_ret
    rw [HB3.out]
    exact ⟨none, 0, rfl, HBN.nil _ _, hx1, ho1⟩

set_option maxRecDepth 100000 in
set_option maxHeartbeats 1000000 in
theorem xbytes_stays (g : Nat) (e most : Int) (w : World) (h : XR w g [] e) (he : e ≠ 0) : Calls Try.prog 50 #[.pointer (some ⟨g, 0, none⟩), .int .i64 most] w fun x w' => x = .returned (.slice none 0 0) ∧ w' = w := by
  have ku := xuint_stays g e most w h he
  have kt := xtake_err g e 0 w h he
  clear h
  go_enter Try.func50, Try.ntmps50
  go_wp2_with (first | (go_at_call 31; refine ku.mono ?_; rintro e w1 ⟨rfl, hw⟩; have hw2 := hw.symm; clear hw; subst hw2) | (go_at_call 48; refine kt.mono ?_; rintro e w1 ⟨rfl, hw⟩; have hw2 := hw.symm; clear hw; subst hw2))
  go_ret
  exact ⟨rfl, rfl⟩

/-- What the document's Flag answers. -/
def XFlagSaid (g : Nat) (w : World) (l : List UInt8) (x : Ending) (w' : World) : Prop := x = .returned (.bool (flagF l).2.1) ∧ XR w' g (flagF l).2.2 (flagF l).1 ∧ Only g w w'

set_option maxRecDepth 100000 in
set_option maxHeartbeats 1000000 in
theorem xflag_stays (g : Nat) (e : Int) (w : World) (h : XR w g [] e) (he : e ≠ 0) : Calls Try.prog 51 #[.pointer (some ⟨g, 0, none⟩)] w fun x w' => x = .returned (.bool false) ∧ w' = w := by
  have kt := xtake_err g e 1 w h he
  clear h
  go_enter Try.func51, Try.ntmps51
  go_wp2_with (first | (go_at_call 48; refine kt.mono ?_; rintro e w1 ⟨rfl, hw⟩; have hw2 := hw.symm; clear hw; subst hw2))
  go_ret
  exact ⟨rfl, rfl⟩

set_option maxRecDepth 100000 in
set_option maxHeartbeats 1000000 in
theorem xflag_any (g : Nat) (l : List UInt8) (w : World) (h : XR w g l 0) (hsz : l.length ≤ 140737488355328) : Calls Try.prog 51 #[.pointer (some ⟨g, 0, none⟩)] w (XFlagSaid g w l) := by
  cases l with
  | nil =>
    have kt := xtake_short g [] 1 w h (by simp)
    clear h
    go_enter Try.func51, Try.ntmps51
    go_wp2_with (first | (go_at_call 48; refine kt.mono ?_; rintro e w1 ⟨rfl, hx1, ho1⟩))
    go_ret
    exact ⟨rfl, hx1, ho1⟩
  | cons x r =>
    have k := take_one g x r w h hsz
    have hx := x.toNat_lt
    clear h
    by_cases h1 : 1 < x.toNat
    · have h12 : (1 : Int) < (x.toNat : Int) := by omega
      have HF : Hid (flagF (x :: r) = (5, false, [])) := by show flagF (x :: r) = _; simp only [flagF]; rw [if_pos h1]
      have hne : ¬ (x.toNat : Int) = 1 := by omega
      have hnb : ((x.toNat : Int) == 1) = false := by simpa using hne
      go_enter Try.func51, Try.ntmps51
      go_wp2_with fail
      refine k.mono ?_
      rintro e w1 ⟨b, o, d, rfl, hbg, hc1, hx1, ho1⟩
      have kf := xfail_first g r 5 w1 hx1
      clear k
      go_wp2_with fail
      refine kf.mono ?_
      rintro e w2 ⟨rfl, hx2, ho2⟩
      have hc2 : w2.cell? ⟨b, o, none⟩ = some (.int .u8 (x.toNat : Int)) := by rw [World.cell?_of_block (w := w1) (ho2.block b hbg (cell_lt hc1))]; exact hc1
      clear kf hc1 hx1
      go_wp2
      go_ret
      refine ⟨?_, ?_, ho1.trans ho2⟩
      · rw [HF.out]; rfl
      · rw [HF.out]; exact hx2
    · have h12 : (x.toNat : Int) ≤ 1 := by omega
      have HF : Hid (flagF (x :: r) = (0, x == 1, r)) := by show flagF (x :: r) = _; simp only [flagF]; rw [if_neg h1]
      have HX : Hid (((x.toNat : Int) == 1) = (x == 1)) := by
        show ((x.toNat : Int) == 1) = (x == 1)
        rcases Nat.eq_zero_or_pos x.toNat with h0 | h0
        · obtain rfl : x = 0 := UInt8.toNat_inj.1 (by simpa using h0)
          rfl
        · obtain rfl : x = 1 := UInt8.toNat_inj.1 (by simp; omega)
          rfl
      go_enter Try.func51, Try.ntmps51
      go_wp2_with fail
      refine k.mono ?_
      rintro e w1 ⟨b, o, d, rfl, hbg, hc1, hx1, ho1⟩
      clear k
      go_wp2
      go_ret
      refine ⟨?_, ?_, ho1⟩
      · rw [HF.out]
        refine congrArg (fun z => Ending.returned (Value.bool z)) ?_
        exact HX.out
      · rw [HF.out]; exact hx1

end Go.Proofs.Ythkgbgkijdeaoaa
