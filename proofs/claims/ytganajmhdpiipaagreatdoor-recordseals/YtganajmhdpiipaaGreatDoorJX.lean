/- What this text proves: the document's reader (annalsref04.Reader) in memory; the walks of its Fail, Take and End over this program. What this text proves: the walk of the document's Uint (annalsref04.Reader) over this program: the next number, or the error. What this text proves: the walk of the document's Uint (annalsref04.Reader) over this program where the bytes of the number are there. What this text proves: the walks of the document's Bytes and Flag (annalsref04.Reader) over this program. What this text proves: the walk of annalsref13.Decode over this program: the record of bytes, or the error. (By program out of RcDecode: mkrdec.py.) What this text holds: the document's Decode reads what the program's reads; both in one row. -/
import Derived.Test.YtganajmhdpiipaaGreatDoorJRd
import Derived.Test.YtganajmhdpiipaaGreatDoorJDc
import Derived.Test.YtganajmhdpiipaaGreatDoorRcRCan
namespace Go.Proofs.YtganajmhdpiipaaGreatDoor
open Go.RowKit

/-- Block g holds the document's reader: what is left, the first error. -/
def XD (w : World) (g : Nat) (v : Value) (e : Int) : Prop := w.heap[g]? = some (.cells #[v, .int .i64 e] 55 (0, 0))

theorem XD.cells {w : World} {g : Nat} {v : Value} {e : Int} (h : XD w g v e) : w.cell? ⟨g, 0, none⟩ = some v ∧ w.cell? ⟨g, 1, none⟩ = some (.int .i64 e) := by
  refine ⟨?_, ?_⟩ <;> rw [cell_of_row w g _ _ _ _ h] <;> rfl

theorem XD.lt {w : World} {g : Nat} {v : Value} {e : Int} (h : XD w g v e) : g < w.heap.size := (Array.getElem?_eq_some_iff.1 h).1

theorem XD.later {w w' : World} {g : Nat} {v : Value} {e : Int} (h : XD w g v e) (hb : Below w.heap.size w w') : XD w' g v e := by
  unfold XD
  rw [hb.block g h.lt]
  exact h

theorem XD.put0 {w : World} {g : Nat} {v : Value} {e : Int} (h : XD w g v e) (v' : Value) : XD (w.setCell ⟨g, 0, none⟩ v') g v' e := by
  unfold XD
  rw [heap_setCell_same w g 0 _ _ _ h]
  rfl

theorem XD.put1 {w : World} {g : Nat} {v : Value} {e : Int} (h : XD w g v e) (e' : Int) : XD (w.setCell ⟨g, 1, none⟩ (.int .i64 e')) g v e' := by
  unfold XD
  rw [heap_setCell_same w g 1 _ _ _ h]
  rfl

theorem XD.free {w : World} {g : Nat} {v : Value} {e : Int} (h : XD w g v e) (i : Nat) : w.frozen? ⟨g, i, none⟩ = false := by
  unfold XD at h
  simp [World.frozen?, h]

theorem XD.only {w w' : World} {g g' : Nat} {v : Value} {e : Int} (h : XD w g v e) (ho : Only g' w w') (hne : g ≠ g') : XD w' g v e := by
  unfold XD
  rw [ho.block g hne h.lt]
  exact h

/-- The document's reader: what is left, and the first error. -/
def XR (w : World) (g : Nat) (l : List UInt8) (e : Int) : Prop := ∃ p c, XD w g (.slice p l.length c) e ∧ HBN w g (.slice p l.length c) l

theorem XR.later {w w' : World} {g : Nat} {l : List UInt8} {e : Int} (h : XR w g l e) (hb : Below w.heap.size w w') : XR w' g l e := by
  obtain ⟨p, c, h1, h2⟩ := h
  exact ⟨p, c, h1.later hb, h2.later hb⟩

set_option maxRecDepth 100000 in
set_option maxHeartbeats 400000 in
theorem xfail_first (g : Nat) (l : List UInt8) (e' : Int) (w : World) (h : XR w g l 0) :
    Calls Tryz.prog 69 #[.pointer (some ⟨g, 0, none⟩), .int .i64 e'] w fun x w' => x = .returned (.tuple #[]) ∧ XR w' g [] e' ∧ Only g w w' := by
  obtain ⟨p, c, h, _⟩ := h
  obtain ⟨c0, c1⟩ := h.cells
  have f0 := h.free 0
  have f1 := h.free 1
  obtain ⟨c0', _⟩ := (h.put1 e').cells
  have f0' := (h.put1 e').free 0
  have hx : XR ((w.setCell ⟨g, 1, none⟩ (.int .i64 e')).setCell ⟨g, 0, none⟩ (.slice none 0 0)) g [] e' := ⟨none, 0, (h.put1 e').put0 _, HBN.nil _ _⟩
  clear h
  go_enter Tryz.func69, Tryz.ntmps69
  go_wp2
  go_end0
  exact ⟨rfl, hx, ((Only.refl g w).setCell 1 _).setCell 0 _⟩

set_option maxRecDepth 100000 in
set_option maxHeartbeats 400000 in
theorem xfail_stays (g : Nat) (l : List UInt8) (e e' : Int) (w : World) (h : XR w g l e) (he : e ≠ 0) :
    Calls Tryz.prog 69 #[.pointer (some ⟨g, 0, none⟩), .int .i64 e'] w fun x w' => x = .returned (.tuple #[]) ∧ w' = w := by
  obtain ⟨p, c, h, _⟩ := h
  obtain ⟨c0, c1⟩ := h.cells
  have hd : (e == 0) = false := by simpa using he
  clear h
  go_enter Tryz.func69, Tryz.ntmps69
  go_wp2
  go_end0
  exact ⟨rfl, rfl⟩

set_option maxRecDepth 100000 in
set_option maxHeartbeats 400000 in
theorem xend_any (g : Nat) (l : List UInt8) (e : Int) (w : World) (h : XR w g l e) :
    Calls Tryz.prog 56 #[.pointer (some ⟨g, 0, none⟩)] w fun x w' => x = .returned (.int .i64 (endF l.length e)) ∧ ∃ n, w' = w.drewN n := by
  obtain ⟨p, c, h, _⟩ := h
  obtain ⟨c0, c1⟩ := h.cells
  clear h
  by_cases hE : e = 0
  · subst hE
    by_cases hn : 0 < l.length
    · have hn2 : (0 : Int) < (l.length : Int) := by omega
      have HF : Hid (endF l.length 0 = 5) := by show endF l.length 0 = 5; unfold endF; rw [if_pos ⟨rfl, hn⟩]
      go_enter Tryz.func56, Tryz.ntmps56
      go_wp2
      go_ret
      exact ⟨by rw [HF.out]; rfl, 0, rfl⟩
    · have h0 : l.length = 0 := by omega
      rw [h0] at c0 ⊢
      have HF : Hid (endF 0 0 = 0) := by show endF 0 0 = 0; rfl
      clear hn h0
      go_enter Tryz.func56, Tryz.ntmps56
      go_wp2
      go_ret
      exact ⟨by rw [HF.out]; rfl, 0, rfl⟩
  · have HF : Hid (endF l.length e = e) := by show endF l.length e = e; unfold endF; rw [if_neg (fun h => hE h.1)]
    have hd : (e == 0) = false := by simpa using hE
    go_enter Tryz.func56, Tryz.ntmps56
    go_wp2
    go_ret
    exact ⟨by rw [HF.out]; rfl, 0, rfl⟩

set_option maxRecDepth 100000 in
set_option maxHeartbeats 1000000 in
theorem xtake_err (g : Nat) (e : Int) (n : Nat) (w : World) (h : XR w g [] e) (he : e ≠ 0) :
    Calls Tryz.prog 54 #[.pointer (some ⟨g, 0, none⟩), .int .i64 (n : Int)] w fun x w' => x = .returned (.slice none 0 0) ∧ w' = w := by
  have k := xfail_stays g [] e 3 w h he
  obtain ⟨p, c, hd, _⟩ := h
  obtain ⟨c0, c1⟩ := hd.cells
  simp only [List.length_nil] at c0
  have hd0 : (e == 0) = false := by simpa using he
  clear hd
  by_cases hn : 0 < n
  · have hn2 : (0 : Int) < (n : Int) := by omega
    go_enter Tryz.func54, Tryz.ntmps54
    go_wp2_with (first | (go_at_call 69; refine k.mono ?_; rintro e w' ⟨rfl, hw⟩; have hw2 := hw.symm; clear hw; subst hw2))
    go_ret
    exact ⟨rfl, rfl⟩
  · obtain rfl : n = 0 := by omega
    go_enter Tryz.func54, Tryz.ntmps54
    go_wp2
    go_ret
    exact ⟨rfl, rfl⟩

set_option maxRecDepth 100000 in
set_option maxHeartbeats 1000000 in
theorem xtake_short (g : Nat) (l : List UInt8) (n : Nat) (w : World) (h : XR w g l 0) (hn : l.length < n) :
    Calls Tryz.prog 54 #[.pointer (some ⟨g, 0, none⟩), .int .i64 (n : Int)] w fun x w' => x = .returned (.slice none 0 0) ∧ XR w' g [] 3 ∧ Only g w w' := by
  have k := xfail_first g l 3 w h
  obtain ⟨p, c, hd, _⟩ := h
  obtain ⟨c0, c1⟩ := hd.cells
  have hn2 : (l.length : Int) < (n : Int) := by omega
  clear hd
  go_enter Tryz.func54, Tryz.ntmps54
  go_wp2_with (first | (go_at_call 69; refine k.mono ?_; rintro e w1 ⟨rfl, hx1, ho1⟩; have hX1 : Hid (XR w1 g [] 3) := hx1; obtain ⟨p1, d1, hd1, hz1⟩ := hx1; obtain ⟨e0, e1⟩ := hd1.cells; clear hd1 hz1))
  go_ret
  exact ⟨rfl, hX1.out, ho1⟩

set_option maxRecDepth 100000 in
set_option maxHeartbeats 1000000 in
theorem xtake_ok (g : Nat) (l : List UInt8) (n : Nat) (w : World) (h : XR w g l 0) (hn : n ≤ l.length) (hsz : l.length ≤ 140737488355328) :
    Calls Tryz.prog 54 #[.pointer (some ⟨g, 0, none⟩), .int .i64 (n : Int)] w fun x w' => ∃ p c, x = .returned (.slice p n c) ∧ HBN w' g (.slice p n c) (l.take n) ∧ XR w' g (l.drop n) 0 ∧ Only g w w' := by
  obtain ⟨p, c, hd, hh, hnb⟩ := h
  obtain ⟨c0, c1⟩ := hd.cells
  have hlen := hh.len.2
  unfold maxLen at hlen
  have hgl := hd.lt
  have hn2 : (n : Int) ≤ (l.length : Int) := by omega
  have k1 := fun w => run_upto (P := Tryz.prog) Tryz.underlying22 s_u8 p l.length c n (n : Int) rfl (by omega) w
  have k3 : ∀ w, (Instr.slice 22 (.slice p l.length c) (some (.int .i64 (n : Int))) none none).run Tryz.prog w = .ok (.slice (cutP p c n) (l.length - n) (c - n)) w := fun w => run_cut (P := Tryz.prog) Tryz.underlying22 s_u8 p l.length c n (n : Int) rfl (by omega) w
  have hb0 : Below w.heap.size w (w.alloc (.cells #[] 5)) := (Below.refl _ w).alloc (Nat.le_refl _) _
  have hf := (hh.front n (by omega)).later hb0
  obtain ⟨c0', c1'⟩ := (hd.later hb0).cells
  have hbh : HBN w g (.slice (cutP p c n) (l.length - n) (c - n)) (l.drop n) := HBN.behind (g := g) ⟨hh, hnb⟩ n (by omega)
  have HTL : Hid ((l.take n).length = n) := by show _ = _; rw [List.length_take]; omega
  have HDL : Hid ((l.drop n).length = l.length - n) := by show _ = _; rw [List.length_drop]
  have HD : Hid (XD w g (.slice p l.length c) 0) := hd
  clear hh hnb hd
  go_enter Tryz.func54, Tryz.ntmps54
  go_wp2_with (first | (at_builtin; refine wpList_append_hb rfl (.tmp 20) (.tmp 26) 22 rfl w.heap.size 5 Tryz.underlying22 i_u8 _ 0 [] rfl (World.ownsRow_made w #[] 0 (Nat.le_refl _) (Nat.zero_le _) rfl) _ _ _ (l.take n) rfl hf ?qa ?qb ?_))
  case qa => omega
  case qb => simp
  intro v1 w1 hown1 hgrow1
  have hb1 : Below w.heap.size w w1 := hb0.grown hgrow1 (by simp) (by intro k hk; cases hk; exact Nat.le_refl _)
  have hown1' : w1.ownsRow w.heap.size 5 1 v1 n (bcs (l.take n)) := by simpa using hown1
  have hlt := hown1'.lt
  obtain ⟨p1, d1, rfl⟩ := owns_shape hown1'
  have ht1 : HBN w1 g (.slice p1 n d1) (l.take n) := ⟨HB.of_owns hown1', fun a n c e => ⟨by have := (hlt a.block (by rw [e]; rfl)).1; omega, TY.of_owns hown1' e⟩⟩
  have hd1 := HD.out.later hb1
  obtain ⟨e0, e1⟩ := hd1.cells
  have f0 := hd1.free 0
  have hbh1 := hbh.later hb1
  clear hgrow1 hown1 hown1' hlt hf c0 c1 c0' c1' hbh hb0
  go_wp2
  go_ret
  have ho1 : Only g w w1 := Only.of_below hb1 (by omega)
  have hos : Only g w1 (w1.setCell ⟨g, 0, none⟩ (.slice (cutP p c n) (l.length - n) (c - n))) := (Only.refl g w1).setCell 0 _
  refine ⟨p1, d1, rfl, ht1.only hos, ⟨cutP p c n, c - n, ?_, ?_⟩, ho1.trans hos⟩
  · rw [HDL.out]; exact hd1.put0 _
  · rw [HDL.out]; exact hbh1.only hos

end Go.Proofs.YtganajmhdpiipaaGreatDoor

namespace Go.Proofs.YtganajmhdpiipaaGreatDoor
open Go.RowKit

/-- What the document's Uint answers. -/
def XSaid (g : Nat) (w : World) (l : List UInt8) (most : Int) (x : Ending) (w' : World) : Prop := x = .returned (.int .i64 ((uintF l most).2.1 : Int)) ∧ XR w' g (uintF l most).2.2 (uintF l most).1 ∧ Only g w w'

theorem XR.xd {w : World} {g : Nat} {l : List UInt8} {e : Int} (h : XR w g l e) : w.cell? ⟨g, 1, none⟩ = some (.int .i64 e) := by
  obtain ⟨p, c, h1, _⟩ := h
  exact h1.cells.2

theorem take_one (g : Nat) (x : UInt8) (r : List UInt8) (w : World) (h : XR w g (x :: r) 0) (hsz : (x :: r).length ≤ 140737488355328) :
    Calls Tryz.prog 54 #[.pointer (some ⟨g, 0, none⟩), .int .i64 1] w fun y w' => ∃ b o c, y = .returned (.slice (some ⟨b, o, none⟩) 1 c) ∧ b ≠ g ∧ w'.cell? ⟨b, o, none⟩ = some (.int .u8 (x.toNat : Int)) ∧ XR w' g r 0 ∧ Only g w w' := by
  refine (xtake_ok g (x :: r) 1 w h (by simp) hsz).mono fun y w' ⟨p, c, hy, ⟨hh, hn⟩, hx, ho⟩ => ?_
  obtain ⟨b, o, rfl, hc⟩ := hh.addr (by omega)
  exact ⟨b, o, c, hy, (hn _ _ _ rfl).1, by have := hc 0 x rfl; simpa [bc] using this, by simpa using hx, ho⟩

set_option maxRecDepth 100000 in
set_option maxHeartbeats 1000000 in
theorem xuint_nil (g : Nat) (most : Int) (w : World) (h : XR w g [] 0) : Calls Tryz.prog 53 #[.pointer (some ⟨g, 0, none⟩), .int .i64 most] w (XSaid g w [] most) := by
  have k := xtake_short g [] 1 w h (by simp)
  clear h
  go_enter Tryz.func53, Tryz.ntmps53
  go_wp2_with (first | (go_at_call 54; refine k.mono ?_; rintro e w1 ⟨rfl, hx1, ho1⟩))
  go_ret
  exact ⟨rfl, hx1, ho1⟩

set_option maxRecDepth 100000 in
set_option maxHeartbeats 1000000 in
theorem xuint_stays (g : Nat) (e most : Int) (w : World) (h : XR w g [] e) (he : e ≠ 0) : Calls Tryz.prog 53 #[.pointer (some ⟨g, 0, none⟩), .int .i64 most] w fun x w' => x = .returned (.int .i64 0) ∧ w' = w := by
  have k := xtake_err g e 1 w h he
  clear h
  go_enter Tryz.func53, Tryz.ntmps53
  go_wp2_with (first | (go_at_call 54; refine k.mono ?_; rintro e w1 ⟨rfl, hw⟩; have hw2 := hw.symm; clear hw; subst hw2))
  go_ret
  exact ⟨rfl, rfl⟩

set_option maxRecDepth 100000 in
set_option maxHeartbeats 2000000 in
theorem xuint_big (g : Nat) (x : UInt8) (r : List UInt8) (most : Int) (w : World) (h : XR w g (x :: r) 0) (hsz : (x :: r).length ≤ 140737488355328) (h8 : 8 < x.toNat) : Calls Tryz.prog 53 #[.pointer (some ⟨g, 0, none⟩), .int .i64 most] w (XSaid g w (x :: r) most) := by
  have k := take_one g x r w h hsz
  have HU : Hid (uintF (x :: r) most = (5, 0, [])) := by show uintF (x :: r) most = _; simp only [uintF]; rw [if_pos h8]
  have hx := x.toNat_lt
  have h82 : (8 : Int) < (x.toNat : Int) := by omega
  have hrem : (x.toNat : Int).tmod 9 = ((x.toNat % 9 : Nat) : Int) := by rw [Int.tmod_eq_emod_of_nonneg (by omega)]; omega
  have hrem2 : (x.toNat : Int) % 9 = ((x.toNat % 9 : Nat) : Int) := by omega
  generalize x.toNat % 9 = z at *
  clear h
  go_enter Tryz.func53, Tryz.ntmps53
  go_wp2_with fail
  refine k.mono ?_
  rintro e w1 ⟨b, o, d, rfl, hbg, hc1, hx1, ho1⟩
  have kf := xfail_first g r 5 w1 hx1
  clear k
  go_wp2_with fail
  refine kf.mono ?_
  rintro e w2 ⟨rfl, hx2, ho2⟩
  have hc2 : w2.cell? ⟨b, o, none⟩ = some (.int .u8 (x.toNat : Int)) := by rw [World.cell?_of_block (w := w1) (ho2.block b hbg (cell_lt hc1))]; exact hc1
  have ho02 := ho1.trans ho2
  have kt := xtake_err g 5 z w2 hx2 (by decide)
  have ks := xfail_stays g [] 5 4 w2 hx2 (by decide)
  have ce := hx2.xd
  clear kf hc1 hx1 ho1 ho2
  go_wp2_with (first | (go_at_call 54; refine kt.mono ?_; rintro e w3 ⟨rfl, hw⟩; have hw2 := hw.symm; clear hw; subst hw2))
  go_loopw [7, 30] (fun n i wr => i = .int .i64 0 ∧ n = .int .u64 0 ∧ w2 = wr) (fun _ _ _ => 0)
  case atStart => exact ⟨rfl, rfl, rfl⟩
  case round =>
    obtain ⟨rfl, rfl, rfl⟩ := hrel
    by_cases hm : most < 0
    · go_wp2_with (first | (go_at_call 69; refine ks.mono ?_; rintro e w3 ⟨rfl, hw⟩; have hw2 := hw.symm; clear hw; subst hw2))
      go_ret
      refine ⟨?_, ?_, ho02⟩
      · rw [HU.out]; rfl
      · rw [HU.out]; exact hx2
    · have hd : decide (most < 0) = false := by simpa using hm
      go_wp2
      go_ret
      refine ⟨?_, ?_, ho02⟩
      · rw [HU.out]; rfl
      · rw [HU.out]; exact hx2

set_option maxRecDepth 100000 in
set_option maxHeartbeats 2000000 in
theorem xuint_short (g : Nat) (x : UInt8) (r : List UInt8) (most : Int) (w : World) (h : XR w g (x :: r) 0) (hsz : (x :: r).length ≤ 140737488355328) (h8 : x.toNat ≤ 8) (hs : r.length < x.toNat) : Calls Tryz.prog 53 #[.pointer (some ⟨g, 0, none⟩), .int .i64 most] w (XSaid g w (x :: r) most) := by
  have k := take_one g x r w h hsz
  have HU : Hid (uintF (x :: r) most = (3, 0, [])) := by show uintF (x :: r) most = _; simp only [uintF]; rw [if_neg (by omega), if_pos hs]
  have hx := x.toNat_lt
  have h82 : (x.toNat : Int) ≤ 8 := by omega
  have hrem : (x.toNat : Int).tmod 9 = (x.toNat : Int) := by rw [Int.tmod_eq_emod_of_nonneg (by omega)]; omega
  have hrem2 : (x.toNat : Int) % 9 = (x.toNat : Int) := by omega
  clear h
  go_enter Tryz.func53, Tryz.ntmps53
  go_wp2_with fail
  refine k.mono ?_
  rintro e w1 ⟨b, o, d, rfl, hbg, hc1, hx1, ho1⟩
  have kt1 := xtake_short g r x.toNat w1 hx1 hs
  clear k
  go_wp2_with fail
  refine kt1.mono ?_
  rintro e w2 ⟨rfl, hx2, ho2⟩
  have ho02 := ho1.trans ho2
  have ks := xfail_stays g [] 3 4 w2 hx2 (by decide)
  have ce := hx2.xd
  clear kt1 hc1 hx1 ho1 ho2
  go_wp2
  go_loopw [7, 30] (fun n i wr => i = .int .i64 0 ∧ n = .int .u64 0 ∧ w2 = wr) (fun _ _ _ => 0)
  case atStart => exact ⟨rfl, rfl, rfl⟩
  case round =>
    obtain ⟨rfl, rfl, rfl⟩ := hrel
    by_cases hm : most < 0
    · go_wp2_with (first | (go_at_call 69; refine ks.mono ?_; rintro e w3 ⟨rfl, hw⟩; have hw2 := hw.symm; clear hw; subst hw2))
      go_ret
      refine ⟨?_, ?_, ho02⟩
      · rw [HU.out]; rfl
      · rw [HU.out]; exact hx2
    · have hd : decide (most < 0) = false := by simpa using hm
      go_wp2
      go_ret
      refine ⟨?_, ?_, ho02⟩
      · rw [HU.out]; rfl
      · rw [HU.out]; exact hx2

set_option maxRecDepth 100000 in
set_option maxHeartbeats 2000000 in
theorem xuint_zero (g : Nat) (r : List UInt8) (most : Int) (w : World) (h : XR w g (0 :: r) 0) (hsz : ((0 : UInt8) :: r).length ≤ 140737488355328) : Calls Tryz.prog 53 #[.pointer (some ⟨g, 0, none⟩), .int .i64 most] w (XSaid g w (0 :: r) most) := by
  have k := take_one g 0 r w h hsz
  simp only [UInt8.toNat_zero] at k
  have hU : uintF (0 :: r) most = if most < 0 then (4, 0, []) else (0, 0, r) := by simp [uintF, valL]
  have hszr : r.length ≤ 140737488355328 := by simp at hsz; omega
  clear h
  go_enter Tryz.func53, Tryz.ntmps53
  go_wp2_with fail
  refine k.mono ?_
  rintro e w1 ⟨b, o, d, rfl, hbg, hc1, hx1, ho1⟩
  have kt1 := xtake_ok g r 0 w1 hx1 (by omega) hszr
  clear k
  go_wp2_with fail
  refine kt1.mono ?_
  rintro e w2 ⟨p2, d2, rfl, _, hx2, ho2⟩
  simp only [List.drop_zero] at hx2
  have ho02 := ho1.trans ho2
  have ks := xfail_first g r 4 w2 hx2
  have ce := hx2.xd
  clear kt1 hc1 hx1 ho1 ho2
  go_wp2
  go_loopw [7, 30] (fun n i wr => i = .int .i64 0 ∧ n = .int .u64 0 ∧ w2 = wr) (fun _ _ _ => 0)
  case atStart => exact ⟨rfl, rfl, rfl⟩
  case round =>
    obtain ⟨rfl, rfl, rfl⟩ := hrel
    by_cases hm : most < 0
    · rw [if_pos hm] at hU
      have HU : Hid (uintF (0 :: r) most = (4, 0, [])) := hU
      clear hU
      go_wp2_with (first | (go_at_call 69; refine ks.mono ?_; rintro e w3 ⟨rfl, hx3, ho3⟩; have ce3 := hx3.xd))
      go_ret
      refine ⟨?_, ?_, ho02.trans ho3⟩
      · rw [HU.out]; rfl
      · rw [HU.out]; exact hx3
    · rw [if_neg hm] at hU
      have HU : Hid (uintF (0 :: r) most = (0, 0, r)) := hU
      have hd : decide (most < 0) = false := by simpa using hm
      clear hU
      go_wp2
      go_ret
      refine ⟨?_, ?_, ho02⟩
      · rw [HU.out]; rfl
      · rw [HU.out]; exact hx2

end Go.Proofs.YtganajmhdpiipaaGreatDoor

namespace Go.Proofs.YtganajmhdpiipaaGreatDoor
open Go.RowKit

theorem HBN.get {w : World} {g b o n c : Nat} {l : List UInt8} (h : HBN w g (.slice (some ⟨b, o, none⟩) n c) l) (k : Nat) (d : UInt8) (hk : l[k]? = some d) : w.cell? ⟨b, o + k, none⟩ = some (.int .u8 (d.toNat : Int)) := by
  have hlt : k < l.length := (List.getElem?_eq_some_iff.1 hk).1
  have hl := h.1.len.1
  obtain ⟨b', o', e, hc⟩ := h.1.addr (by omega)
  simp only [Option.some.injEq, Addr.mk.injEq, and_true] at e
  obtain ⟨rfl, rfl⟩ := e
  exact hc k d hk

set_option maxRecDepth 100000 in
set_option maxHeartbeats 4000000 in
theorem xuint_pos (g : Nat) (x : UInt8) (r : List UInt8) (most : Int) (w : World) (h : XR w g (x :: r) 0) (hsz : (x :: r).length ≤ 140737488355328) (hx1 : 1 ≤ x.toNat) (h8 : x.toNat ≤ 8) (hs : x.toNat ≤ r.length) : Calls Tryz.prog 53 #[.pointer (some ⟨g, 0, none⟩), .int .i64 most] w (XSaid g w (x :: r) most) := by
  have k := take_one g x r w h hsz
  have hx := x.toNat_lt
  have h82 : (x.toNat : Int) ≤ 8 := by omega
  have hrem : (x.toNat : Int).tmod 9 = (x.toNat : Int) := by rw [Int.tmod_eq_emod_of_nonneg (by omega)]; omega
  have hrem2 : (x.toNat : Int) % 9 = (x.toNat : Int) := by omega
  have hszr : r.length ≤ 140737488355328 := by simp at hsz; omega
  obtain ⟨D, hD⟩ : ∃ D, D = r.take x.toNat := ⟨_, rfl⟩
  obtain ⟨R, hR⟩ : ∃ R, R = r.drop x.toNat := ⟨_, rfl⟩
  have hDl : D.length = x.toNat := by rw [hD, List.length_take]; omega
  obtain ⟨d0, D', hDD⟩ : ∃ d0 D', D = d0 :: D' := by
    cases D with
    | nil => simp at hDl; omega
    | cons d0 D' => exact ⟨d0, D', rfl⟩
  have hd0 := d0.toNat_lt
  have hV8 : valL D < 18446744073709551616 := by
    have h1 := valL_lt D
    have h2 : (256 : Nat) ^ D.length ≤ 256 ^ 8 := Nat.pow_le_pow_right (by omega) (by omega)
    have h3 : (256 : Nat) ^ 8 = 18446744073709551616 := by decide
    omega
  have hU : uintF (x :: r) most = if d0 = 0 then (5, 0, []) else if 4611686018427387904 < valL D then (5, 0, []) else if most < (valL D : Int) then (4, 0, []) else (0, valL D, R) := by
    simp only [uintF]
    rw [if_neg (by omega), if_neg (by omega), ← hD, ← hR]
    by_cases hz : d0 = 0
    · rw [if_pos (by rw [hDD, hz]; rfl), if_pos hz]
    · rw [if_neg (by rw [hDD]; simp; exact hz), if_neg hz]
  have hDn : ∀ k, k < x.toNat → ∃ d, Hid (D[k]? = some d) ∧ Hid (valL (D.take (k + 1)) = valL (D.take k) * 256 + d.toNat) ∧ (k = 0 → d = d0) := by
    intro k hk
    have gd : D[k]? = some (D[k]'(by omega)) := List.getElem?_eq_getElem (by omega)
    refine ⟨_, gd, valL_next D k _ gd, fun h0 => ?_⟩
    subst h0
    simp [hDD]
  have hDt : D.take x.toNat = D := List.take_of_length_le (by omega)
  have hvl := fun k (hk : k < x.toNat) => valL_take_lt D k (by omega)
  have kt := fun w1 (hx1 : XR w1 g r 0) => xtake_ok g r x.toNat w1 hx1 hs hszr
  rw [← hD, ← hR] at kt
  have hz7 : d0 = 0 → valL D < 72057594037927936 := by
    intro h0
    rw [hDD, h0, valL_cons]
    have h1 := valL_lt D'
    have hl : D'.length ≤ 7 := by rw [hDD] at hDl; simp at hDl; omega
    have h2 : (256 : Nat) ^ D'.length ≤ 256 ^ 7 := Nat.pow_le_pow_right (by omega) hl
    have h3 : (256 : Nat) ^ 7 = 72057594037927936 := by decide
    simp
    omega
  clear h hsz hD hR hDD
  go_enter Tryz.func53, Tryz.ntmps53
  go_wp2_with fail
  refine k.mono ?_
  rintro e w1 ⟨b, o, d, rfl, hbg, hc1, hx1, ho1⟩
  clear k
  go_wp2_with fail
  refine (kt _ hx1).mono ?_
  rintro e w2 ⟨p2, c2, rfl, hd2, hx2, ho2⟩
  have ho02 := ho1.trans ho2
  obtain ⟨b2, o2, rfl, hcc⟩ := hd2.1.addr (by omega)
  clear kt hc1 hx1 ho1 ho2 hcc
  by_cases hz : d0 = 0
  · rw [if_pos hz] at hU
    have HU : Hid (uintF (x :: r) most = (5, 0, [])) := hU
    have hV7 := hz7 hz
    clear hU hz7
    go_wp2
    go_loopw [7, 30] (fun n i wr => ∃ k : Nat, k ≤ x.toNat ∧ i = .int .i64 k ∧ n = .int .u64 (valL (D.take k) : Int) ∧ HBN wr g (.slice (some ⟨b2, o2, none⟩) x.toNat c2) D ∧ Only g w wr ∧ (k = 0 → XR wr g R 0) ∧ (0 < k → XR wr g [] 5)) (fun _ i _ => x.toNat - (intOf i).toNat)
    case atStart => exact ⟨0, Nat.zero_le _, rfl, rfl, hd2, ho02, fun _ => hx2, fun h => absurd h (by omega)⟩
    case round =>
      clear hd2 hx2 ho02
      obtain ⟨k, hk, rfl, rfl, hd2, ho02, hk0, hk1⟩ := hrel
      by_cases hlt : k < x.toNat
      · obtain ⟨d, gd, HV, hdd⟩ := hDn k hlt
        have cdk := hd2.get k d gd.out
        have hvk := hvl k hlt
        generalize valL (D.take k) = V at *
        have hd := d.toNat_lt
        have hlt2 : (k : Int) < (x.toNat : Int) := by omega
        by_cases h0 : k = 0
        · obtain rfl := hdd h0
          have kf := xfail_first g R 5 wr (hk0 h0)
          subst h0
          subst hz
          simp only [UInt8.toNat_zero, Nat.add_zero] at cdk
          rw [show ((0 : Nat) : Int) = 0 from rfl]
          clear hk0 hk1 hdd
          go_wp2_with (first | (go_at_call 69; refine kf.mono ?_; rintro e w4 ⟨rfl, hx4, ho4⟩; have hd4 := hd2.only ho4; have ho04 := ho02.trans ho4; clear hd2 ho02))
          refine ⟨⟨1, by omega, by go_num, ?_, hd4, ho04, fun h => absurd h (by omega), fun _ => hx4⟩, by simp [intOf]; omega⟩
          have := HV.out
          simp only [UInt8.toNat_zero] at this
          rw [show (0 : Nat) + 1 = 1 from rfl] at this
          congr 1
          omega
        · have h0' : ¬ (k : Int) = 0 := by omega
          have h0b : ((k : Int) == 0) = false := by simpa using h0'
          have hx5 := hk1 (by omega)
          clear hk0 hk1 hdd
          go_wp2
          refine ⟨⟨k + 1, by omega, by go_num, ?_, hd2, ho02, fun h => absurd h (by omega), fun _ => hx5⟩, by simp [intOf]; omega⟩
          have := HV.out
          congr 1
          omega
      · obtain rfl : k = x.toNat := by omega
        rw [hDt]
        have hx5 := hk1 (by omega)
        have ks := xfail_stays g [] 5 4 wr hx5 (by decide)
        have ce := hx5.xd
        clear hk0 hk1 hDn hDt hvl
        generalize valL D = V at *
        have hV2 : (V : Int) ≤ 4611686018427387904 := by omega
        by_cases hm : most < (V : Int)
        · go_wp2_with (first | (go_at_call 69; refine ks.mono ?_; rintro e w3 ⟨rfl, hw⟩; have hw2 := hw.symm; clear hw; subst hw2))
          go_ret
          refine ⟨?_, ?_, ho02⟩
          · rw [HU.out]; rfl
          · rw [HU.out]; exact hx5
        · have hd : decide (most < (V : Int)) = false := by simpa using hm
          go_wp2
          go_ret
          refine ⟨?_, ?_, ho02⟩
          · rw [HU.out]; rfl
          · rw [HU.out]; exact hx5
  · rw [if_neg hz] at hU
    have hzI : ¬ (d0.toNat : Int) = 0 := fun e => hz (UInt8.toNat_inj.1 (by simp; omega))
    clear hz7
    go_wp2
    go_loopw [7, 30] (fun n i wr => ∃ k : Nat, k ≤ x.toNat ∧ i = .int .i64 k ∧ n = .int .u64 (valL (D.take k) : Int) ∧ w2 = wr) (fun _ i _ => x.toNat - (intOf i).toNat)
    case atStart => exact ⟨0, Nat.zero_le _, rfl, rfl, rfl⟩
    case round =>
      obtain ⟨k, hk, rfl, rfl, rfl⟩ := hrel
      by_cases hlt : k < x.toNat
      · obtain ⟨d, gd, HV, hdd⟩ := hDn k hlt
        have cdk := hd2.get k d gd.out
        have hvk := hvl k hlt
        generalize valL (D.take k) = V at *
        have hd := d.toNat_lt
        have hlt2 : (k : Int) < (x.toNat : Int) := by omega
        by_cases h0 : k = 0
        · obtain rfl := hdd h0
          subst h0
          have hzb : ((d.toNat : Int) == 0) = false := by simpa using hzI
          simp only [Nat.add_zero] at cdk
          rw [show ((0 : Nat) : Int) = 0 from rfl]
          clear hdd
          go_wp2
          refine ⟨⟨1, by omega, by go_num, ?_, trivial⟩, by simp [intOf]; omega⟩
          have := HV.out
          rw [show (0 : Nat) + 1 = 1 from rfl] at this
          congr 1
          omega
        · have h0' : ¬ (k : Int) = 0 := by omega
          have h0b : ((k : Int) == 0) = false := by simpa using h0'
          clear hdd
          go_wp2
          refine ⟨⟨k + 1, by omega, by go_num, ?_, trivial⟩, by simp [intOf]; omega⟩
          have := HV.out
          congr 1
          omega
      · obtain rfl : k = x.toNat := by omega
        rw [hDt]
        have ce := hx2.xd
        clear hDn hDt hvl
        generalize valL D = V at *
        by_cases hbig : 4611686018427387904 < V
        · rw [if_pos hbig] at hU
          have HU : Hid (uintF (x :: r) most = (5, 0, [])) := hU
          have hb2 : (4611686018427387904 : Int) < (V : Int) := by omega
          have kf := xfail_first g R 5 w2 hx2
          clear hU
          go_wp2_with fail
          refine kf.mono ?_
          rintro e w4 ⟨rfl, hx4, ho4⟩
          have ho04 := ho02.trans ho4
          have ks := xfail_stays g [] 5 4 w4 hx4 (by decide)
          have ce4 := hx4.xd
          clear kf ce hx2 ho02 ho4 hd2
          go_wp2_with (first | (go_at_call 69; refine ks.mono ?_; rintro e w3 ⟨rfl, hw⟩; have hw2 := hw.symm; clear hw; subst hw2))
          all_goals
            go_ret
            refine ⟨?_, ?_, ho04⟩
            · rw [HU.out]; rfl
            · rw [HU.out]; exact hx4
        · rw [if_neg hbig] at hU
          have hb2 : (V : Int) ≤ 4611686018427387904 := by omega
          by_cases hm : most < (V : Int)
          · rw [if_pos hm] at hU
            have HU : Hid (uintF (x :: r) most = (4, 0, [])) := hU
            have kf := xfail_first g R 4 w2 hx2
            clear hU
            go_wp2_with (first | (go_at_call 69; refine kf.mono ?_; rintro e w4 ⟨rfl, hx4, ho4⟩; have ce4 := hx4.xd))
            go_ret
            refine ⟨?_, ?_, ho02.trans ho4⟩
            · rw [HU.out]; rfl
            · rw [HU.out]; exact hx4
          · rw [if_neg hm] at hU
            have HU : Hid (uintF (x :: r) most = (0, V, R)) := hU
            have hd : decide (most < (V : Int)) = false := by simpa using hm
            clear hU
            go_wp2
            go_ret
            refine ⟨?_, ?_, ho02⟩
            · rw [HU.out]; rfl
            · rw [HU.out]; exact hx2

theorem xuint_any (g : Nat) (l : List UInt8) (most : Int) (w : World) (h : XR w g l 0) (hsz : l.length ≤ 140737488355328) : Calls Tryz.prog 53 #[.pointer (some ⟨g, 0, none⟩), .int .i64 most] w (XSaid g w l most) := by
  cases l with
  | nil => exact xuint_nil g most w h
  | cons x r =>
    by_cases h8 : 8 < x.toNat
    · exact xuint_big g x r most w h hsz h8
    · by_cases hs : r.length < x.toNat
      · exact xuint_short g x r most w h hsz (by omega) hs
      · by_cases h0 : x.toNat = 0
        · obtain rfl : x = 0 := UInt8.toNat_inj.1 (by simpa using h0)
          exact xuint_zero g r most w h hsz
        · exact xuint_pos g x r most w h hsz (by omega) (by omega) (by omega)

end Go.Proofs.YtganajmhdpiipaaGreatDoor

namespace Go.Proofs.YtganajmhdpiipaaGreatDoor
open Go.RowKit

/-- What the document's Bytes answers. -/
def XBytesSaid (g : Nat) (w : World) (l : List UInt8) (most : Int) (x : Ending) (w' : World) : Prop := ∃ p c, x = .returned (.slice p (bytesF l most).2.1.length c) ∧ HBN w' g (.slice p (bytesF l most).2.1.length c) (bytesF l most).2.1 ∧ XR w' g (bytesF l most).2.2 (bytesF l most).1 ∧ Only g w w'

set_option maxRecDepth 100000 in
set_option maxHeartbeats 1000000 in
theorem xbytes_any (g : Nat) (l : List UInt8) (most : Int) (w : World) (h : XR w g l 0) (hsz : l.length ≤ 140737488355328) : Calls Tryz.prog 27 #[.pointer (some ⟨g, 0, none⟩), .int .i64 most] w (XBytesSaid g w l most) := by
  have ku := xuint_any g l most w h hsz
  have hle := uintF_le l most
  have hfe : (uintF l most).1 ≠ 0 → (uintF l most).2 = (0, []) := uintF_fell l most
  have hB : bytesF l most = if (uintF l most).1 ≠ 0 then ((uintF l most).1, [], []) else if (uintF l most).2.2.length < (uintF l most).2.1 then (3, [], []) else (0, (uintF l most).2.2.take (uintF l most).2.1, (uintF l most).2.2.drop (uintF l most).2.1) := rfl
  unfold XSaid at ku
  unfold XBytesSaid
  generalize bytesF l most = B at *
  generalize uintF l most = u at *
  obtain ⟨E, N, R⟩ := u
  simp only at ku hle hfe hB
  clear h
  by_cases hE : E = 0
  · subst hE
    rw [if_neg (by simp)] at hB
    by_cases hN : R.length < N
    · rw [if_pos hN] at hB
      have HB3 : Hid (B = (3, [], [])) := hB
      clear hB hfe
      go_enter Tryz.func27, Tryz.ntmps27
      go_wp2_with fail
      refine ku.mono ?_
      rintro e w1 ⟨rfl, hx1, ho1⟩
      have kt := xtake_short g R N w1 hx1 hN
      clear ku
      go_wp2_with fail
      refine kt.mono ?_
      rintro e w2 ⟨rfl, hx2, ho2⟩
      go_wp2
      go_ret
      rw [HB3.out]
      exact ⟨none, 0, rfl, HBN.nil _ _, hx2, ho1.trans ho2⟩
    · rw [if_neg hN] at hB
      have HB3 : Hid (B = (0, R.take N, R.drop N)) := hB
      have HTL : Hid ((R.take N).length = N) := by show _ = _; rw [List.length_take]; omega
      clear hB hfe
      go_enter Tryz.func27, Tryz.ntmps27
      go_wp2_with fail
      refine ku.mono ?_
      rintro e w1 ⟨rfl, hx1, ho1⟩
      have kt := xtake_ok g R N w1 hx1 (by omega) (by omega)
      clear ku
      go_wp2_with fail
      refine kt.mono ?_
      rintro e w2 ⟨p2, c2, rfl, ht2, hx2, ho2⟩
      go_wp2
      go_ret
      rw [HB3.out]
      refine ⟨p2, c2, ?_, ?_, hx2, ho1.trans ho2⟩
      · simp only [HTL.out]; rfl
      · simp only [HTL.out]; exact ht2
  · rw [if_pos hE] at hB
    have HB3 : Hid (B = (E, [], [])) := hB
    have hf := hfe hE
    simp only [Prod.mk.injEq] at hf
    obtain ⟨rfl, rfl⟩ := hf
    clear hB hfe
    go_enter Tryz.func27, Tryz.ntmps27
    go_wp2_with fail
    refine ku.mono ?_
    rintro e w1 ⟨rfl, hx1, ho1⟩
    have kt := xtake_err g E 0 w1 hx1 hE
    clear ku
    go_wp2_with fail
    refine kt.mono ?_
    rintro e w2 ⟨rfl, hw⟩
    have hw2 := hw.symm
    clear hw
    subst hw2
    go_wp2
    go_ret
    rw [HB3.out]
    exact ⟨none, 0, rfl, HBN.nil _ _, hx1, ho1⟩

set_option maxRecDepth 100000 in
set_option maxHeartbeats 1000000 in
theorem xbytes_stays (g : Nat) (e most : Int) (w : World) (h : XR w g [] e) (he : e ≠ 0) : Calls Tryz.prog 27 #[.pointer (some ⟨g, 0, none⟩), .int .i64 most] w fun x w' => x = .returned (.slice none 0 0) ∧ w' = w := by
  have ku := xuint_stays g e most w h he
  have kt := xtake_err g e 0 w h he
  clear h
  go_enter Tryz.func27, Tryz.ntmps27
  go_wp2_with (first | (go_at_call 53; refine ku.mono ?_; rintro e w1 ⟨rfl, hw⟩; have hw2 := hw.symm; clear hw; subst hw2) | (go_at_call 54; refine kt.mono ?_; rintro e w1 ⟨rfl, hw⟩; have hw2 := hw.symm; clear hw; subst hw2))
  go_ret
  exact ⟨rfl, rfl⟩

/-- What the document's Flag answers. -/
def XFlagSaid (g : Nat) (w : World) (l : List UInt8) (x : Ending) (w' : World) : Prop := x = .returned (.bool (flagF l).2.1) ∧ XR w' g (flagF l).2.2 (flagF l).1 ∧ Only g w w'

end Go.Proofs.YtganajmhdpiipaaGreatDoor

namespace Go.Proofs.YtganajmhdpiipaaGreatDoor
open Go.RowKit

theorem XR.tk {T : TypeId} {g : Nat} {w w' : World} {l : List UInt8} {e : Int} (h : XR w g l e) (t : TK T w w') (hT : 5 ≠ T) (hR : 55 ≠ T) : XR w' g l e := by
  obtain ⟨p, c, h1, h2⟩ := h
  exact ⟨p, c, t g _ _ _ h1 hR, h2.tk t hT⟩
theorem XR.typed {g : Nat} {w : World} {l : List UInt8} {e : Int} (h : XR w g l e) : ∃ cs f, w.heap[g]? = some (.cells cs 55 f) := by
  obtain ⟨p, c, h1, h2⟩ := h
  exact ⟨_, _, h1⟩

theorem xuint_all (g : Nat) (l : List UInt8) (e most : Int) (w : World) (h : XR w g l e) (he : e ≠ 0 → l = []) (hsz : l.length ≤ 140737488355328) : Calls Tryz.prog 53 #[.pointer (some ⟨g, 0, none⟩), .int .i64 most] w fun x w' => x = .returned (.int .i64 ((rdU l e most).2.1 : Int)) ∧ XR w' g (rdU l e most).2.2 (rdU l e most).1 ∧ Only g w w' := by
  unfold rdU
  by_cases h0 : e = 0
  · subst h0
    rw [if_pos rfl]
    exact xuint_any g l most w h hsz
  · rw [if_neg h0]
    obtain rfl := he h0
    refine (xuint_stays g e most w h h0).mono ?_
    rintro x w' ⟨rfl, rfl⟩
    exact ⟨rfl, h, Only.refl _ _⟩

theorem xbytes_all (g : Nat) (l : List UInt8) (e most : Int) (w : World) (h : XR w g l e) (he : e ≠ 0 → l = []) (hsz : l.length ≤ 140737488355328) : Calls Tryz.prog 27 #[.pointer (some ⟨g, 0, none⟩), .int .i64 most] w fun x w' => ∃ v, x = .returned v ∧ ∃ p c, v = .slice p (rdB l e most).2.1.length c ∧ HBN w' g (.slice p (rdB l e most).2.1.length c) (rdB l e most).2.1 ∧ XR w' g (rdB l e most).2.2 (rdB l e most).1 ∧ Only g w w' := by
  unfold rdB
  by_cases h0 : e = 0
  · subst h0
    rw [if_pos rfl]
    exact (xbytes_any g l most w h hsz).mono fun x w' ⟨p, c, h1, h2, h3, h4⟩ => ⟨_, h1, p, c, rfl, h2, h3, h4⟩
  · rw [if_neg h0]
    obtain rfl := he h0
    refine (xbytes_stays g e most w h h0).mono ?_
    rintro x w' ⟨rfl, rfl⟩
    exact ⟨_, rfl, none, 0, rfl, HBN.nil _ _, h, Only.refl _ _⟩

theorem cf_xbytes (args : Array Value) (w : World) : (callFunc 27 args).run Tryz.prog w = .ok (.enter 27 args) w := by
  unfold callFunc
  go_simp
  rw [if_neg (by decide +kernel), if_neg (by decide +kernel)]

/-- Under way: the answer's block, the record's, the reader. -/
def DX (w0 : World) (r0 g gs : Nat) (cs : Array Value) (l : List UInt8) (e : Int) (w : World) : Prop :=
  (w.heap[r0]? = some (.cells #[.int .i64 0, .int .i64 0, .slice none 0 0, .int .i64 0, .slice none 0 0, .slice none 0 0] 25 (0, 0)) ∧ w.heap[gs]? = some (.cells cs 25 (0, 0)) ∧ XR w g l e ∧ Below w0.heap.size w0 w) ∧ r0 ≠ gs ∧ w0.heap.size ≤ r0 ∧ w0.heap.size ≤ g ∧ w0.heap.size ≤ gs

theorem DX.ne {w0 w : World} {r0 g gs : Nat} {cs : Array Value} {l : List UInt8} {e : Int} (h : DX w0 r0 g gs cs l e w) : g ≠ gs ∧ g ≠ r0 ∧ g < w.heap.size ∧ gs < w.heap.size ∧ r0 < w.heap.size := by
  obtain ⟨⟨h1, h2, h3, h4⟩, _⟩ := h
  obtain ⟨c, f, hg⟩ := h3.typed
  refine ⟨?_, ?_, (Array.getElem?_eq_some_iff.1 hg).1, (Array.getElem?_eq_some_iff.1 h2).1, (Array.getElem?_eq_some_iff.1 h1).1⟩
  · rintro rfl
    rw [hg] at h2
    simp at h2
  · rintro rfl
    rw [hg] at h1
    simp at h1

theorem DX.only {w0 w w' : World} {r0 g gs : Nat} {cs : Array Value} {l l' : List UInt8} {e e' : Int} (h : DX w0 r0 g gs cs l e w) (ho : Only g w w') (hr : XR w' g l' e') : DX w0 r0 g gs cs l' e' w' := by
  obtain ⟨n1, n2, n3, n4, n5⟩ := h.ne
  obtain ⟨⟨h1, h2, h3, h4⟩, h5, h6, h7, h8⟩ := h
  exact ⟨⟨(ho.block r0 (fun e => n2 e.symm) n5).trans h1, (ho.block gs (fun e => n1 e.symm) n4).trans h2, hr, h4.trans (ho.below h7)⟩, h5, h6, h7, h8⟩

theorem DX.later {w0 w w' : World} {r0 g gs : Nat} {cs : Array Value} {l : List UInt8} {e : Int} (h : DX w0 r0 g gs cs l e w) (hb : Below w.heap.size w w') : DX w0 r0 g gs cs l e w' := by
  obtain ⟨n1, n2, n3, n4, n5⟩ := h.ne
  obtain ⟨⟨h1, h2, h3, h4⟩, h5⟩ := h
  exact ⟨⟨(hb.block r0 n5).trans h1, (hb.block gs n4).trans h2, h3.later hb, h4.trans (hb.mono h4.size)⟩, h5⟩

theorem DX.put {w0 w : World} {r0 g gs : Nat} {cs : Array Value} {l : List UInt8} {e : Int} (h : DX w0 r0 g gs cs l e w) (i : Nat) (v : Value) : DX w0 r0 g gs (cs.setIfInBounds i v) l e (w.setCell ⟨gs, i, none⟩ v) ∧ TK 25 w (w.setCell ⟨gs, i, none⟩ v) := by
  obtain ⟨n1, n2, n3, n4, n5⟩ := h.ne
  obtain ⟨⟨h1, h2, h3, h4⟩, h5, h6, h7, h8⟩ := h
  have ho : Only gs w (w.setCell ⟨gs, i, none⟩ v) := (Only.refl gs w).setCell i v
  have t : TK 25 w (w.setCell ⟨gs, i, none⟩ v) := TK.of_only ho h2
  refine ⟨⟨⟨(ho.block r0 h5 n5).trans h1, ?_, h3.tk t (by decide) (by decide), h4.trans (ho.below h8)⟩, h5, h6, h7, h8⟩, t⟩
  rw [heap_setCell_same w gs i _ _ _ h2]

theorem DX.grown {w0 w w' : World} {r0 g gs base n : Nat} {cs : Array Value} {l : List UInt8} {e : Int} {y : Value} {vs : List Value} (h : DX w0 r0 g gs cs l e w) (hr : w.ownsRow base 22 1 y n vs) (hb : w0.heap.size ≤ base) (hg : w.grownBy w' y.ownBlock) : DX w0 r0 g gs cs l e w' := by
  have t := TK.of_grown hr hg
  obtain ⟨⟨h1, h2, h3, h4⟩, h5⟩ := h
  exact ⟨⟨t r0 _ _ _ h1 (by decide), t gs _ _ _ h2 (by decide), h3.tk t (by decide) (by decide), h4.grown hg h4.size (fun k hk => by have := (hr.lt k hk).1; omega)⟩, h5⟩

theorem DX.cells {w0 w : World} {r0 g gs : Nat} {a b c d e f : Value} {l : List UInt8} {er : Int} (h : DX w0 r0 g gs #[a, b, c, d, e, f] l er w) : (w.cell? ⟨gs, 0, none⟩ = some a ∧ w.cell? ⟨gs, 1, none⟩ = some b ∧ w.cell? ⟨gs, 2, none⟩ = some c ∧ w.cell? ⟨gs, 3, none⟩ = some d ∧ w.cell? ⟨gs, 4, none⟩ = some e ∧ w.cell? ⟨gs, 5, none⟩ = some f) ∧ ∀ i, w.frozen? ⟨gs, i, none⟩ = false := by
  obtain ⟨⟨h1, h2, h3, h4⟩, _⟩ := h
  refine ⟨⟨?_, ?_, ?_, ?_, ?_, ?_⟩, fun i => by simp [World.frozen?, h2]⟩ <;> (rw [cell_of_row _ _ _ _ _ _ h2]; rfl)

theorem DX.zero {w0 w : World} {r0 g gs : Nat} {cs : Array Value} {l : List UInt8} {er : Int} (h : DX w0 r0 g gs cs l er w) : (w.cell? ⟨r0, 0, none⟩ = some (.int .i64 0) ∧ w.cell? ⟨r0, 1, none⟩ = some (.int .i64 0) ∧ w.cell? ⟨r0, 2, none⟩ = some (.slice none 0 0) ∧ w.cell? ⟨r0, 3, none⟩ = some (.int .i64 0) ∧ w.cell? ⟨r0, 4, none⟩ = some (.slice none 0 0) ∧ w.cell? ⟨r0, 5, none⟩ = some (.slice none 0 0)) ∧ ∀ i, w.frozen? ⟨r0, i, none⟩ = false := by
  obtain ⟨⟨h1, h2, h3, h4⟩, _⟩ := h
  refine ⟨⟨?_, ?_, ?_, ?_, ?_, ?_⟩, fun i => by simp [World.frozen?, h1]⟩ <;> (rw [cell_of_row _ _ _ _ _ _ h1]; rfl)

set_option maxRecDepth 100000 in
set_option maxHeartbeats 8000000 in
theorem rdecode_core (size : Int) (v : Value) (b : List UInt8) (w : World) (hv : HB w v b) (hsz : b.length ≤ 140737488355000)
    (e1 e2 e3 e4 e5 : Int) (n1 n2 n4 N : Nat) (r1 r2 r3 t3 r4 r5 t5 : List UInt8) (S : Nat → List (List UInt8)) (Sl : Nat → List UInt8) (Se : Nat → Int) (So : Nat → List UInt8)
    (hU1 : ∀ g w, XR w g b 0 → Calls Tryz.prog 53 #[.pointer (some ⟨g, 0, none⟩), .int .i64 255] w fun x w' => x = .returned (.int .i64 (n1 : Int)) ∧ XR w' g r1 e1 ∧ Only g w w')
    (hU2 : ∀ g w, XR w g r1 e1 → Calls Tryz.prog 53 #[.pointer (some ⟨g, 0, none⟩), .int .i64 1125899906842624] w fun x w' => x = .returned (.int .i64 (n2 : Int)) ∧ XR w' g r2 e2 ∧ Only g w w')
    (hB3 : ∀ g w, XR w g r2 e2 → Calls Tryz.prog 27 #[.pointer (some ⟨g, 0, none⟩), .int .i64 32] w fun x w' => ∃ v, x = .returned v ∧ ∃ p c, v = .slice p t3.length c ∧ HBN w' g (.slice p t3.length c) t3 ∧ XR w' g r3 e3 ∧ Only g w w')
    (hU4 : ∀ g w, XR w g r3 e3 → Calls Tryz.prog 53 #[.pointer (some ⟨g, 0, none⟩), .int .i64 32] w fun x w' => x = .returned (.int .i64 (n4 : Int)) ∧ XR w' g r4 e4 ∧ Only g w w')
    (hB5 : ∀ g w, XR w g r4 e4 → Calls Tryz.prog 27 #[.pointer (some ⟨g, 0, none⟩), .int .i64 32] w fun x w' => ∃ v, x = .returned v ∧ ∃ p c, v = .slice p t5.length c ∧ HBN w' g (.slice p t5.length c) t5 ∧ XR w' g r5 e5 ∧ Only g w w')
    (hBk : Hid (∀ k g w, XR w g (Sl k) (Se k) → Calls Tryz.prog 27 #[.pointer (some ⟨g, 0, none⟩), .int .i64 32] w fun x w' => ∃ v, x = .returned v ∧ ∃ p c, v = .slice p (So k).length c ∧ HBN w' g (.slice p (So k).length c) (So k) ∧ XR w' g (Sl (k + 1)) (Se (k + 1)) ∧ Only g w w'))
    (hS0 : Hid (S 0 = [] ∧ Sl 0 = r5 ∧ Se 0 = e5)) (hSk : Hid (∀ k, S (k + 1) = S k ++ [So k])) (hSl : Hid (∀ k, (S k).length = k)) (hN : Hid (N = (linksL n1).length)) (hn1 : n1 ≤ 255) (hN63 : N ≤ 63) :
    Calls Tryz.prog 28 #[.int .i64 size, v] w (DecTold (decide (endF (Sl N).length (Se N) = 0) && canB size ⟨(n1 : Int), (n2 : Int), (n4 : Int), t3, t5, S N⟩) ⟨(n1 : Int), (n2 : Int), (n4 : Int), t3, t5, S N⟩ w) := by
  have bA := (Below.refl w.heap.size w).alloc (Nat.le_refl _) (.cells #[.int .i64 0, .int .i64 0, .slice none 0 0, .int .i64 0, .slice none 0 0, .slice none 0 0] 25)
  have gA := heap_alloc_new w (.cells #[.int .i64 0, .int .i64 0, .slice none 0 0, .int .i64 0, .slice none 0 0, .slice none 0 0] 25)
  obtain ⟨p, c, rfl⟩ := hv.shape
  obtain ⟨V, hV⟩ : ∃ V, V = w.alloc (.cells #[.int .i64 0, .int .i64 0, .slice none 0 0, .int .i64 0, .slice none 0 0, .slice none 0 0] 25) := ⟨_, rfl⟩
  rw [← hV] at bA gA
  have sV : w.heap.size < V.heap.size := (Array.getElem?_eq_some_iff.1 gA).1
  have bV := (Below.refl V.heap.size V).alloc (Nat.le_refl _) (.cells #[] 5)
  have hf := (hv.later bA).later bV
  have sV1 : V.heap.size = w.heap.size + 1 := by rw [hV]; simp
  have hmade : (V.alloc (.cells #[] 5)).ownsRow (w.heap.size + 1) 5 1 (.slice (some ⟨w.heap.size + 1, 0, none⟩) 0 0) 0 (bcs []) := by
    have := World.ownsRow_made (e := 5) (size := 1) (base := V.heap.size) V #[] 0 (Nat.le_refl _) (Nat.zero_le _) rfl
    rw [sV1] at this
    exact this
  rw [hV] at hf hmade
  clear hv
  go_enter Tryz.func28, Tryz.ntmps28
  go_wp2_with (first | (at_builtin; refine wpList_append_hb rfl (.tmp 8) (.tmp 9) 22 rfl (w.heap.size + 1) 5 Tryz.underlying22 i_u8 _ 0 (bcs []) rfl hmade _ _ _ b rfl hf ?qa ?qb ?_))
  case qa => omega
  case qb => simp
  intro v1 w1 hown1 hgrow1
  rw [← hV] at hgrow1
  rw [← sV1] at hown1
  have hb1 : Below V.heap.size V w1 := bV.grown hgrow1 (by simp) (by intro k hk; cases hk; show _ ≤ w.heap.size + 1; omega)
  have hown1' : w1.ownsRow V.heap.size 5 1 v1 b.length (bcs b) := by simpa [bcs] using hown1
  have hlt := hown1'.lt
  obtain ⟨p1, d1, rfl⟩ := owns_shape hown1'
  have hh := HB.of_owns hown1'
  have hty := fun a n c (e : Value.slice p1 b.length d1 = .slice (some a) n c) => TY.of_owns hown1' e
  have bW := (Below.refl w1.heap.size w1).alloc (Nat.le_refl _) (.cells #[.slice p1 b.length d1, .int .i64 0] 55)
  have x2 : XR (w1.alloc (.cells #[.slice p1 b.length d1, .int .i64 0] 55)) w1.heap.size b 0 := ⟨p1, d1, heap_alloc_new w1 _, hh.later bW, fun a n c e => ⟨by have := (hlt a.block (by rw [e]; rfl)).2; omega, (hty a n c e).later bW⟩⟩
  have b2 := bA.trans ((hb1.trans (bW.mono hb1.size)).mono bA.size)
  have g2 := ((hb1.trans (bW.mono hb1.size)).block _ sV).trans gA
  have hgw : w.heap.size < w1.heap.size := by have := hb1.size; omega
  clear hgrow1 hown1 hown1' hlt hf hh hty bA gA bV hmade sV1
  have hU := hU1 _ _ x2
  clear hU1
  go_wp2_with fail
  refine hU.mono ?_
  rintro x w2 ⟨rfl, r2', o2⟩
  generalize hgg : w1.heap.size = g at *
  have g3 := (o2.block w.heap.size (by omega) (Array.getElem?_eq_some_iff.1 g2).1).trans g2
  have b3 := b2.trans (o2.below (Nat.le_of_lt hgw))
  have bC := (Below.refl w2.heap.size w2).alloc (Nat.le_refl _) (.cells #[.int .i64 (n1 : Int), .int .i64 0, .slice none 0 0, .int .i64 0, .slice none 0 0, .slice none 0 0] 25)
  have hr0 : w.heap.size < w2.heap.size := (Array.getElem?_eq_some_iff.1 g3).1
  have d4 : DX w w.heap.size g w2.heap.size #[.int .i64 (n1 : Int), .int .i64 0, .slice none 0 0, .int .i64 0, .slice none 0 0, .slice none 0 0] r1 e1 (w2.alloc (.cells #[.int .i64 (n1 : Int), .int .i64 0, .slice none 0 0, .int .i64 0, .slice none 0 0, .slice none 0 0] 25)) :=
    ⟨⟨(bC.block _ hr0).trans g3, heap_alloc_new w2 _, r2'.later bC, b3.trans (bC.mono b3.size)⟩, by omega, Nat.le_refl _, Nat.le_of_lt hgw, by omega⟩
  clear hU r2' o2 g2 g3 b2 b3 bC bW x2 hb1 hgg hV
  have hU := hU2 g _ d4.1.2.2.1
  clear hU2
  go_wp2_with fail
  refine hU.mono ?_
  rintro x w5 ⟨rfl, r5', o5⟩
  have d5 := d4.only o5 r5'
  generalize w2.heap.size = gs at *
  clear hU d4 r5' o5
  obtain ⟨⟨c0, c1, c2, c3, c4, c5⟩, fz⟩ := DX.cells (a := .int .i64 (n1 : Int)) (b := .int .i64 0) (c := .slice none 0 0) (d := .int .i64 0) (e := .slice none 0 0) (f := .slice none 0 0) d5
  have z1 := fz 1
  obtain ⟨d6, t6⟩ := d5.put 1 (.int .i64 (n2 : Int))
  have hU := hB3 g _ d6.1.2.2.1
  clear hB3 fz t6
  go_wp2_with fail
  refine hU.mono ?_
  rintro x w7 ⟨v7, rfl, p7, q7, rfl, h7, r7', o7⟩
  have d7 := d6.only o7 r7'
  clear hU d6 d5 r7' o7 c0 c1 c2 c3 c4 c5 z1
  obtain ⟨⟨c0, c1, c2, c3, c4, c5⟩, fz⟩ := DX.cells (a := .int .i64 (n1 : Int)) (b := .int .i64 (n2 : Int)) (c := .slice none 0 0) (d := .int .i64 0) (e := .slice none 0 0) (f := .slice none 0 0) d7
  have z2 := fz 2
  obtain ⟨d8, t8⟩ := d7.put 2 (.slice p7 t3.length q7)
  have h8 := h7.tk t8 (by decide)
  have hU := hU4 g _ d8.1.2.2.1
  clear hU4 fz t8 h7
  go_wp2_with fail
  refine hU.mono ?_
  rintro x w9 ⟨rfl, r9', o9⟩
  have d9 := d8.only o9 r9'
  have h9 := h8.only o9
  clear hU d8 d7 r9' o9 c0 c1 c2 c3 c4 c5 z2 h8
  obtain ⟨⟨c0, c1, c2, c3, c4, c5⟩, fz⟩ := DX.cells (a := .int .i64 (n1 : Int)) (b := .int .i64 (n2 : Int)) (c := .slice p7 t3.length q7) (d := .int .i64 0) (e := .slice none 0 0) (f := .slice none 0 0) d9
  have z3 := fz 3
  obtain ⟨d10, t10⟩ := d9.put 3 (.int .i64 (n4 : Int))
  have h10 := h9.tk t10 (by decide)
  have hU := hB5 g _ d10.1.2.2.1
  clear hB5 fz t10 h9
  go_wp2_with fail
  refine hU.mono ?_
  rintro x w11 ⟨v11, rfl, p11, q11, rfl, k11, r11', o11⟩
  have d11 := d10.only o11 r11'
  have h11 := h10.only o11
  clear hU d10 d9 r11' o11 c0 c1 c2 c3 c4 c5 z3 h10
  obtain ⟨⟨c0, c1, c2, c3, c4, c5⟩, fz⟩ := DX.cells (a := .int .i64 (n1 : Int)) (b := .int .i64 (n2 : Int)) (c := .slice p7 t3.length q7) (d := .int .i64 (n4 : Int)) (e := .slice none 0 0) (f := .slice none 0 0) d11
  have z4 := fz 4
  obtain ⟨d12, t12⟩ := d11.put 4 (.slice p11 t5.length q11)
  have h12 := h11.tk t12 (by decide)
  have k12 := k11.tk t12 (by decide)
  obtain ⟨⟨y0, y1, y2, y3, y4, y5⟩, fz2⟩ := DX.cells (a := .int .i64 (n1 : Int)) (b := .int .i64 (n2 : Int)) (c := .slice p7 t3.length q7) (d := .int .i64 (n4 : Int)) (e := .slice p11 t5.length q11) (f := .slice none 0 0) d12
  have hLC := fun W => rcount13_any (n1 : Int) W (by omega) (by omega)
  rw [Int.toNat_natCast, ← hN.out] at hLC
  clear fz fz2 t12 h11 k11
  go_wp2_with fail
  refine (hLC _).mono ?_
  rintro x w12 ⟨rfl, hw12⟩
  rw [← hw12] at d12 h12 k12
  clear hLC hw12 d11 c0 c1 c2 c3 c4 c5 z4 y0 y1 y2 y3 y4 y5
  replace d12 : DX w w.heap.size g gs #[.int .i64 (n1 : Int), .int .i64 (n2 : Int), .slice p7 t3.length q7, .int .i64 (n4 : Int), .slice p11 t5.length q11, .slice none 0 0] r5 e5 w12 := d12
  obtain ⟨i0, hi9, hz0, hz1, hz2⟩ := info_parts i_bytes
  have hw0s : w.heap.size ≤ w12.heap.size := d12.1.2.2.2.size
  go_wp2
  go_loopw [31] (fun v wr => ∃ (m : Nat) (y : Value), m ≤ N ∧ v = .int .i64 (m : Int) ∧ DX w w.heap.size g gs #[.int .i64 (n1 : Int), .int .i64 (n2 : Int), .slice p7 t3.length q7, .int .i64 (n4 : Int), .slice p11 t5.length q11, y] (Sl m) (Se m) wr ∧ RW wr w.heap.size g y (S m) ∧ HBN wr g (.slice p7 t3.length q7) t3 ∧ HBN wr g (.slice p11 t5.length q11) t5) (fun v _ => N - (intOf v).toNat)
  case atStart =>
    obtain ⟨s1, s2, s3⟩ := hS0.out
    exact ⟨0, _, Nat.zero_le _, rfl, by rw [s2, s3]; exact d12, by rw [s1]; exact RW.nil _ _ _, h12, k12⟩
  case round =>
    clear d12 h12 k12
    obtain ⟨m, y, hm, rfl, dr, hrw, hr3, hr5⟩ := hrel
    have hwr : w.heap.size ≤ wr.heap.size := dr.1.2.2.2.size
    by_cases hlt : m < N
    · have hlt2 : (m : Int) < (N : Int) := by omega
      have bD : Below wr.heap.size wr wr.drew := (Below.refl _ wr).drew
      have dd := dr.later bD
      have rwd := hrw.tk (TK.of_below (T := 55) bD) (by decide) (by decide)
      have h3d := hr3.later bD
      have h5d := hr5.later bD
      have hsm := hSl.out m
      have HSk : Hid (S (m + 1) = S m ++ [So m]) := hSk.out m
      have hTk2 := hBk.out m g _ dd.1.2.2.1
      obtain ⟨⟨_, _, _, _, _, c5⟩, _⟩ := dr.cells
      obtain ⟨⟨_, _, _, _, _, c5d⟩, _⟩ := dd.cells
      obtain ⟨pl, cpl, rfl⟩ := owns_shape hrw.choose_spec.2.1
      rw [hsm] at c5 c5d dd rwd
      clear hrw hr3 hr5 dr bD
      go_wp2
      go_region_law (first
        | (refine step_calls2 (by rfl) 27 _ _ _ _ (by rfl) _ _ (by rfl) (by rfl) (cf_xbytes _ _) _ hTk2 ?_; rintro e w5 ⟨p5, c5', rfl, hx5, xr5, O5⟩; have dd5 := dd.only O5 xr5; obtain ⟨rdc, rdf, hty⟩ := dd.1.2.2.1.typed; have tk5 := TK.of_only O5 hty; obtain ⟨vs, r0, r1, r2⟩ := rwd.tk tk5 (by decide) (by decide); have h35 := h3d.only O5; have h55 := h5d.only O5; obtain ⟨⟨_, _, _, _, _, e1⟩, _⟩ := dd5.cells; have bB := (Below.refl _ w5).alloc (Nat.le_refl _) (.cells #[.slice p5 (So m).length c5'] 22); have e2 := cell_later bB e1; have s5 : w.heap.size ≤ w5.heap.size := dd5.1.2.2.2.size; rw [hsm] at r0 r1)
        | (refine step_append_lies _ (by rfl) _ _ _ (by rfl) w.heap.size 22 i0 _ 1 24 Tryz.underlying23 hi9 hz0 hz1 hz2 rfl (by omega) _ m vs (by rfl) (owns_later r1 bB) ⟨w5.heap.size, 0, none⟩ 1 1 [.slice p5 (So m).length c5'] (by rfl) (by rfl) (World.news_of_block (cs := #[.slice p5 (So m).length c5']) (t := 22) (fr := (0, 0)) (heap_alloc_new w5 _)) (by simp [Value.oneCell']) (by omega) (by unfold maxLen; omega) (by omega) (by simp; omega) (w5.heap.size + 1) (by simp) ?_; intro g7 cap7 w7 hown7 hgrow7 hat hlt7; have r1A := owns_later r1 bB; have t7 := TK.of_grown r1A hgrow7; have dd7 := (dd5.later bB).grown r1A (Nat.le_refl _) hgrow7; have rw7 := RW.snoc (w := w5) (ls := S m) (l := So m) (by rw [hsm]; exact r0) (by rw [hsm]; exact r1A) r2 hx5 bB hgrow7 (by rw [hsm]; exact hown7); have h37 := (h35.later bB).tk t7 (by decide); have h57 := (h55.later bB).tk t7 (by decide); obtain ⟨⟨_, _, _, _, _, x7⟩, fz7⟩ := dd7.cells; have z7 := fz7 5))
      all_goals
        obtain ⟨dd8, tt8⟩ := dd7.put 5 (.slice (some ⟨g7, 0, none⟩) (m + 1) cap7)
        have rw8 := rw7.tk tt8 (by decide) (by decide)
        have h38 := h37.tk tt8 (by decide)
        have h58 := h57.tk tt8 (by decide)
        rw [← HSk.out] at rw8
        clear r0 r1 r2 hgrow7 hown7 hat hlt7 e1 e2 bB xr5 O5 hx5 dd rwd h3d h5d c5 c5d hTk2 x7 z7 fz7 dd7 rw7 h37 h57 t7 r1A dd5 h35 h55 tk5 hty
        go_wp2
        go_roundw
        case rel => exact ⟨m + 1, _, by omega, by go_num, dd8, rw8, h38, h58⟩
        case measure => simp [intOf]; omega
    · obtain rfl : m = N := by omega
      obtain ⟨py, cy, hy⟩ := owns_shape hrw.choose_spec.2.1
      subst hy
      have hE := xend_any g (Sl m) (Se m) wr dr.1.2.2.1
      have hCn := fun W (h3 : HB W (.slice p7 t3.length q7) t3) (h5 : HB W (.slice p11 t5.length q11) t5) (hk : PA W (.slice py (S m).length cy) (S m)) => rcan_any size (n1 : Int) (n2 : Int) (n4 : Int) _ _ _ t3 t5 (S m) W h3 h5 hk
      have hnm : ¬ (m : Int) < (m : Int) := by omega
      generalize hEN : endF (Sl m).length (Se m) = EN at *
      clear hEN hBk hS0 hSk hSl hN
      by_cases he : EN = 0
      · subst he
        have HD : Hid (decide ((0 : Int) = 0) = true) := rfl
        generalize hCC : canB size ⟨(n1 : Int), (n2 : Int), (n4 : Int), t3, t5, S m⟩ = CC at hCn
        have HCC : Hid (canB size ⟨(n1 : Int), (n2 : Int), (n4 : Int), t3, t5, S m⟩ = CC) := hCC
        clear hCC
        cases CC with
        | false =>
          go_wp2_with fail
          refine hE.mono ?_
          rintro x w20 ⟨rfl, nd, hw20⟩
          have bN : Below wr.heap.size wr w20 := by rw [hw20]; exact below_drewN (Below.refl _ wr) nd
          replace dr := dr.later bN
          replace hr3 := hr3.later bN
          replace hr5 := hr5.later bN
          replace hrw := hrw.tk (TK.of_below (T := 55) bN) (by decide) (by decide)
          clear hw20 bN
          obtain ⟨⟨c0, c1, c2, c3, c4, c5⟩, _⟩ := dr.cells
          clear hE
          go_wp2_with fail
          refine (hCn _ hr3.1 hr5.1 hrw.pa).mono ?_
          rintro x w21 ⟨rfl, hb21⟩
          have d21 := dr.later hb21
          clear hCn c0 c1 c2 c3 c4 c5
          have hon : Only w.heap.size w21 (((((((w21).setCell ⟨w.heap.size, 0, none⟩ (.int .i64 0)).setCell ⟨w.heap.size, 1, none⟩ (.int .i64 0)).setCell ⟨w.heap.size, 2, none⟩ (.slice none 0 0)).setCell ⟨w.heap.size, 3, none⟩ (.int .i64 0)).setCell ⟨w.heap.size, 4, none⟩ (.slice none 0 0)).setCell ⟨w.heap.size, 5, none⟩ (.slice none 0 0)) := ((((((Only.refl _ w21).setCell 0 _).setCell 1 _).setCell 2 _).setCell 3 _).setCell 4 _).setCell 5 _
          have bf : Below w.heap.size w (((((((w21).setCell ⟨w.heap.size, 0, none⟩ (.int .i64 0)).setCell ⟨w.heap.size, 1, none⟩ (.int .i64 0)).setCell ⟨w.heap.size, 2, none⟩ (.slice none 0 0)).setCell ⟨w.heap.size, 3, none⟩ (.int .i64 0)).setCell ⟨w.heap.size, 4, none⟩ (.slice none 0 0)).setCell ⟨w.heap.size, 5, none⟩ (.slice none 0 0)) := d21.1.2.2.2.trans (hon.below (Nat.le_refl _))
          obtain ⟨⟨x0, x1, x2, x3, x4, x5⟩, fx⟩ := d21.zero
          have f0 := fx 0
          have f1 := fx 1
          have f2 := fx 2
          have f3 := fx 3
          have f4 := fx 4
          have f5 := fx 5
          clear hon hrw hr3 hr5 dr d21 fx
          go_wp2
          refine bodyPost_ret (v := .tuple #[.agg #[.int .i64 0, .int .i64 0, .slice none 0 0, .int .i64 0, .slice none 0 0, .slice none 0 0], .int .i64 5]) ?_ rfl ?_
          · simp only [results, Tryz.results28]
            go_simp
          · rw [HCC.out]
            exact ⟨fun _ => rfl, fun h => by simp at h, bf⟩
        | true =>
          go_wp2_with fail
          refine hE.mono ?_
          rintro x w20 ⟨rfl, nd, hw20⟩
          have bN : Below wr.heap.size wr w20 := by rw [hw20]; exact below_drewN (Below.refl _ wr) nd
          replace dr := dr.later bN
          replace hr3 := hr3.later bN
          replace hr5 := hr5.later bN
          replace hrw := hrw.tk (TK.of_below (T := 55) bN) (by decide) (by decide)
          clear hw20 bN
          obtain ⟨⟨c0, c1, c2, c3, c4, c5⟩, _⟩ := dr.cells
          clear hE
          go_wp2_with fail
          refine (hCn _ hr3.1 hr5.1 hrw.pa).mono ?_
          rintro x w21 ⟨rfl, hb21⟩
          have d21 := dr.later hb21
          obtain ⟨⟨y0, y1, y2, y3, y4, y5⟩, _⟩ := d21.cells
          clear hCn c0 c1 c2 c3 c4 c5
          have hon : Only w.heap.size w21 (((((((w21).setCell ⟨w.heap.size, 0, none⟩ (.int .i64 (n1 : Int))).setCell ⟨w.heap.size, 1, none⟩ (.int .i64 (n2 : Int))).setCell ⟨w.heap.size, 2, none⟩ (.slice p7 t3.length q7)).setCell ⟨w.heap.size, 3, none⟩ (.int .i64 (n4 : Int))).setCell ⟨w.heap.size, 4, none⟩ (.slice p11 t5.length q11)).setCell ⟨w.heap.size, 5, none⟩ (.slice py (S m).length cy)) := ((((((Only.refl _ w21).setCell 0 _).setCell 1 _).setCell 2 _).setCell 3 _).setCell 4 _).setCell 5 _
          have bf : Below w.heap.size w (((((((w21).setCell ⟨w.heap.size, 0, none⟩ (.int .i64 (n1 : Int))).setCell ⟨w.heap.size, 1, none⟩ (.int .i64 (n2 : Int))).setCell ⟨w.heap.size, 2, none⟩ (.slice p7 t3.length q7)).setCell ⟨w.heap.size, 3, none⟩ (.int .i64 (n4 : Int))).setCell ⟨w.heap.size, 4, none⟩ (.slice p11 t5.length q11)).setCell ⟨w.heap.size, 5, none⟩ (.slice py (S m).length cy)) := d21.1.2.2.2.trans (hon.below (Nat.le_refl _))
          obtain ⟨⟨x0, x1, x2, x3, x4, x5⟩, fx⟩ := d21.zero
          have f0 := fx 0
          have f1 := fx 1
          have f2 := fx 2
          have f3 := fx 3
          have f4 := fx 4
          have f5 := fx 5
          have tk := TK.of_only (T := 25) hon d21.1.1
          have q3 := ((hr3.later hb21).tk tk (by decide)).1
          have q5 := ((hr5.later hb21).tk tk (by decide)).1
          have qk := ((hrw.tk (TK.of_below (T := 55) hb21) (by decide) (by decide)).tk tk (by decide) (by decide)).pa
          clear hon hrw hr3 hr5 dr d21 fx tk
          go_wp2
          refine bodyPost_ret (v := .tuple #[.agg #[.int .i64 (n1 : Int), .int .i64 (n2 : Int), .slice p7 t3.length q7, .int .i64 (n4 : Int), .slice p11 t5.length q11, .slice py (S m).length cy], .int .i64 0]) ?_ rfl ?_
          · simp only [results, Tryz.results28]
            go_simp
          · rw [HCC.out]
            exact ⟨fun h => by simp at h, fun _ => ⟨_, _, _, rfl, q3, q5, qk⟩, bf⟩
      · have hne : (EN != 0) = true := by simpa using he
        have HD : Hid (decide (EN = 0) = false) := by simpa [Hid] using he
        go_wp2_with fail
        refine hE.mono ?_
        rintro x w20 ⟨rfl, nd, hw20⟩
        have bN : Below wr.heap.size wr w20 := by rw [hw20]; exact below_drewN (Below.refl _ wr) nd
        replace dr := dr.later bN
        replace hr3 := hr3.later bN
        replace hr5 := hr5.later bN
        replace hrw := hrw.tk (TK.of_below (T := 55) bN) (by decide) (by decide)
        clear hw20 bN
        clear hE hCn
        have hon : Only w.heap.size w20 (((((((w20).setCell ⟨w.heap.size, 0, none⟩ (.int .i64 0)).setCell ⟨w.heap.size, 1, none⟩ (.int .i64 0)).setCell ⟨w.heap.size, 2, none⟩ (.slice none 0 0)).setCell ⟨w.heap.size, 3, none⟩ (.int .i64 0)).setCell ⟨w.heap.size, 4, none⟩ (.slice none 0 0)).setCell ⟨w.heap.size, 5, none⟩ (.slice none 0 0)) := ((((((Only.refl _ w20).setCell 0 _).setCell 1 _).setCell 2 _).setCell 3 _).setCell 4 _).setCell 5 _
        have bf : Below w.heap.size w (((((((w20).setCell ⟨w.heap.size, 0, none⟩ (.int .i64 0)).setCell ⟨w.heap.size, 1, none⟩ (.int .i64 0)).setCell ⟨w.heap.size, 2, none⟩ (.slice none 0 0)).setCell ⟨w.heap.size, 3, none⟩ (.int .i64 0)).setCell ⟨w.heap.size, 4, none⟩ (.slice none 0 0)).setCell ⟨w.heap.size, 5, none⟩ (.slice none 0 0)) := dr.1.2.2.2.trans (hon.below (Nat.le_refl _))
        obtain ⟨⟨x0, x1, x2, x3, x4, x5⟩, fx⟩ := dr.zero
        have f0 := fx 0
        have f1 := fx 1
        have f2 := fx 2
        have f3 := fx 3
        have f4 := fx 4
        have f5 := fx 5
        clear hon hrw hr3 hr5 dr fx he
        go_wp2
        refine bodyPost_ret (v := .tuple #[.agg #[.int .i64 0, .int .i64 0, .slice none 0 0, .int .i64 0, .slice none 0 0, .slice none 0 0], .int .i64 5]) ?_ rfl ?_
        · simp only [results, Tryz.results28]
          go_simp
        · rw [HD.out]
          exact ⟨fun _ => rfl, fun h => by simp at h, bf⟩

end Go.Proofs.YtganajmhdpiipaaGreatDoor

namespace Go.Proofs.YtganajmhdpiipaaGreatDoor
open Go.RowKit

theorem bytesF_fell (l : List UInt8) (most : Int) (h : (bytesF l most).1 ≠ 0) : (bytesF l most).2.2 = [] := by
  unfold bytesF at h ⊢
  dsimp only at h ⊢
  split
  · rfl
  · split
    · rfl
    · rename_i h1 h2
      rw [if_neg h1, if_neg h2] at h
      exact absurd rfl h
theorem rdU_fell (l : List UInt8) (e most : Int) (he : e ≠ 0 → l = []) : (rdU l e most).1 ≠ 0 → (rdU l e most).2.2 = [] := by
  unfold rdU
  split
  · intro h; rw [uintF_fell l most h]
  · rename_i h; intro _; exact he h
theorem rdB_fell (l : List UInt8) (e most : Int) (he : e ≠ 0 → l = []) : (rdB l e most).1 ≠ 0 → (rdB l e most).2.2 = [] := by
  unfold rdB
  split
  · exact bytesF_fell l most
  · rename_i h; intro _; exact he h
theorem lkS_fell (most : Int) (l : List UInt8) (e : Int) (he : e ≠ 0 → l = []) (k : Nat) : (lkS most l e k).2.2 ≠ 0 → (lkS most l e k).2.1 = [] := by
  induction k with
  | zero => exact he
  | succ k ih => exact rdB_fell _ _ _ ih

theorem rdecode_any (size : Int) (v : Value) (b : List UInt8) (w : World) (hv : HB w v b) (hsz : b.length ≤ 140737488355000) :
    Calls Tryz.prog 28 #[.int .i64 size, v] w (DecTold (dcOkM 32 size b) (dcR 32 b) w) := by
  have l1 : (dcE b).2.2.length ≤ b.length := rdU_le b 0 255
  have l2 : (dcT b).2.2.length ≤ (dcE b).2.2.length := rdU_le _ _ _
  have l3 : (dcTr 32 b).2.2.length ≤ (dcT b).2.2.length := rdB_le _ _ _
  have l4 : (dcC 32 b).2.2.length ≤ (dcTr 32 b).2.2.length := rdU_le _ _ _
  have l5 : (dcLi 32 b).2.2.length ≤ (dcC 32 b).2.2.length := rdB_le _ _ _
  have m1 : ((dcE b).2.1 : Int) ≤ 255 := rdU_most b 0 255 (by omega)
  have f1 : (dcE b).1 ≠ 0 → (dcE b).2.2 = [] := rdU_fell b 0 255 (fun h => absurd rfl h)
  have f2 : (dcT b).1 ≠ 0 → (dcT b).2.2 = [] := rdU_fell _ _ _ f1
  have f3 : (dcTr 32 b).1 ≠ 0 → (dcTr 32 b).2.2 = [] := rdB_fell _ _ _ f2
  have f4 : (dcC 32 b).1 ≠ 0 → (dcC 32 b).2.2 = [] := rdU_fell _ _ _ f3
  have f5 : (dcLi 32 b).1 ≠ 0 → (dcLi 32 b).2.2 = [] := rdB_fell _ _ _ f4
  exact rdecode_core size v b w hv hsz (dcE b).1 (dcT b).1 (dcTr 32 b).1 (dcC 32 b).1 (dcLi 32 b).1 (dcE b).2.1 (dcT b).2.1 (dcC 32 b).2.1 (linksL (dcE b).2.1).length
    (dcE b).2.2 (dcT b).2.2 (dcTr 32 b).2.2 (dcTr 32 b).2.1 (dcC 32 b).2.2 (dcLi 32 b).2.2 (dcLi 32 b).2.1
    (fun k => (lkS 32 (dcLi 32 b).2.2 (dcLi 32 b).1 k).1) (fun k => (lkS 32 (dcLi 32 b).2.2 (dcLi 32 b).1 k).2.1) (fun k => (lkS 32 (dcLi 32 b).2.2 (dcLi 32 b).1 k).2.2) (fun k => (rdB (lkS 32 (dcLi 32 b).2.2 (dcLi 32 b).1 k).2.1 (lkS 32 (dcLi 32 b).2.2 (dcLi 32 b).1 k).2.2 32).2.1)
    (fun g w h => xuint_all g b 0 255 w h (fun h => absurd rfl h) (by omega))
    (fun g w h => xuint_all g _ _ _ w h f1 (by omega))
    (fun g w h => xbytes_all g _ _ _ w h f2 (by omega))
    (fun g w h => xuint_all g _ _ _ w h f3 (by omega))
    (fun g w h => xbytes_all g _ _ _ w h f4 (by omega))
    (fun k g w h => xbytes_all g _ _ _ w h (lkS_fell 32 _ _ f5 k) (by have := lkS_le 32 (dcLi 32 b).2.2 (dcLi 32 b).1 k; omega))
    ⟨rfl, rfl, rfl⟩ (fun _ => rfl) (fun k => lkS_len _ _ _ k) rfl (by omega) (linksL_len _ (by omega))

/-- Both read alike. -/
theorem dec_both (size : Int) (b : List UInt8) : dcOkM 32 size b = dcOk size b ∧ (dcOk size b = true → dcR 32 b = dcR size b) := by
  have hp : dcOk size b = true → dcOkM 32 size b = true ∧ dcR 32 b = dcR size b := by
    intro h
    obtain ⟨h1, h2⟩ := enc_dec size b h
    have h3 := ((canB_iff _ _).1 h1).2.1
    have := dec_encM 32 size _ h1 h3
    rwa [h2] at this
  have hr : dcOkM 32 size b = true → dcOk size b = true := by
    intro h
    obtain ⟨h1, h2⟩ := enc_decM 32 size b h
    have := dec_enc size _ h1
    rw [h2] at this
    exact this.1
  refine ⟨?_, fun h => (hp h).2⟩
  cases h1 : dcOk size b with
  | true => exact (hp h1).1
  | false =>
    cases h2 : dcOkM 32 size b with
    | true => rw [hr h2] at h1; cases h1
    | false => rfl

/-- The document's Decode, told as the program's. -/
theorem rdecode_as (size : Int) (v : Value) (b : List UInt8) (w : World) (hv : HB w v b) (hsz : b.length ≤ 140737488355000) :
    Calls Tryz.prog 28 #[.int .i64 size, v] w (DecTold (dcOk size b) (dcR size b) w) := by
  have h := rdecode_any size v b w hv hsz
  obtain ⟨h1, h2⟩ := dec_both size b
  rw [h1] at h
  refine h.mono ?_
  rintro x w' ⟨a1, a2, a3⟩
  refine ⟨a1, fun hk => ?_, a3⟩
  have := a2 hk
  rw [h2 hk] at this
  exact this

end Go.Proofs.YtganajmhdpiipaaGreatDoor
