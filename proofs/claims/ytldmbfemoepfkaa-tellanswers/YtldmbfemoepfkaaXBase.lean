/- What this text proves: the document's reader (annalsref04.Reader) in memory; the walks of its Fail, Take and End over this program. -/
import Derived.Test.YtldmbfemoepfkaaRdText
namespace Go.Proofs.Ytldmbfemoepfkaa
open Go.RowKit

/-- Block g holds the document's reader: what is left, the first error. -/
def XD (w : World) (g : Nat) (v : Value) (e : Int) : Prop := w.heap[g]? = some (.cells #[v, .int .i64 e] 47 (0, 0))

theorem XD.cells {w : World} {g : Nat} {v : Value} {e : Int} (h : XD w g v e) : w.cell? ⟨g, 0, none⟩ = some v ∧ w.cell? ⟨g, 1, none⟩ = some (.int .i64 e) := by
  refine ⟨?_, ?_⟩ <;> rw [cell_of_row w g _ _ _ _ h] <;> rfl

theorem XD.lt {w : World} {g : Nat} {v : Value} {e : Int} (h : XD w g v e) : g < w.heap.size := (Array.getElem?_eq_some_iff.1 h).1

theorem XD.later {w w' : World} {g : Nat} {v : Value} {e : Int} (h : XD w g v e) (hb : Below w.heap.size w w') : XD w' g v e := by
  unfold XD
  rw [hb.block g h.lt]
  exact h

theorem XD.put0 {w : World} {g : Nat} {v : Value} {e : Int} (h : XD w g v e) (v' : Value) : XD (w.setCell ⟨g, 0, none⟩ v') g v' e := by
  unfold XD
  rw [heap_setCell_same w g 0 _ _ _ h]
  rfl

theorem XD.put1 {w : World} {g : Nat} {v : Value} {e : Int} (h : XD w g v e) (e' : Int) : XD (w.setCell ⟨g, 1, none⟩ (.int .i64 e')) g v e' := by
  unfold XD
  rw [heap_setCell_same w g 1 _ _ _ h]
  rfl

theorem XD.free {w : World} {g : Nat} {v : Value} {e : Int} (h : XD w g v e) (i : Nat) : w.frozen? ⟨g, i, none⟩ = false := by
  unfold XD at h
  simp [World.frozen?, h]

theorem XD.only {w w' : World} {g g' : Nat} {v : Value} {e : Int} (h : XD w g v e) (ho : Only g' w w') (hne : g ≠ g') : XD w' g v e := by
  unfold XD
  rw [ho.block g hne h.lt]
  exact h

/-- The document's reader: what is left, and the first error. -/
def XR (w : World) (g : Nat) (l : List UInt8) (e : Int) : Prop := ∃ p c, XD w g (.slice p l.length c) e ∧ HBN w g (.slice p l.length c) l

theorem XR.later {w w' : World} {g : Nat} {l : List UInt8} {e : Int} (h : XR w g l e) (hb : Below w.heap.size w w') : XR w' g l e := by
  obtain ⟨p, c, h1, h2⟩ := h
  exact ⟨p, c, h1.later hb, h2.later hb⟩

set_option maxHeartbeats 400000 in
theorem xfail_first (g : Nat) (l : List UInt8) (e' : Int) (w : World) (h : XR w g l 0) :
    Calls Try.prog 38 #[.pointer (some ⟨g, 0, none⟩), .int .i64 e'] w fun x w' => x = .returned (.tuple #[]) ∧ XR w' g [] e' ∧ Only g w w' := by
  obtain ⟨p, c, h, _⟩ := h
  obtain ⟨c0, c1⟩ := h.cells
  have f0 := h.free 0
  have f1 := h.free 1
  obtain ⟨c0', _⟩ := (h.put1 e').cells
  have f0' := (h.put1 e').free 0
  have hx : XR ((w.setCell ⟨g, 1, none⟩ (.int .i64 e')).setCell ⟨g, 0, none⟩ (.slice none 0 0)) g [] e' := ⟨none, 0, (h.put1 e').put0 _, HBN.nil _ _⟩
  clear h
  go_enter Try.func38, Try.ntmps38
  go_wp2
  go_end0
  exact ⟨rfl, hx, ((Only.refl g w).setCell 1 _).setCell 0 _⟩

set_option maxHeartbeats 400000 in
theorem xfail_stays (g : Nat) (l : List UInt8) (e e' : Int) (w : World) (h : XR w g l e) (he : e ≠ 0) :
    Calls Try.prog 38 #[.pointer (some ⟨g, 0, none⟩), .int .i64 e'] w fun x w' => x = .returned (.tuple #[]) ∧ w' = w := by
  obtain ⟨p, c, h, _⟩ := h
  obtain ⟨c0, c1⟩ := h.cells
  have hd : (e == 0) = false := by simpa using he
  clear h
  go_enter Try.func38, Try.ntmps38
  go_wp2
  go_end0
  exact ⟨rfl, rfl⟩

set_option maxHeartbeats 1000000 in
theorem xtake_err (g : Nat) (e : Int) (n : Nat) (w : World) (h : XR w g [] e) (he : e ≠ 0) :
    Calls Try.prog 37 #[.pointer (some ⟨g, 0, none⟩), .int .i64 (n : Int)] w fun x w' => x = .returned (.slice none 0 0) ∧ w' = w := by
  have k := xfail_stays g [] e 3 w h he
  obtain ⟨p, c, hd, _⟩ := h
  obtain ⟨c0, c1⟩ := hd.cells
  simp only [List.length_nil] at c0
  have hd0 : (e == 0) = false := by simpa using he
  clear hd
  by_cases hn : 0 < n
  · have hn2 : (0 : Int) < (n : Int) := by omega
    go_enter Try.func37, Try.ntmps37
    go_wp2_with (first | (go_at_call 38; refine k.mono ?_; rintro e w' ⟨rfl, hw⟩; have hw2 := hw.symm; clear hw; subst hw2))
    go_ret
    exact ⟨rfl, rfl⟩
  · obtain rfl : n = 0 := by omega
    go_enter Try.func37, Try.ntmps37
    go_wp2
    go_ret
    exact ⟨rfl, rfl⟩

set_option maxHeartbeats 1000000 in
theorem xtake_short (g : Nat) (l : List UInt8) (n : Nat) (w : World) (h : XR w g l 0) (hn : l.length < n) :
    Calls Try.prog 37 #[.pointer (some ⟨g, 0, none⟩), .int .i64 (n : Int)] w fun x w' => x = .returned (.slice none 0 0) ∧ XR w' g [] 3 ∧ Only g w w' := by
  have k := xfail_first g l 3 w h
  obtain ⟨p, c, hd, _⟩ := h
  obtain ⟨c0, c1⟩ := hd.cells
  have hn2 : (l.length : Int) < (n : Int) := by omega
  clear hd
  go_enter Try.func37, Try.ntmps37
  go_wp2_with (first | (go_at_call 38; refine k.mono ?_; rintro e w1 ⟨rfl, hx1, ho1⟩; have hX1 : Hid (XR w1 g [] 3) := hx1; obtain ⟨p1, d1, hd1, hz1⟩ := hx1; obtain ⟨e0, e1⟩ := hd1.cells; clear hd1 hz1))
  go_ret
  exact ⟨rfl, hX1.out, ho1⟩

set_option maxHeartbeats 1000000 in
theorem xtake_ok (g : Nat) (l : List UInt8) (n : Nat) (w : World) (h : XR w g l 0) (hn : n ≤ l.length) (hsz : l.length ≤ 140737488355328) :
    Calls Try.prog 37 #[.pointer (some ⟨g, 0, none⟩), .int .i64 (n : Int)] w fun x w' => ∃ p c, x = .returned (.slice p n c) ∧ HBN w' g (.slice p n c) (l.take n) ∧ XR w' g (l.drop n) 0 ∧ Only g w w' := by
  obtain ⟨p, c, hd, hh, hnb⟩ := h
  obtain ⟨c0, c1⟩ := hd.cells
  have hlen := hh.len.2
  unfold maxLen at hlen
  have hgl := hd.lt
  have hn2 : (n : Int) ≤ (l.length : Int) := by omega
  have k1 := fun w => run_upto (P := Try.prog) Try.underlying22 s_u8 p l.length c n (n : Int) rfl (by omega) w
  have k3 : ∀ w, (Instr.slice 22 (.slice p l.length c) (some (.int .i64 (n : Int))) none none).run Try.prog w = .ok (.slice (cutP p c n) (l.length - n) (c - n)) w := fun w => run_cut (P := Try.prog) Try.underlying22 s_u8 p l.length c n (n : Int) rfl (by omega) w
  have hb0 : Below w.heap.size w (w.alloc (.cells #[] 5)) := (Below.refl _ w).alloc (Nat.le_refl _) _
  have hf := (hh.front n (by omega)).later hb0
  obtain ⟨c0', c1'⟩ := (hd.later hb0).cells
  have hbh : HBN w g (.slice (cutP p c n) (l.length - n) (c - n)) (l.drop n) := HBN.behind (g := g) ⟨hh, hnb⟩ n (by omega)
  have HTL : Hid ((l.take n).length = n) := by show _ = _; rw [List.length_take]; omega
  have HDL : Hid ((l.drop n).length = l.length - n) := by show _ = _; rw [List.length_drop]
  have HD : Hid (XD w g (.slice p l.length c) 0) := hd
  clear hh hnb hd
  go_enter Try.func37, Try.ntmps37
  go_wp2_with (first | (at_builtin; refine wpList_append_hb rfl (.tmp 20) (.tmp 26) 22 rfl w.heap.size 5 Try.underlying22 i_u8 _ 0 [] rfl (World.ownsRow_made w #[] 0 (Nat.le_refl _) (Nat.zero_le _) rfl) _ _ _ (l.take n) rfl hf ?qa ?qb ?_))
  case qa => omega
  case qb => simp
  intro v1 w1 hown1 hgrow1
  have hb1 : Below w.heap.size w w1 := hb0.grown hgrow1 (by simp) (by intro k hk; cases hk; exact Nat.le_refl _)
  have hown1' : w1.ownsRow w.heap.size 5 1 v1 n (bcs (l.take n)) := by simpa using hown1
  have hlt := hown1'.lt
  obtain ⟨p1, d1, rfl⟩ := owns_shape hown1'
  have ht1 : HBN w1 g (.slice p1 n d1) (l.take n) := ⟨HB.of_owns hown1', fun a n c e => ⟨by have := (hlt a.block (by rw [e]; rfl)).1; omega, TY.of_owns hown1' e⟩⟩
  have hd1 := HD.out.later hb1
  obtain ⟨e0, e1⟩ := hd1.cells
  have f0 := hd1.free 0
  have hbh1 := hbh.later hb1
  clear hgrow1 hown1 hown1' hlt hf c0 c1 c0' c1' hbh hb0
  go_wp2
  go_ret
  have ho1 : Only g w w1 := Only.of_below hb1 (by omega)
  have hos : Only g w1 (w1.setCell ⟨g, 0, none⟩ (.slice (cutP p c n) (l.length - n) (c - n))) := (Only.refl g w1).setCell 0 _
  refine ⟨p1, d1, rfl, ht1.only hos, ⟨cutP p c n, c - n, ?_, ?_⟩, ho1.trans hos⟩
  · rw [HDL.out]; exact hd1.put0 _
  · rw [HDL.out]; exact hbh1.only hos

end Go.Proofs.Ytldmbfemoepfkaa
