/- What this text proves: the document's reader (annalsref04.Reader) in memory; the walks of its Fail, Take and End over this program. What this text proves: the walk of the document's Take (annalsref04.Reader) over this program: the bytes taken lie in a block of bytes. What this text proves: the walk of the document's Take (annalsref04.Reader) over this program, whatever is left: told by plain functions. What this text proves: the walk of mts.Sign over this program, at a number or a digest that can't be. What this text holds: plain facts on signatures: what was signed leads to the key, and has its length. What this text proves: the path that mts.Sign answers leads to the tree's root (no program). What this text proves: the walk of mts.Sign, that signs, over this program. What this text proves: the walks of the document's key (annalsref05) and pair (annalsref06) over this program, with the block that their answer lies in. What this text holds: the document's keys (annalsref06) in memory (no walk). What this text proves: a law for a walk: an append of a slice of bytes onto a row that the call owns, at a step of a region that draws. What this text holds: plain facts: worlds that part in two blocks alone; a row of taken bytes that grows beside the document's reader (no walk). What this text proves: the walk of the document's Uint (annalsref04.Reader) over this program: the next number, or the error. What this text proves: the walk of the document's Uint (annalsref04.Reader) over this program where the bytes of the number are there. -/
import Derived.Test.YtganajmhdpiipaaGreatDoorJRd
import Derived.Test.YtganajmhdpiipaaGreatDoorJB2
import Derived.Test.YtganajmhdpiipaaGreatDoorJV1
import Derived.Deep.RegionHeld3
namespace Go.Proofs.YtganajmhdpiipaaGreatDoor.Vf
open Go.RowKit

/-- Block g holds the document's reader: what is left, the first error. -/
def XD (w : World) (g : Nat) (v : Value) (e : Int) : Prop := w.heap[g]? = some (.cells #[v, .int .i64 e] 55 (0, 0))

theorem XD.cells {w : World} {g : Nat} {v : Value} {e : Int} (h : XD w g v e) : w.cell? ⟨g, 0, none⟩ = some v ∧ w.cell? ⟨g, 1, none⟩ = some (.int .i64 e) := by
  refine ⟨?_, ?_⟩ <;> rw [cell_of_row w g _ _ _ _ h] <;> rfl

theorem XD.lt {w : World} {g : Nat} {v : Value} {e : Int} (h : XD w g v e) : g < w.heap.size := (Array.getElem?_eq_some_iff.1 h).1

theorem XD.later {w w' : World} {g : Nat} {v : Value} {e : Int} (h : XD w g v e) (hb : Below w.heap.size w w') : XD w' g v e := by
  unfold XD
  rw [hb.block g h.lt]
  exact h

theorem XD.put0 {w : World} {g : Nat} {v : Value} {e : Int} (h : XD w g v e) (v' : Value) : XD (w.setCell ⟨g, 0, none⟩ v') g v' e := by
  unfold XD
  rw [heap_setCell_same w g 0 _ _ _ h]
  rfl

theorem XD.put1 {w : World} {g : Nat} {v : Value} {e : Int} (h : XD w g v e) (e' : Int) : XD (w.setCell ⟨g, 1, none⟩ (.int .i64 e')) g v e' := by
  unfold XD
  rw [heap_setCell_same w g 1 _ _ _ h]
  rfl

theorem XD.free {w : World} {g : Nat} {v : Value} {e : Int} (h : XD w g v e) (i : Nat) : w.frozen? ⟨g, i, none⟩ = false := by
  unfold XD at h
  simp [World.frozen?, h]

theorem XD.only {w w' : World} {g g' : Nat} {v : Value} {e : Int} (h : XD w g v e) (ho : Only g' w w') (hne : g ≠ g') : XD w' g v e := by
  unfold XD
  rw [ho.block g hne h.lt]
  exact h

/-- The document's reader: what is left, and the first error. -/
def XR (w : World) (g : Nat) (l : List UInt8) (e : Int) : Prop := ∃ p c, XD w g (.slice p l.length c) e ∧ HBN w g (.slice p l.length c) l ∧ TB w (.slice p l.length c)

theorem _root_.Go.Proofs.YtganajmhdpiipaaGreatDoor.TB.far {w w' : World} {g : Nat} {v : Value} (h : TB w v) (hne : ∀ a n c, v = .slice (some a) n c → a.block ≠ g) (ho : Only g w w') : TB w' v := by
  intro b o n c e
  obtain ⟨cur, fr, hb⟩ := h b o n c e
  exact ⟨cur, fr, (ho.block b (hne _ _ _ e) (Array.getElem?_eq_some_iff.1 hb).1).trans hb⟩

theorem _root_.Go.Proofs.YtganajmhdpiipaaGreatDoor.TB.none (w : World) (n c : Nat) : TB w (.slice none n c) := fun _ _ _ _ e => by cases e

theorem _root_.Go.Proofs.YtganajmhdpiipaaGreatDoor.TB.cut {w : World} {p : Option Addr} {c k m m' d : Nat} {l : List UInt8} (h : TB w (.slice p m c)) (hs : HB w (.slice p m c) l) (hk : k ≤ m) : TB w (.slice (cutP p c k) m' d) := by
  intro b o n' c' e
  simp only [Value.slice.injEq] at e
  obtain ⟨e, _, _⟩ := e
  unfold cutP at e
  split at e
  · subst e
    exact h b o m c rfl
  · cases p with
    | none => simp at e
    | some a =>
      obtain ⟨ab, ao, an⟩ := a
      simp only [Option.map_some, Option.some.injEq] at e
      cases an with
      | none =>
        rw [add_lit] at e
        simp only [Addr.mk.injEq, and_true] at e
        obtain ⟨rfl, _⟩ := e
        exact h ab ao m c rfl
      | some x =>
        have hm : m = 0 := by
          rcases Nat.eq_zero_or_pos m with h0 | h0
          · exact h0
          · obtain ⟨b', o', e', _⟩ := hs.addr h0
            simp at e'
        obtain rfl : k = 0 := by omega
        unfold Addr.add at e
        simp at e

theorem XR.later {w w' : World} {g : Nat} {l : List UInt8} {e : Int} (h : XR w g l e) (hb : Below w.heap.size w w') : XR w' g l e := by
  obtain ⟨p, c, h1, h2, h3⟩ := h
  exact ⟨p, c, h1.later hb, h2.later hb, h3.later hb⟩

set_option maxRecDepth 100000 in
set_option maxHeartbeats 400000 in
theorem xfail_first (g : Nat) (l : List UInt8) (e' : Int) (w : World) (h : XR w g l 0) :
    Calls Tryz.prog 69 #[.pointer (some ⟨g, 0, none⟩), .int .i64 e'] w fun x w' => x = .returned (.tuple #[]) ∧ XR w' g [] e' ∧ Only g w w' := by
  obtain ⟨p, c, h, _⟩ := h
  obtain ⟨c0, c1⟩ := h.cells
  have f0 := h.free 0
  have f1 := h.free 1
  obtain ⟨c0', _⟩ := (h.put1 e').cells
  have f0' := (h.put1 e').free 0
  have hx : XR ((w.setCell ⟨g, 1, none⟩ (.int .i64 e')).setCell ⟨g, 0, none⟩ (.slice none 0 0)) g [] e' := ⟨none, 0, (h.put1 e').put0 _, HBN.nil _ _, TB.none _ _ _⟩
  clear h
  go_enter Tryz.func69, Tryz.ntmps69
  go_wp2
  go_end0
  exact ⟨rfl, hx, ((Only.refl g w).setCell 1 _).setCell 0 _⟩

set_option maxRecDepth 100000 in
set_option maxHeartbeats 400000 in
theorem xfail_stays (g : Nat) (l : List UInt8) (e e' : Int) (w : World) (h : XR w g l e) (he : e ≠ 0) :
    Calls Tryz.prog 69 #[.pointer (some ⟨g, 0, none⟩), .int .i64 e'] w fun x w' => x = .returned (.tuple #[]) ∧ w' = w := by
  obtain ⟨p, c, h, _⟩ := h
  obtain ⟨c0, c1⟩ := h.cells
  have hd : (e == 0) = false := by simpa using he
  clear h
  go_enter Tryz.func69, Tryz.ntmps69
  go_wp2
  go_end0
  exact ⟨rfl, rfl⟩

set_option maxRecDepth 100000 in
set_option maxHeartbeats 400000 in
theorem xend_any (g : Nat) (l : List UInt8) (e : Int) (w : World) (h : XR w g l e) :
    Calls Tryz.prog 56 #[.pointer (some ⟨g, 0, none⟩)] w fun x w' => x = .returned (.int .i64 (endF l.length e)) ∧ ∃ n, w' = w.drewN n := by
  obtain ⟨p, c, h, _⟩ := h
  obtain ⟨c0, c1⟩ := h.cells
  clear h
  by_cases hE : e = 0
  · subst hE
    by_cases hn : 0 < l.length
    · have hn2 : (0 : Int) < (l.length : Int) := by omega
      have HF : Hid (endF l.length 0 = 5) := by show endF l.length 0 = 5; unfold endF; rw [if_pos ⟨rfl, hn⟩]
      go_enter Tryz.func56, Tryz.ntmps56
      go_wp2
      go_ret
      exact ⟨by rw [HF.out]; rfl, 0, rfl⟩
    · have h0 : l.length = 0 := by omega
      rw [h0] at c0 ⊢
      have HF : Hid (endF 0 0 = 0) := by show endF 0 0 = 0; rfl
      clear hn h0
      go_enter Tryz.func56, Tryz.ntmps56
      go_wp2
      go_ret
      exact ⟨by rw [HF.out]; rfl, 0, rfl⟩
  · have HF : Hid (endF l.length e = e) := by show endF l.length e = e; unfold endF; rw [if_neg (fun h => hE h.1)]
    have hd : (e == 0) = false := by simpa using hE
    go_enter Tryz.func56, Tryz.ntmps56
    go_wp2
    go_ret
    exact ⟨by rw [HF.out]; rfl, 0, rfl⟩

set_option maxRecDepth 100000 in
set_option maxHeartbeats 1000000 in
theorem xtake_err (g : Nat) (e : Int) (n : Nat) (w : World) (h : XR w g [] e) (he : e ≠ 0) :
    Calls Tryz.prog 54 #[.pointer (some ⟨g, 0, none⟩), .int .i64 (n : Int)] w fun x w' => x = .returned (.slice none 0 0) ∧ w' = w := by
  have k := xfail_stays g [] e 3 w h he
  obtain ⟨p, c, hd, _⟩ := h
  obtain ⟨c0, c1⟩ := hd.cells
  simp only [List.length_nil] at c0
  have hd0 : (e == 0) = false := by simpa using he
  clear hd
  by_cases hn : 0 < n
  · have hn2 : (0 : Int) < (n : Int) := by omega
    go_enter Tryz.func54, Tryz.ntmps54
    go_wp2_with (first | (go_at_call 69; refine k.mono ?_; rintro e w' ⟨rfl, hw⟩; have hw2 := hw.symm; clear hw; subst hw2))
    go_ret
    exact ⟨rfl, rfl⟩
  · obtain rfl : n = 0 := by omega
    go_enter Tryz.func54, Tryz.ntmps54
    go_wp2
    go_ret
    exact ⟨rfl, rfl⟩

set_option maxRecDepth 100000 in
set_option maxHeartbeats 1000000 in
theorem xtake_short (g : Nat) (l : List UInt8) (n : Nat) (w : World) (h : XR w g l 0) (hn : l.length < n) :
    Calls Tryz.prog 54 #[.pointer (some ⟨g, 0, none⟩), .int .i64 (n : Int)] w fun x w' => x = .returned (.slice none 0 0) ∧ XR w' g [] 3 ∧ Only g w w' := by
  have k := xfail_first g l 3 w h
  obtain ⟨p, c, hd, _⟩ := h
  obtain ⟨c0, c1⟩ := hd.cells
  have hn2 : (l.length : Int) < (n : Int) := by omega
  clear hd
  go_enter Tryz.func54, Tryz.ntmps54
  go_wp2_with (first | (go_at_call 69; refine k.mono ?_; rintro e w1 ⟨rfl, hx1, ho1⟩; have hX1 : Hid (XR w1 g [] 3) := hx1; obtain ⟨p1, d1, hd1, hz1⟩ := hx1; obtain ⟨e0, e1⟩ := hd1.cells; clear hd1 hz1))
  go_ret
  exact ⟨rfl, hX1.out, ho1⟩

set_option maxRecDepth 100000 in
set_option maxHeartbeats 1000000 in
theorem xtake_ok (g : Nat) (l : List UInt8) (n : Nat) (w : World) (h : XR w g l 0) (hn : n ≤ l.length) (hsz : l.length ≤ 140737488355328) :
    Calls Tryz.prog 54 #[.pointer (some ⟨g, 0, none⟩), .int .i64 (n : Int)] w fun x w' => ∃ p c, x = .returned (.slice p n c) ∧ HBN w' g (.slice p n c) (l.take n) ∧ XR w' g (l.drop n) 0 ∧ Only g w w' := by
  obtain ⟨p, c, hd, ⟨hh, hnb⟩, htb⟩ := h
  obtain ⟨c0, c1⟩ := hd.cells
  have hlen := hh.len.2
  unfold maxLen at hlen
  have hgl := hd.lt
  have hn2 : (n : Int) ≤ (l.length : Int) := by omega
  have k1 := fun w => run_upto (P := Tryz.prog) Tryz.underlying22 s_u8 p l.length c n (n : Int) rfl (by omega) w
  have k3 : ∀ w, (Instr.slice 22 (.slice p l.length c) (some (.int .i64 (n : Int))) none none).run Tryz.prog w = .ok (.slice (cutP p c n) (l.length - n) (c - n)) w := fun w => run_cut (P := Tryz.prog) Tryz.underlying22 s_u8 p l.length c n (n : Int) rfl (by omega) w
  have hb0 : Below w.heap.size w (w.alloc (.cells #[] 5)) := (Below.refl _ w).alloc (Nat.le_refl _) _
  have hf := (hh.front n (by omega)).later hb0
  obtain ⟨c0', c1'⟩ := (hd.later hb0).cells
  have hbh : HBN w g (.slice (cutP p c n) (l.length - n) (c - n)) (l.drop n) := HBN.behind (g := g) ⟨hh, hnb⟩ n (by omega)
  have HTL : Hid ((l.take n).length = n) := by show _ = _; rw [List.length_take]; omega
  have HDL : Hid ((l.drop n).length = l.length - n) := by show _ = _; rw [List.length_drop]
  have HD : Hid (XD w g (.slice p l.length c) 0) := hd
  have tbc : TB w (.slice (cutP p c n) (l.length - n) (c - n)) := TB.cut htb hh (by omega)
  clear hh hnb hd htb
  go_enter Tryz.func54, Tryz.ntmps54
  go_wp2_with (first | (at_builtin; refine wpList_append_hb rfl (.tmp 20) (.tmp 26) 22 rfl w.heap.size 5 Tryz.underlying22 i_u8 _ 0 [] rfl (World.ownsRow_made w #[] 0 (Nat.le_refl _) (Nat.zero_le _) rfl) _ _ _ (l.take n) rfl hf ?qa ?qb ?_))
  case qa => omega
  case qb => simp
  intro v1 w1 hown1 hgrow1
  have hb1 : Below w.heap.size w w1 := hb0.grown hgrow1 (by simp) (by intro k hk; cases hk; exact Nat.le_refl _)
  have hown1' : w1.ownsRow w.heap.size 5 1 v1 n (bcs (l.take n)) := by simpa using hown1
  have hlt := hown1'.lt
  obtain ⟨p1, d1, rfl⟩ := owns_shape hown1'
  have ht1 : HBN w1 g (.slice p1 n d1) (l.take n) := ⟨HB.of_owns hown1', fun a n c e => ⟨by have := (hlt a.block (by rw [e]; rfl)).1; omega, TY.of_owns hown1' e⟩⟩
  have hd1 := HD.out.later hb1
  obtain ⟨e0, e1⟩ := hd1.cells
  have f0 := hd1.free 0
  have hbh1 := hbh.later hb1
  clear hgrow1 hown1 hown1' hlt hf c0 c1 c0' c1' hbh hb0
  go_wp2
  go_ret
  have ho1 : Only g w w1 := Only.of_below hb1 (by omega)
  have hos : Only g w1 (w1.setCell ⟨g, 0, none⟩ (.slice (cutP p c n) (l.length - n) (c - n))) := (Only.refl g w1).setCell 0 _
  refine ⟨p1, d1, rfl, ht1.only hos, ⟨cutP p c n, c - n, ?_, ?_, ?_⟩, ho1.trans hos⟩
  · rw [HDL.out]; exact hd1.put0 _
  · rw [HDL.out]; exact hbh1.only hos
  · rw [HDL.out]; exact (tbc.later hb1).far (fun a n c e => (hbh1.2 a n c e).1) hos

end Go.Proofs.YtganajmhdpiipaaGreatDoor.Vf

namespace Go.Proofs.YtganajmhdpiipaaGreatDoor.Vf
open Go.RowKit

set_option maxRecDepth 100000 in
set_option maxHeartbeats 1000000 in
theorem xtake_ty (g : Nat) (l : List UInt8) (n : Nat) (w : World) (h : XR w g l 0) (hn : n ≤ l.length) (hsz : l.length ≤ 140737488355328) :
    Calls Tryz.prog 54 #[.pointer (some ⟨g, 0, none⟩), .int .i64 (n : Int)] w fun x w' => ∃ p c, x = .returned (.slice p n c) ∧ HBN w' g (.slice p n c) (l.take n) ∧ XR w' g (l.drop n) 0 ∧ Only g w w' ∧ TB w' (.slice p n c) := by
  obtain ⟨p, c, hd, ⟨hh, hnb⟩, htb⟩ := h
  obtain ⟨c0, c1⟩ := hd.cells
  have hlen := hh.len.2
  unfold maxLen at hlen
  have hgl := hd.lt
  have hn2 : (n : Int) ≤ (l.length : Int) := by omega
  have k1 := fun w => run_upto (P := Tryz.prog) Tryz.underlying22 s_u8 p l.length c n (n : Int) rfl (by omega) w
  have k3 : ∀ w, (Instr.slice 22 (.slice p l.length c) (some (.int .i64 (n : Int))) none none).run Tryz.prog w = .ok (.slice (cutP p c n) (l.length - n) (c - n)) w := fun w => run_cut (P := Tryz.prog) Tryz.underlying22 s_u8 p l.length c n (n : Int) rfl (by omega) w
  have hb0 : Below w.heap.size w (w.alloc (.cells #[] 5)) := (Below.refl _ w).alloc (Nat.le_refl _) _
  have hf := (hh.front n (by omega)).later hb0
  obtain ⟨c0', c1'⟩ := (hd.later hb0).cells
  have hbh : HBN w g (.slice (cutP p c n) (l.length - n) (c - n)) (l.drop n) := HBN.behind (g := g) ⟨hh, hnb⟩ n (by omega)
  have HTL : Hid ((l.take n).length = n) := by show _ = _; rw [List.length_take]; omega
  have HDL : Hid ((l.drop n).length = l.length - n) := by show _ = _; rw [List.length_drop]
  have HD : Hid (XD w g (.slice p l.length c) 0) := hd
  have tbc : TB w (.slice (cutP p c n) (l.length - n) (c - n)) := TB.cut htb hh (by omega)
  clear hh hnb hd htb
  go_enter Tryz.func54, Tryz.ntmps54
  go_wp2_with (first | (at_builtin; refine wpList_append_hb rfl (.tmp 20) (.tmp 26) 22 rfl w.heap.size 5 Tryz.underlying22 i_u8 _ 0 [] rfl (World.ownsRow_made w #[] 0 (Nat.le_refl _) (Nat.zero_le _) rfl) _ _ _ (l.take n) rfl hf ?qa ?qb ?_))
  case qa => omega
  case qb => simp
  intro v1 w1 hown1 hgrow1
  have hb1 : Below w.heap.size w w1 := hb0.grown hgrow1 (by simp) (by intro k hk; cases hk; exact Nat.le_refl _)
  have hown1' : w1.ownsRow w.heap.size 5 1 v1 n (bcs (l.take n)) := by simpa using hown1
  have hlt := hown1'.lt
  obtain ⟨p1, d1, rfl⟩ := owns_shape hown1'
  have ht1 : HBN w1 g (.slice p1 n d1) (l.take n) := ⟨HB.of_owns hown1', fun a n c e => ⟨by have := (hlt a.block (by rw [e]; rfl)).1; omega, TY.of_owns hown1' e⟩⟩
  have tb1 := TB.of_owns hown1'
  have hd1 := HD.out.later hb1
  obtain ⟨e0, e1⟩ := hd1.cells
  have f0 := hd1.free 0
  have hbh1 := hbh.later hb1
  clear hgrow1 hown1 hown1' hlt hf c0 c1 c0' c1' hbh hb0
  go_wp2
  go_ret
  have ho1 : Only g w w1 := Only.of_below hb1 (by omega)
  have hos : Only g w1 (w1.setCell ⟨g, 0, none⟩ (.slice (cutP p c n) (l.length - n) (c - n))) := (Only.refl g w1).setCell 0 _
  refine ⟨p1, d1, rfl, ht1.only hos, ⟨cutP p c n, c - n, ?_, ?_, ?_⟩, ho1.trans hos, tb1.far (fun a n c e => (ht1.2 a n c e).1) hos⟩
  · rw [HDL.out]; exact hd1.put0 _
  · rw [HDL.out]; exact hbh1.only hos
  · rw [HDL.out]; exact (tbc.later hb1).far (fun a n c e => (hbh1.2 a n c e).1) hos

end Go.Proofs.YtganajmhdpiipaaGreatDoor.Vf

namespace Go.Proofs.YtganajmhdpiipaaGreatDoor.Vf
open Go.RowKit

/-- What Take tells, what is left behind it, and the error. -/
def tkO (n : Nat) (l : List UInt8) (e : Int) : List UInt8 := if e = 0 ∧ n ≤ l.length then l.take n else []
def tkR (n : Nat) (l : List UInt8) (e : Int) : List UInt8 := if e = 0 ∧ n ≤ l.length then l.drop n else []
def tkE (n : Nat) (l : List UInt8) (e : Int) : Int := if e = 0 then (if n ≤ l.length then 0 else 3) else e

theorem xtake_all (g : Nat) (l : List UInt8) (e : Int) (n : Nat) (w : World) (h : XR w g l e) (he : e ≠ 0 → l = []) (hsz : l.length ≤ 140737488355328) :
    Calls Tryz.prog 54 #[.pointer (some ⟨g, 0, none⟩), .int .i64 (n : Int)] w fun x w' => ∃ p c, x = .returned (.slice p (tkO n l e).length c) ∧ HBN w' g (.slice p (tkO n l e).length c) (tkO n l e) ∧ XR w' g (tkR n l e) (tkE n l e) ∧ Only g w w' ∧ TB w' (.slice p (tkO n l e).length c) := by
  by_cases h0 : e = 0
  · subst h0
    by_cases hn : n ≤ l.length
    · have e1 : tkO n l 0 = l.take n := by unfold tkO; rw [if_pos ⟨rfl, hn⟩]
      have e2 : tkR n l 0 = l.drop n := by unfold tkR; rw [if_pos ⟨rfl, hn⟩]
      have e3 : tkE n l 0 = 0 := by unfold tkE; rw [if_pos rfl, if_pos hn]
      have e4 : (l.take n).length = n := by rw [List.length_take]; omega
      rw [e1, e2, e3, e4]
      exact (xtake_ty g l n w h hn hsz).mono fun x w' ⟨p, c, h1, h2, h3, h4, h5⟩ => ⟨p, c, h1, h2, h3, h4, h5⟩
    · have e1 : tkO n l 0 = [] := by unfold tkO; rw [if_neg (by omega)]
      have e2 : tkR n l 0 = [] := by unfold tkR; rw [if_neg (by omega)]
      have e3 : tkE n l 0 = 3 := by unfold tkE; rw [if_pos rfl, if_neg hn]
      rw [e1, e2, e3]
      exact (xtake_short g l n w h (by omega)).mono fun x w' ⟨h1, h2, h3⟩ => ⟨none, 0, h1, HBN.nil _ _, h2, h3, TB.none _ _ _⟩
  · have hl := he h0
    subst hl
    have e1 : tkO n [] e = [] := by unfold tkO; rw [if_neg (by omega)]
    have e2 : tkR n [] e = [] := by unfold tkR; rw [if_neg (by omega)]
    have e3 : tkE n [] e = e := by unfold tkE; rw [if_neg h0]
    rw [e1, e2, e3]
    exact (xtake_err g e n w h h0).mono fun x w' ⟨h1, hw⟩ => by subst hw; exact ⟨none, 0, h1, HBN.nil _ _, h, Only.refl _ _, TB.none _ _ _⟩

/-- The reader behind j Takes, and what they told. -/
def tkS (n : Nat) (l : List UInt8) (e : Int) : Nat → List (List UInt8) × List UInt8 × Int
  | 0 => ([], l, e)
  | j + 1 => ((tkS n l e j).1 ++ [tkO n (tkS n l e j).2.1 (tkS n l e j).2.2], tkR n (tkS n l e j).2.1 (tkS n l e j).2.2, tkE n (tkS n l e j).2.1 (tkS n l e j).2.2)

theorem tkS_len (n : Nat) (l : List UInt8) (e : Int) (j : Nat) : (tkS n l e j).1.length = j := by
  induction j with
  | zero => rfl
  | succ j ih => simp [tkS, ih]

theorem tkS_err (n : Nat) (l : List UInt8) (e : Int) (he : e ≠ 0 → l = []) (j : Nat) : (tkS n l e j).2.2 ≠ 0 → (tkS n l e j).2.1 = [] := by
  induction j with
  | zero => exact he
  | succ j ih =>
    simp only [tkS]
    intro h
    unfold tkR
    by_cases h0 : (tkS n l e j).2.2 = 0
    · by_cases hn : n ≤ (tkS n l e j).2.1.length
      · exfalso; apply h; unfold tkE; rw [if_pos h0, if_pos hn]
      · rw [if_neg (by omega)]
    · rw [if_neg (by omega)]

theorem tkS_short (n : Nat) (l : List UInt8) (e : Int) (j : Nat) : (tkS n l e j).2.1.length ≤ l.length := by
  induction j with
  | zero => exact Nat.le_refl _
  | succ j ih =>
    simp only [tkS]
    unfold tkR
    split
    · rw [List.length_drop]; omega
    · simp

/-- Where nothing was wrong ahead: rows of n bytes as long as they are there. -/
theorem tkS_ok (n : Nat) (l : List UInt8) (j : Nat) (hj : j * n ≤ l.length) : tkS n l 0 j = ((List.range j).map (fun i => (l.drop (i * n)).take n), l.drop (j * n), 0) := by
  induction j with
  | zero => simp [tkS]
  | succ j ih =>
    have hj2 : j * n + n ≤ l.length := by rw [Nat.succ_mul] at hj; exact hj
    have hi := ih (by omega)
    have hl : n ≤ (l.drop (j * n)).length := by rw [List.length_drop]; omega
    simp only [tkS, hi]
    unfold tkO tkR tkE
    rw [if_pos ⟨rfl, hl⟩, if_pos ⟨rfl, hl⟩, if_pos rfl, if_pos hl, List.range_succ, List.map_append, List.drop_drop, Nat.succ_mul]
    rfl

theorem tkS_bad (n : Nat) (l : List UInt8) (e : Int) (he : e ≠ 0) (j : Nat) : (tkS n l e j).2.2 = e := by
  induction j with
  | zero => rfl
  | succ j ih =>
    simp only [tkS]
    unfold tkE
    rw [ih, if_neg he]

theorem tkS_few (n : Nat) (l : List UInt8) (j : Nat) (hj : l.length < j * n) : (tkS n l 0 j).2.2 = 3 := by
  induction j with
  | zero => simp at hj
  | succ j ih =>
    simp only [tkS]
    by_cases h : l.length < j * n
    · unfold tkE
      rw [ih h, if_neg (by decide)]
    · rw [Nat.succ_mul] at hj
      rw [tkS_ok n l j (by omega)]
      unfold tkE
      rw [if_pos rfl, if_neg]
      rw [List.length_drop]
      omega

/-- Takes behind Takes. -/
theorem tkS_more (n : Nat) (l : List UInt8) (e : Int) (i j : Nat) : (tkS n (tkS n l e i).2.1 (tkS n l e i).2.2 j).2 = (tkS n l e (i + j)).2 := by
  induction j with
  | zero => rfl
  | succ j ih =>
    rw [← Nat.add_assoc]
    simp only [tkS, ih]

end Go.Proofs.YtganajmhdpiipaaGreatDoor.Vf

namespace Go.Proofs.YtganajmhdpiipaaGreatDoor.Vf
open Go.RowKit

end Go.Proofs.YtganajmhdpiipaaGreatDoor.Vf

namespace Go.Proofs.YtganajmhdpiipaaGreatDoor.Vf
open Go.RowKit

theorem endsF_congr (E E' : Nat → List UInt8) : ∀ k, (∀ i, i < k → E i = E' i) → endsF E k = endsF E' k
  | 0, _ => rfl
  | k + 1, h => by rw [endsF, endsF, endsF_congr E E' k (fun i hi => h i (by omega)), h k (by omega)]

theorem getD_le (ds : List Nat) (h : ∀ d ∈ ds, d ≤ 3) (i : Nat) : ds.getD i 0 ≤ 3 := by
  rw [List.getD_eq_getElem?_getD]
  cases hg : ds[i]? with
  | none => simp
  | some d => exact h d (List.mem_of_getElem? hg)

theorem back_plain (n : Nat) (seed : List UInt8) (index : Int) (D : List UInt8) : recW n (signW n seed index D) index D = keyW n seed index := by
  unfold recW keyW
  rw [endsF_congr (endR n (signW n seed index D) (digF D) index) (endK n seed index) (4 * n + 5) (fun i hi => ?_)]
  unfold endR endK signW
  have e : ((List.range (4 * n + 5)).map (sigC n seed index (digF D))).getD i [] = sigC n seed index (digF D) i := by
    rw [List.getD_eq_getElem?_getD, List.getElem?_map, List.getElem?_range hi]
    rfl
  rw [e]
  unfold sigC
  have := getD_le (digF D) (digF_le D) i
  exact chainF_on n index i _ _ (by omega) (by omega)

theorem sign_whole (n : Nat) (hn : n ≤ 32) (seed : List UInt8) (hs : seed.length ≤ 64) (index : Int) (D : List UInt8) : wholeB n (signW n seed index D) = true := by
  unfold wholeB signW
  simp only [List.length_map, List.length_range, decide_true, Bool.true_and, List.all_map, List.all_eq_true, Function.comp_apply, decide_eq_true_eq]
  intro i _
  unfold sigC chainF
  exact chainN_eq n hn _ _ _ _ _ (secretF_eq n hn seed (by omega) _ _)

theorem keyW_length (n : Nat) (hn : n ≤ 32) (seed : List UInt8) (index : Int) : (keyW n seed index).length = n := by
  unfold keyW
  refine hashF_eq n hn 8 _ ?_
  intro p hp
  simp only [List.mem_cons, List.not_mem_nil, or_false] at hp
  rcases hp with rfl | rfl
  · rw [numB_length]; decide
  · have h1 := endsF_len (endK n seed index) n (fun i => endK_le n hn seed index i) (4 * n + 5)
    have h2 := Nat.mul_le_mul (show 4 * n + 5 ≤ 133 by omega) hn
    omega

end Go.Proofs.YtganajmhdpiipaaGreatDoor.Vf

namespace Go.Proofs.YtganajmhdpiipaaGreatDoor.Vf
open Go.RowKit

/-- The place beside. -/
def besideP (p : Nat) : Nat := if p % 2 = 0 then p + 1 else p - 1

/-- The path of a number: the hashes beside. -/
def pathW (n : Nat) (seed : List UInt8) (i h : Nat) : List (List UInt8) := (List.range h).map fun k => treeS n seed k (besideP (i / 2 ^ k))

theorem pathW_length (n : Nat) (seed : List UInt8) (i h : Nat) : (pathW n seed i h).length = h := by simp [pathW]

theorem pathW_getD (n : Nat) (seed : List UInt8) (i h k : Nat) (hk : k < h) : (pathW n seed i h).getD k [] = treeS n seed k (besideP (i / 2 ^ k)) := by
  simp [pathW, List.getD_eq_getElem?_getD, hk]

theorem up_tree (n : Nat) (seed : List UInt8) (i h : Nat) : ∀ k, k ≤ h → upN n i (pathW n seed i h) (treeS n seed 0 i) k = treeS n seed k (i / 2 ^ k)
  | 0, _ => by simp [upN]
  | k + 1, hk => by
    have ih := up_tree n seed i h k (by omega)
    show upS n i k (upN n i (pathW n seed i h) (treeS n seed 0 i) k) ((pathW n seed i h).getD k []) = _
    rw [ih, pathW_getD n seed i h k (by omega)]
    have e : i / 2 ^ (k + 1) = i / 2 ^ k / 2 := by rw [Nat.pow_succ, ← Nat.div_div_eq_div_mul]
    unfold upS besideP
    rw [e]
    generalize i / 2 ^ k = p
    show _ = hashF n 9 [numB ((k + 1 : Nat) : Int), numB ((p / 2 : Nat) : Int), treeS n seed k (2 * (p / 2)), treeS n seed k (2 * (p / 2) + 1)]
    by_cases hp : p % 2 = 0
    · rw [if_pos hp, if_pos hp, show 2 * (p / 2) = p by omega]
    · rw [if_neg hp, if_neg hp, show 2 * (p / 2) + 1 = p by omega, show 2 * (p / 2) = p - 1 by omega]

/-- What was signed leads to the tree's root. -/
theorem up_back (n : Nat) (seed : List UInt8) (i h : Nat) (hi : i < 2 ^ h) (D : List UInt8) : upN n i (pathW n seed i h) (recW n (signW n seed i D) i D) h = treeS n seed h 0 := by
  rw [back_plain]
  have := up_tree n seed i h h (Nat.le_refl _)
  rw [Nat.div_eq_of_lt hi] at this
  exact this

theorem treeS_length (n : Nat) (hn : n ≤ 32) (seed : List UInt8) (l p : Nat) : (treeS n seed l p).length = n := by
  cases l with
  | zero => exact keyW_length n hn seed p
  | succ l =>
    refine hashF_eq n hn 9 _ ?_
    intro q hq
    simp only [List.mem_cons, List.not_mem_nil, or_false] at hq
    rcases hq with rfl | rfl | rfl | rfl
    · rw [numB_length]; decide
    · rw [numB_length]; decide
    · exact Nat.le_trans (treeS_len _ _ _ _) (by decide)
    · exact Nat.le_trans (treeS_len _ _ _ _) (by decide)

theorem pathW_shp (n : Nat) (hn : n ≤ 32) (seed : List UInt8) (i h : Nat) : shpB n h (pathW n seed i h) = true := by
  refine shpB_all (pathW_length n seed i h) fun l hl => ?_
  obtain ⟨k, _, rfl⟩ := List.mem_map.1 hl
  exact treeS_length n hn seed k _

end Go.Proofs.YtganajmhdpiipaaGreatDoor.Vf

namespace Go.Proofs.YtganajmhdpiipaaGreatDoor.Vf
open Go.RowKit

theorem Only.put {g gp : Nat} {w w' : World} (h : Only g w w') (hg : g ≤ gp) (hs : w.heap.size ≤ gp) (j : Nat) (x : Value) : Only g w (w'.setCell ⟨gp, j, none⟩ x) :=
  ⟨h.1.setCell (p := ⟨gp, j, none⟩) hg x, fun k hk hl => by rw [heap_setCell_other w' ⟨gp, j, none⟩ k x (by simp; omega)]; exact h.2 k hk hl⟩

/-- Bytes of a block of bytes stay where another block is written. -/
theorem hb_box {w w' : World} {gs : Nat} {cs : Array Value} {t : TypeId} {fr : Nat × Nat} {u : Value} {l : List UInt8} (hg : w.heap[gs]? = some (.cells cs t fr)) (ht : t ≠ 5) (ho : Only gs w w') (hu : HB w u l) (tb : TB w u) : HB w' u l ∧ TB w' u := by
  have hne : ∀ b o n c, u = .slice (some ⟨b, o, none⟩) n c → b ≠ gs := by
    intro b o n' c e hbg
    obtain ⟨cur, fr', hb⟩ := tb b o n' c e
    subst hbg
    rw [hb] at hg
    simp only [Option.some.injEq, Obj.cells.injEq] at hg
    exact ht hg.2.1.symm
  constructor
  · obtain ⟨p, cap, e, h1, h2, h3, h4⟩ := hu
    refine ⟨p, cap, e, h1, h2, h3, fun hn => ?_⟩
    obtain ⟨b, o, e1, e2⟩ := h4 hn
    refine ⟨b, o, e1, fun i x hx => ?_⟩
    rw [World.cell?_of_block (w := w) (ho.block b (hne b o _ _ (by rw [e, e1])) (cell_lt (e2 i x hx)))]
    exact e2 i x hx
  · intro b o n' c e
    obtain ⟨cur, fr', hb⟩ := tb b o n' c e
    exact ⟨cur, fr', by rw [ho.block b (hne b o n' c e) (Array.getElem?_eq_some_iff.1 hb).1]; exact hb⟩

theorem sig_hb {w w' : World} {gs : Nat} {a : Int} {p1 p2 : Option Addr} {n1 c1 n2 c2 : Nat} {t : TypeId} {u : Value} {l : List UInt8} (hg : w.heap[gs]? = some (.cells #[.int .i64 a, .slice p1 n1 c1, .slice p2 n2 c2] t (0, 0))) (ho : Only gs w w') (hu : HB w u l) : HB w' u l := by
  obtain ⟨p, cap, e, h1, h2, h3, h4⟩ := hu
  refine ⟨p, cap, e, h1, h2, h3, fun hne => ?_⟩
  obtain ⟨b, o, e1, e2⟩ := h4 hne
  refine ⟨b, o, e1, fun i x hx => ?_⟩
  have hc := e2 i x hx
  have hb : b ≠ gs := by
    rintro rfl
    rw [cell_of_row w b _ _ _ _ hg] at hc
    generalize o + i = j at hc
    match j with
    | 0 | 1 | 2 => simp [bc] at hc
    | j + 3 => simp at hc
  rw [World.cell?_of_block (w := w) (ho.block b hb (cell_lt hc))]
  exact hc

theorem sig_pa {w w' : World} {gs : Nat} {a : Int} {p1 p2 : Option Addr} {n1 c1 n2 c2 : Nat} {t : TypeId} {u : Value} {ls : List (List UInt8)} (hg : w.heap[gs]? = some (.cells #[.int .i64 a, .slice p1 n1 c1, .slice p2 n2 c2] t (0, 0))) (ho : Only gs w w') (hu : PA w u ls) (hl : 3 ≤ ls.length) : PA w' u ls := by
  obtain ⟨p, cap, vs, e, h1, h2, h3, h4, h5, h6⟩ := hu
  refine ⟨p, cap, vs, e, h1, h2, h3, h4, fun hne => ?_, fun i x l hx hli => sig_hb hg ho (h6 i x l hx hli)⟩
  obtain ⟨b, o, e1, e2⟩ := h5 hne
  refine ⟨b, o, e1, fun i x hx => ?_⟩
  have hc := e2 i x hx
  have hb : b ≠ gs := by
    rintro rfl
    obtain ⟨x0, hx0⟩ : ∃ x0, vs[0]? = some x0 := ⟨_, List.getElem?_eq_getElem (by omega)⟩
    obtain ⟨x2, hx2⟩ : ∃ x2, vs[2]? = some x2 := ⟨_, List.getElem?_eq_getElem (by omega)⟩
    obtain ⟨l0, hl0⟩ : ∃ l0, ls[0]? = some l0 := ⟨_, List.getElem?_eq_getElem (by omega)⟩
    obtain ⟨q0, d0, rfl⟩ := (h6 0 x0 l0 hx0 hl0).shape
    have f0 := e2 0 _ hx0
    have f2 := e2 2 _ hx2
    rw [cell_of_row w b _ _ _ _ hg] at f0 f2
    match o with
    | 0 | 1 | 2 => simp at f0 f2
    | o + 3 => simp at f0
  rw [World.cell?_of_block (w := w) (ho.block b hb (cell_lt hc))]
  exact hc

theorem RS.box {w w' : World} {gs base N : Nat} {v : Value} {sig : Nat → List UInt8} {cs : Array Value} {t : TypeId} {fr : Nat × Nat} (r : RS w base v N sig) (hg : w.heap[gs]? = some (.cells cs t fr)) (ht : t ≠ 5) (ho : Only gs w w') (hB : gs < base) : RS w' base v N sig := by
  obtain ⟨us, r1, r2⟩ := r
  exact ⟨us, owns_only r1 ho hB, fun i' u' hu' => hb_box hg ht ho (r2 i' u' hu').1 (r2 i' u' hu').2⟩

theorem xor_calc : ∀ n : Fin 256, ∀ k : Fin 8, bits BinOp.xor IntKind.i64 ((n.val : Int) / 2 ^ k.val) 1 = ((besideP (n.val / 2 ^ k.val) : Nat) : Int) := by decide +kernel

end Go.Proofs.YtganajmhdpiipaaGreatDoor.Vf

namespace Go.Proofs.YtganajmhdpiipaaGreatDoor.Vf
open Go.RowKit

set_option maxRecDepth 100000 in
set_option maxHeartbeats 1000000 in
theorem rkeyh_ty (size index : Int) (v : Value) (x : List UInt8) (w : World) (h : HB w v x) :
    Calls Tryz.prog 81 #[.int .i64 size, .int .i64 index, v] w fun e w' => ∃ p c, e = .returned (.slice p (hashF size 8 [numB index, x]).length c) ∧ HB w' (.slice p (hashF size 8 [numB index, x]).length c) (hashF size 8 [numB index, x]) ∧ Below w.heap.size w w' ∧ TB w' (.slice p (hashF size 8 [numB index, x]).length c) := by
  obtain ⟨p, c, rfl⟩ := h.shape
  obtain ⟨F, hF⟩ : ∃ F, F = hashF size 8 [numB index, x] := ⟨_, rfl⟩
  have HF : Hid (F = hashF size 8 [numB index, x]) := hF
  rw [← hF]
  clear hF
  have hA := fun w' => rnumber_to index w'
  generalize numB index = A at *
  go_enter Tryz.func81, Tryz.ntmps81
  go_wp2_with fail
  refine (hA _).mono ?_
  rintro e w1 ⟨p1, c1, rfl, h1, hb1⟩
  have h01 := h.later hb1
  clear h hA
  go_wp2_with fail
  have hbA : Below w.heap.size w (w1.alloc (.cells #[.slice p1 8 c1, .slice p x.length c] 22)) := hb1.alloc hb1.size _
  refine (rhash_toT size 8 _ [A, x] _ (by simp) (by decide) (PA.lit w1 22 [_, _] _ 2 rfl rfl (by decide) (two_hb h1 h01))).mono ?_
  rintro e w3 ⟨p3, c3, rfl, h3, hb3, t3⟩
  rw [← HF.out] at h3 t3 ⊢
  have hb03 : Below w.heap.size w w3 := hbA.trans (hb3.mono hbA.size)
  go_wp2
  go_ret
  exact ⟨_, _, rfl, h3, hb03, t3⟩

set_option maxRecDepth 100000 in
set_option maxHeartbeats 1000000 in
theorem rpair_ty (size level place : Int) (a b : Value) (x y : List UInt8) (w : World) (ha : HB w a x) (hb : HB w b y) :
    Calls Tryz.prog 63 #[.int .i64 size, .int .i64 level, .int .i64 place, a, b] w fun e w' => ∃ p c, e = .returned (.slice p (hashF size 9 [numB level, numB place, x, y]).length c) ∧ HB w' (.slice p (hashF size 9 [numB level, numB place, x, y]).length c) (hashF size 9 [numB level, numB place, x, y]) ∧ Below w.heap.size w w' ∧ TB w' (.slice p (hashF size 9 [numB level, numB place, x, y]).length c) := by
  obtain ⟨p, c, rfl⟩ := ha.shape
  obtain ⟨q, d, rfl⟩ := hb.shape
  obtain ⟨F, hF⟩ : ∃ F, F = hashF size 9 [numB level, numB place, x, y] := ⟨_, rfl⟩
  have HF : Hid (F = hashF size 9 [numB level, numB place, x, y]) := hF
  rw [← hF]
  clear hF
  have hA := fun w' => rnumber_to level w'
  have hB := fun w' => rnumber_to place w'
  generalize numB level = A at *
  generalize numB place = B at *
  go_enter Tryz.func63, Tryz.ntmps63
  go_wp2_with fail
  refine (hA _).mono ?_
  rintro e w1 ⟨p1, c1, rfl, h1, hb1⟩
  go_wp2_with fail
  refine (hB _).mono ?_
  rintro e w2 ⟨p2, c2, rfl, h2, hb2⟩
  have hb02 := hb1.trans (hb2.mono hb1.size)
  have ka := ha.later hb02
  have kb := hb.later hb02
  have k1 := h1.later hb2
  clear ha hb h1 hb1 hb2 hA hB
  go_wp2_with fail
  have hbA : Below w.heap.size w (w2.alloc (.cells #[.slice p1 8 c1, .slice p2 8 c2, .slice p x.length c, .slice q y.length d] 22)) := hb02.alloc hb02.size _
  refine (rhash_toT size 9 _ [A, B, x, y] _ (by simp) (by decide) (PA.lit w2 22 [_, _, _, _] _ 4 rfl rfl (by decide) (four_hb k1 h2 ka kb))).mono ?_
  rintro e w3 ⟨p3, c3, rfl, h3, hb3, t3⟩
  rw [← HF.out] at h3 t3 ⊢
  have hb03 : Below w.heap.size w w3 := hbA.trans (hb3.mono hbA.size)
  go_wp2
  go_ret
  exact ⟨_, _, rfl, h3, hb03, t3⟩

end Go.Proofs.YtganajmhdpiipaaGreatDoor.Vf

namespace Go.Proofs.YtganajmhdpiipaaGreatDoor.Vf
open Go.RowKit

theorem TL.box {w w' : World} {gs base n h m : Nat} {seed : List UInt8} {v : Value} {cs : Array Value} {t : TypeId} {fr : Nat × Nat} (r : TL w base n h seed v m) (hg : w.heap[gs]? = some (.cells cs t fr)) (ht : t ≠ 5) (ho : Only gs w w') (hB : gs < base) : TL w' base n h seed v m := by
  obtain ⟨vs, h1, h2⟩ := r
  exact ⟨vs, owns_only h1 ho hB, fun j u hu => (h2 j u hu).box hg ht ho hB⟩

/-- A slice of no byte in a new block is owned. -/
theorem owns_none (w : World) (e : TypeId) : (w.alloc (.cells #[] e)).ownsRow w.heap.size e 1 (.slice (some ⟨w.heap.size, 0, none⟩) 0 0) 0 [] :=
  ⟨rfl, .inr ⟨w.heap.size, 0, #[], rfl, Nat.le_refl _, heap_alloc_new w _, Nat.le_refl _, Nat.zero_le _, rfl, rfl⟩⟩

end Go.Proofs.YtganajmhdpiipaaGreatDoor.Vf

namespace Go.Proofs.YtganajmhdpiipaaGreatDoor.Vf
open Go.RowKit

theorem step_append_hb {P : Program} {w : World} {ops : Array Oper} {o : Oper} {a : Act} {K : Act → World → Prop} {Q : Exit → Act → World → Prop} {E : Prop} (hgd : o.guard = none) (s x : Operand) (t : TypeId)
    (ho : o.op = .call { callee := .builtin .append, args := #[s, x], argTypes := #[t, t] })
    (base : Nat) (e : TypeId) (ht : P.underlying t = some (.slice e)) (hi0 : (P.info? e).map (fun i => (i.zero, i.size, i.bytes)) = some (some (.int .u8 0), 1, 1))
    (v : Value) (n : Nat) (xs : List Value) (hs : a.eval s = v) (hown : w.ownsRow base e 1 v n xs)
    (p : Option Addr) (m c : Nat) (l : List UInt8) (hx : a.eval x = .slice p m c) (hsrc : HB w (.slice p m c) l)
    (hpos : 0 < m) (hbytes : n + m ≤ 140737488355328) (hbase : base ≤ w.heap.size)
    (h : ∀ g cap w', w'.ownsRow base e 1 (.slice (some ⟨g, 0, none⟩) (n + m) cap) (n + m) (xs ++ bcs l) → w.grownBy w' v.ownBlock → K (a.put o.dst (.slice (some ⟨g, 0, none⟩) (n + m) cap)) w') :
    if Region.wanted o (yielded ops a.tmps) = true then Oper.wp P o a w K Q else E := by
  obtain ⟨i, hi, hz, h1, h2⟩ := info_parts hi0
  have hm := hsrc.len.1
  obtain ⟨b, o', rfl, hc⟩ := hsrc.addr hpos
  exact step_append_lies w hgd s x t ho base e i (.int .u8 0) 1 1 ht hi hz h1 h2 rfl (by decide) v n xs hs hown ⟨b, o', none⟩ m c (bcs l) hx (by rw [bcs_length]; omega) hsrc.cells (bcs_one l) hpos (by unfold maxLen; omega) (by omega) hbase w.heap.size rfl (fun g cap w' q1 q2 _ _ => h g cap w' q1 q2)

/-- So onto a slice of none. -/
theorem step_append_hb0 {P : Program} {w : World} {ops : Array Oper} {o : Oper} {a : Act} {K : Act → World → Prop} {Q : Exit → Act → World → Prop} {E : Prop} (hgd : o.guard = none) (s x : Operand) (t : TypeId)
    (ho : o.op = .call { callee := .builtin .append, args := #[s, x], argTypes := #[t, t] })
    (base : Nat) (e : TypeId) (ht : P.underlying t = some (.slice e)) (hi0 : (P.info? e).map (fun i => (i.zero, i.size, i.bytes)) = some (some (.int .u8 0), 1, 1))
    (v : Value) (hs : a.eval s = v) (hown : w.ownsRow base e 1 v 0 [])
    (p : Option Addr) (m c : Nat) (l : List UInt8) (hx : a.eval x = .slice p m c) (hsrc : HB w (.slice p m c) l)
    (hpos : 0 < m) (hbytes : m ≤ 140737488355328) (hbase : base ≤ w.heap.size)
    (h : ∀ g cap w', w'.ownsRow base e 1 (.slice (some ⟨g, 0, none⟩) m cap) m (bcs l) → w.grownBy w' v.ownBlock → K (a.put o.dst (.slice (some ⟨g, 0, none⟩) m cap)) w') :
    if Region.wanted o (yielded ops a.tmps) = true then Oper.wp P o a w K Q else E :=
  step_append_hb hgd s x t ho base e ht hi0 v 0 [] hs hown p m c l hx hsrc hpos (by omega) hbase (fun g cap w' q1 q2 => by
    have e0 : 0 + m = m := by omega
    rw [e0] at q1 ⊢
    exact h g cap w' q1 q2)

/-- What another block holds stays where one block is written. -/
theorem cell_ony {g b o : Nat} {w w' : World} {v : Value} (ho : Only g w w') (hc : w.cell? ⟨b, o, none⟩ = some v) (hb : b ≠ g) : w'.cell? ⟨b, o, none⟩ = some v := by
  rw [World.cell?_of_block (w := w) (ho.block b hb (cell_lt hc))]
  exact hc

/-- Bytes are put behind a signature's path. -/
theorem path_put {W3 wr wA w6 : World} {gs m : Nat} {sig : Nat → List UInt8} {a b y x v6 : Value} {vs : List Value} (O : Only gs W3 wr) (hb : Below wr.heap.size wr wA) (hgs : gs < W3.heap.size) (g0 : wr.heap[gs]? = some (.cells #[a, b, y] 27 (0, 0))) (r1 : wA.ownsRow W3.heap.size 22 1 y m vs) (r2 : ∀ (j : Nat) u, vs[j]? = some u → HB wA u (sig j) ∧ TB wA u) (hx : HB wA x (sig m)) (tx : TB wA x) (hg : wA.grownBy w6 y.ownBlock) (ho : w6.ownsRow W3.heap.size 22 1 v6 (m + 1) (vs ++ [x])) :
    w6.heap[gs]? = some (.cells #[a, b, y] 27 (0, 0)) ∧ (w6.setCell ⟨gs, 2, none⟩ v6).heap[gs]? = some (.cells #[a, b, v6] 27 (0, 0)) ∧ RS (w6.setCell ⟨gs, 2, none⟩ v6) W3.heap.size v6 (m + 1) sig ∧ Only gs W3 (w6.setCell ⟨gs, 2, none⟩ v6) := by
  have s3 := O.size
  have sA := hb.size
  have OA : Only gs W3 wA := O.trans (Only.of_below hb (by omega))
  have hfar : ∀ j, j < W3.heap.size → some j ≠ y.ownBlock := fun j hj e => by have := (r1.lt j e.symm).1; omega
  have g6 : w6.heap[gs]? = some (.cells #[a, b, y] 27 (0, 0)) := by
    rw [hg.block gs (by omega) (hfar gs hgs), hb.block gs (by omega)]
    exact g0
  have O6 : Only gs W3 w6 := by
    refine ⟨OA.1.grown hg (by omega) (fun j hj => by have := (r1.lt j hj).1; omega), fun j hj hj2 => ?_⟩
    rw [hg.block j (by omega) (hfar j hj2)]
    exact OA.2 j hj hj2
  have O67 := (Only.refl gs w6).setCell 2 v6
  have g7 : (w6.setCell ⟨gs, 2, none⟩ v6).heap[gs]? = some (.cells #[a, b, v6] 27 (0, 0)) := by
    rw [heap_setCell_same w6 gs 2 _ _ _ g6]; rfl
  exact ⟨g6, g7, (RS.snoc r1 r2 hx tx hg ho).box g6 (by decide) O67 hgs, O6.trans O67⟩

end Go.Proofs.YtganajmhdpiipaaGreatDoor.Vf

namespace Go.Proofs.YtganajmhdpiipaaGreatDoor.Vf
open Go.RowKit

/-- Nothing that was there is changed but blocks gs and gr. -/
def Two (gs gr : Nat) (w w' : World) : Prop := Below (min gs gr) w w' ∧ ∀ k, k < w.heap.size → k ≠ gs → k ≠ gr → w'.heap[k]? = w.heap[k]?

theorem Two.refl (gs gr : Nat) (w : World) : Two gs gr w w := ⟨Below.refl _ _, fun _ _ _ _ => rfl⟩
theorem Two.size {gs gr : Nat} {w w' : World} (t : Two gs gr w w') : w.heap.size ≤ w'.heap.size := t.1.size
theorem Two.below {gs gr B : Nat} {w w' : World} (t : Two gs gr w w') (h1 : B ≤ gs) (h2 : B ≤ gr) : Below B w w' := t.1.mono (by omega)
theorem Two.later {gs gr : Nat} {w w' w'' : World} (t : Two gs gr w w') (hb : Below w'.heap.size w' w'') (h : gs < w.heap.size) : Two gs gr w w'' :=
  ⟨t.1.trans (hb.mono (by have := t.size; omega)), fun k hk h1 h2 => (hb.block k (by have := t.size; omega)).trans (t.2 k hk h1 h2)⟩
theorem Two.only {gs gr : Nat} {w w' w'' : World} (t : Two gs gr w w') (ho : Only gr w' w'') : Two gs gr w w'' :=
  ⟨t.1.trans (ho.below (by omega)), fun k hk h1 h2 => (ho.block k h2 (by have := t.size; omega)).trans (t.2 k hk h1 h2)⟩

/-- A row stays where two blocks that are neither of bytes nor of rows change. -/
theorem RS.two {w w' : World} {gs gr base N : Nat} {v : Value} {sig : Nat → List UInt8} {cs cr : Array Value} {f f' : Nat × Nat} (r : RS w base v N sig) (hs : w.heap[gs]? = some (.cells cs 27 f)) (hr : w.heap[gr]? = some (.cells cr 55 f')) (t : Two gs gr w w') : RS w' base v N sig := by
  obtain ⟨vs, r1, r2⟩ := r
  have hty : ∀ (k : Nat) (cur : Array Value) (e : TypeId) (fr : Nat × Nat), w.heap[k]? = some (.cells cur e fr) → e ≠ 27 → e ≠ 55 → w'.heap[k]? = w.heap[k]? := by
    intro k cur e fr hk h1 h2
    refine t.2 k (Array.getElem?_eq_some_iff.1 hk).1 ?_ ?_
    · rintro rfl
      rw [hk] at hs
      simp at hs
      exact h1 hs.2.1
    · rintro rfl
      rw [hk] at hr
      simp at hr
      exact h2 hr.2.1
  refine ⟨vs, ⟨r1.1, ?_⟩, fun j u hu => ⟨?_, ?_⟩⟩
  · rcases r1.2 with hn | ⟨g', cap, cur, e1, hbg, e2, rest⟩
    · exact .inl hn
    · exact .inr ⟨g', cap, cur, e1, hbg, (hty g' cur 22 _ e2 (by decide) (by decide)).trans e2, rest⟩
  · obtain ⟨p, cap, e0, h1, h2, h3, h4⟩ := (r2 j u hu).1
    refine ⟨p, cap, e0, h1, h2, h3, fun hne => ?_⟩
    obtain ⟨b, o, hp, hc⟩ := h4 hne
    subst hp
    refine ⟨b, o, rfl, fun i x hx => ?_⟩
    obtain ⟨cur, fr, hb⟩ := (r2 j u hu).2 b o _ _ e0
    rw [World.cell?_of_block (w := w) (hty b cur 5 fr hb (by decide) (by decide))]
    exact hc i x hx
  · intro b o m d e
    obtain ⟨cur, fr, hb⟩ := (r2 j u hu).2 b o m d e
    exact ⟨cur, fr, (hty b cur 5 fr hb (by decide) (by decide)).trans hb⟩

/-- What is taken is put behind the row. -/
theorem take_put {W w5 w7 : World} {gr gs m i : Nat} {sig : Nat → List UInt8} {y x v7 : Value} {vs : List Value} {cs : Array Value} {R : List UInt8} {E : Int} (t5 : Two gs gr W w5) (gs5 : w5.heap[gs]? = some (.cells cs 27 (0, 0))) (hne : gr ≠ gs) (hgs : gs < W.heap.size) (hgr : gr < W.heap.size) (xr5 : XR w5 gr R E)
    (r1 : w5.ownsRow W.heap.size 22 1 y m vs) (r2 : ∀ (j : Nat) u, vs[j]? = some u → HB w5 u (sig j) ∧ TB w5 u) (hx : HB w5 x (sig m)) (tx : TB w5 x)
    (hg : (w5.alloc (.cells #[x] 22)).grownBy w7 y.ownBlock) (ho : w7.ownsRow W.heap.size 22 1 v7 (m + 1) (vs ++ [x])) :
    w7.heap[gs]? = some (.cells cs 27 (0, 0)) ∧ XR (w7.setCell ⟨gs, i, none⟩ v7) gr R E ∧ RS (w7.setCell ⟨gs, i, none⟩ v7) W.heap.size v7 (m + 1) sig ∧ Two gs gr W (w7.setCell ⟨gs, i, none⟩ v7) := by
  have s5 := t5.size
  have bA := (Below.refl _ w5).alloc (Nat.le_refl _) (.cells #[x] 22)
  have sA := bA.size
  have hfar : ∀ k, k < W.heap.size → some k ≠ y.ownBlock := fun k hk e => by have := (r1.lt k e.symm).1; omega
  have rA := owns_later r1 bA
  have g7 : w7.heap[gs]? = some (.cells cs 27 (0, 0)) := by
    rw [hg.block gs (by omega) (hfar gs hgs), bA.block gs (by omega)]
    exact gs5
  have O78 : Only gs w7 (w7.setCell ⟨gs, i, none⟩ v7) := (Only.refl gs w7).setCell i v7
  have tyk : ∀ k, TY w5 k → TY (w7.setCell ⟨gs, i, none⟩ v7) k := by
    intro k hk
    have hne1 : some k ≠ y.ownBlock := by
      intro e
      rcases r1.2 with ⟨rfl, _⟩ | ⟨g', cap, cur, rfl, _, e2, _⟩
      · simp [Value.ownBlock] at e
      · obtain ⟨cur', fr', h'⟩ := hk
        simp [Value.ownBlock] at e
        subst e
        rw [e2] at h'
        simp at h'
    have h7 := (hk.later bA).keep (hg.block k (hk.later bA).lt hne1)
    refine h7.keep (O78.block k ?_ h7.lt)
    rintro rfl
    obtain ⟨c', f', h'⟩ := h7
    rw [g7] at h'
    simp at h'
  refine ⟨g7, ?_, (RS.snoc rA (fun j u hu => ⟨(r2 j u hu).1.later bA, (r2 j u hu).2.later bA⟩) (hx.later bA) (tx.later bA) hg ho).box g7 (by decide) O78 hgs, ?_⟩
  · obtain ⟨p, c, hd, hh, ht⟩ := xr5
    have hd7 : XD w7 gr (.slice p R.length c) E := by
      unfold XD
      rw [hg.block gr (by omega) (hfar gr hgr), bA.block gr (by omega)]
      exact hd
    obtain ⟨k1, k2⟩ := hb_grown rA hg (hh.1.later bA) (ht.later bA)
    obtain ⟨k3, k4⟩ := hb_box g7 (by decide) O78 k1 k2
    exact ⟨p, c, hd7.only O78 hne, ⟨k3, fun a n c e => ⟨(hh.2 a n c e).1, tyk _ (hh.2 a n c e).2⟩⟩, k4⟩
  · refine ⟨?_, fun k hk h1 h2 => ?_⟩
    · have b1 : Below (min gs gr) W (w5.alloc (.cells #[x] 22)) := t5.1.alloc (by omega) _
      exact (b1.grown hg (by omega) (fun k hk => by have := (r1.lt k hk).1; omega)).setCell (p := ⟨gs, i, none⟩) (by simp; omega) _
    · rw [O78.block k h1 (by have := hg.size; omega), hg.block k (by omega) (hfar k hk), bA.block k (by omega)]
      exact t5.2 k hk h1 h2

end Go.Proofs.YtganajmhdpiipaaGreatDoor.Vf

namespace Go.Proofs.YtganajmhdpiipaaGreatDoor.Vf
open Go.RowKit

/-- What the document's Uint answers. -/
def XSaid (g : Nat) (w : World) (l : List UInt8) (most : Int) (x : Ending) (w' : World) : Prop := x = .returned (.int .i64 ((uintF l most).2.1 : Int)) ∧ XR w' g (uintF l most).2.2 (uintF l most).1 ∧ Only g w w'

theorem XR.xd {w : World} {g : Nat} {l : List UInt8} {e : Int} (h : XR w g l e) : w.cell? ⟨g, 1, none⟩ = some (.int .i64 e) := by
  obtain ⟨p, c, h1, _⟩ := h
  exact h1.cells.2

theorem take_one (g : Nat) (x : UInt8) (r : List UInt8) (w : World) (h : XR w g (x :: r) 0) (hsz : (x :: r).length ≤ 140737488355328) :
    Calls Tryz.prog 54 #[.pointer (some ⟨g, 0, none⟩), .int .i64 1] w fun y w' => ∃ b o c, y = .returned (.slice (some ⟨b, o, none⟩) 1 c) ∧ b ≠ g ∧ w'.cell? ⟨b, o, none⟩ = some (.int .u8 (x.toNat : Int)) ∧ XR w' g r 0 ∧ Only g w w' := by
  refine (xtake_ok g (x :: r) 1 w h (by simp) hsz).mono fun y w' ⟨p, c, hy, ⟨hh, hn⟩, hx, ho⟩ => ?_
  obtain ⟨b, o, rfl, hc⟩ := hh.addr (by omega)
  exact ⟨b, o, c, hy, (hn _ _ _ rfl).1, by have := hc 0 x rfl; simpa [bc] using this, by simpa using hx, ho⟩

set_option maxRecDepth 100000 in
set_option maxHeartbeats 1000000 in
theorem xuint_nil (g : Nat) (most : Int) (w : World) (h : XR w g [] 0) : Calls Tryz.prog 53 #[.pointer (some ⟨g, 0, none⟩), .int .i64 most] w (XSaid g w [] most) := by
  have k := xtake_short g [] 1 w h (by simp)
  clear h
  go_enter Tryz.func53, Tryz.ntmps53
  go_wp2_with (first | (go_at_call 54; refine k.mono ?_; rintro e w1 ⟨rfl, hx1, ho1⟩))
  go_ret
  exact ⟨rfl, hx1, ho1⟩

set_option maxRecDepth 100000 in
set_option maxHeartbeats 1000000 in
theorem xuint_stays (g : Nat) (e most : Int) (w : World) (h : XR w g [] e) (he : e ≠ 0) : Calls Tryz.prog 53 #[.pointer (some ⟨g, 0, none⟩), .int .i64 most] w fun x w' => x = .returned (.int .i64 0) ∧ w' = w := by
  have k := xtake_err g e 1 w h he
  clear h
  go_enter Tryz.func53, Tryz.ntmps53
  go_wp2_with (first | (go_at_call 54; refine k.mono ?_; rintro e w1 ⟨rfl, hw⟩; have hw2 := hw.symm; clear hw; subst hw2))
  go_ret
  exact ⟨rfl, rfl⟩

set_option maxRecDepth 100000 in
set_option maxHeartbeats 2000000 in
theorem xuint_big (g : Nat) (x : UInt8) (r : List UInt8) (most : Int) (w : World) (h : XR w g (x :: r) 0) (hsz : (x :: r).length ≤ 140737488355328) (h8 : 8 < x.toNat) : Calls Tryz.prog 53 #[.pointer (some ⟨g, 0, none⟩), .int .i64 most] w (XSaid g w (x :: r) most) := by
  have k := take_one g x r w h hsz
  have HU : Hid (uintF (x :: r) most = (5, 0, [])) := by show uintF (x :: r) most = _; simp only [uintF]; rw [if_pos h8]
  have hx := x.toNat_lt
  have h82 : (8 : Int) < (x.toNat : Int) := by omega
  have hrem : (x.toNat : Int).tmod 9 = ((x.toNat % 9 : Nat) : Int) := by rw [Int.tmod_eq_emod_of_nonneg (by omega)]; omega
  have hrem2 : (x.toNat : Int) % 9 = ((x.toNat % 9 : Nat) : Int) := by omega
  generalize x.toNat % 9 = z at *
  clear h
  go_enter Tryz.func53, Tryz.ntmps53
  go_wp2_with fail
  refine k.mono ?_
  rintro e w1 ⟨b, o, d, rfl, hbg, hc1, hx1, ho1⟩
  have kf := xfail_first g r 5 w1 hx1
  clear k
  go_wp2_with fail
  refine kf.mono ?_
  rintro e w2 ⟨rfl, hx2, ho2⟩
  have hc2 : w2.cell? ⟨b, o, none⟩ = some (.int .u8 (x.toNat : Int)) := by rw [World.cell?_of_block (w := w1) (ho2.block b hbg (cell_lt hc1))]; exact hc1
  have ho02 := ho1.trans ho2
  have kt := xtake_err g 5 z w2 hx2 (by decide)
  have ks := xfail_stays g [] 5 4 w2 hx2 (by decide)
  have ce := hx2.xd
  clear kf hc1 hx1 ho1 ho2
  go_wp2_with (first | (go_at_call 54; refine kt.mono ?_; rintro e w3 ⟨rfl, hw⟩; have hw2 := hw.symm; clear hw; subst hw2))
  go_loopw [7, 30] (fun n i wr => i = .int .i64 0 ∧ n = .int .u64 0 ∧ w2 = wr) (fun _ _ _ => 0)
  case atStart => exact ⟨rfl, rfl, rfl⟩
  case round =>
    obtain ⟨rfl, rfl, rfl⟩ := hrel
    by_cases hm : most < 0
    · go_wp2_with (first | (go_at_call 69; refine ks.mono ?_; rintro e w3 ⟨rfl, hw⟩; have hw2 := hw.symm; clear hw; subst hw2))
      go_ret
      refine ⟨?_, ?_, ho02⟩
      · rw [HU.out]; rfl
      · rw [HU.out]; exact hx2
    · have hd : decide (most < 0) = false := by simpa using hm
      go_wp2
      go_ret
      refine ⟨?_, ?_, ho02⟩
      · rw [HU.out]; rfl
      · rw [HU.out]; exact hx2

set_option maxRecDepth 100000 in
set_option maxHeartbeats 2000000 in
theorem xuint_short (g : Nat) (x : UInt8) (r : List UInt8) (most : Int) (w : World) (h : XR w g (x :: r) 0) (hsz : (x :: r).length ≤ 140737488355328) (h8 : x.toNat ≤ 8) (hs : r.length < x.toNat) : Calls Tryz.prog 53 #[.pointer (some ⟨g, 0, none⟩), .int .i64 most] w (XSaid g w (x :: r) most) := by
  have k := take_one g x r w h hsz
  have HU : Hid (uintF (x :: r) most = (3, 0, [])) := by show uintF (x :: r) most = _; simp only [uintF]; rw [if_neg (by omega), if_pos hs]
  have hx := x.toNat_lt
  have h82 : (x.toNat : Int) ≤ 8 := by omega
  have hrem : (x.toNat : Int).tmod 9 = (x.toNat : Int) := by rw [Int.tmod_eq_emod_of_nonneg (by omega)]; omega
  have hrem2 : (x.toNat : Int) % 9 = (x.toNat : Int) := by omega
  clear h
  go_enter Tryz.func53, Tryz.ntmps53
  go_wp2_with fail
  refine k.mono ?_
  rintro e w1 ⟨b, o, d, rfl, hbg, hc1, hx1, ho1⟩
  have kt1 := xtake_short g r x.toNat w1 hx1 hs
  clear k
  go_wp2_with fail
  refine kt1.mono ?_
  rintro e w2 ⟨rfl, hx2, ho2⟩
  have ho02 := ho1.trans ho2
  have ks := xfail_stays g [] 3 4 w2 hx2 (by decide)
  have ce := hx2.xd
  clear kt1 hc1 hx1 ho1 ho2
  go_wp2
  go_loopw [7, 30] (fun n i wr => i = .int .i64 0 ∧ n = .int .u64 0 ∧ w2 = wr) (fun _ _ _ => 0)
  case atStart => exact ⟨rfl, rfl, rfl⟩
  case round =>
    obtain ⟨rfl, rfl, rfl⟩ := hrel
    by_cases hm : most < 0
    · go_wp2_with (first | (go_at_call 69; refine ks.mono ?_; rintro e w3 ⟨rfl, hw⟩; have hw2 := hw.symm; clear hw; subst hw2))
      go_ret
      refine ⟨?_, ?_, ho02⟩
      · rw [HU.out]; rfl
      · rw [HU.out]; exact hx2
    · have hd : decide (most < 0) = false := by simpa using hm
      go_wp2
      go_ret
      refine ⟨?_, ?_, ho02⟩
      · rw [HU.out]; rfl
      · rw [HU.out]; exact hx2

set_option maxRecDepth 100000 in
set_option maxHeartbeats 2000000 in
theorem xuint_zero (g : Nat) (r : List UInt8) (most : Int) (w : World) (h : XR w g (0 :: r) 0) (hsz : ((0 : UInt8) :: r).length ≤ 140737488355328) : Calls Tryz.prog 53 #[.pointer (some ⟨g, 0, none⟩), .int .i64 most] w (XSaid g w (0 :: r) most) := by
  have k := take_one g 0 r w h hsz
  simp only [UInt8.toNat_zero] at k
  have hU : uintF (0 :: r) most = if most < 0 then (4, 0, []) else (0, 0, r) := by simp [uintF, valL]
  have hszr : r.length ≤ 140737488355328 := by simp at hsz; omega
  clear h
  go_enter Tryz.func53, Tryz.ntmps53
  go_wp2_with fail
  refine k.mono ?_
  rintro e w1 ⟨b, o, d, rfl, hbg, hc1, hx1, ho1⟩
  have kt1 := xtake_ok g r 0 w1 hx1 (by omega) hszr
  clear k
  go_wp2_with fail
  refine kt1.mono ?_
  rintro e w2 ⟨p2, d2, rfl, _, hx2, ho2⟩
  simp only [List.drop_zero] at hx2
  have ho02 := ho1.trans ho2
  have ks := xfail_first g r 4 w2 hx2
  have ce := hx2.xd
  clear kt1 hc1 hx1 ho1 ho2
  go_wp2
  go_loopw [7, 30] (fun n i wr => i = .int .i64 0 ∧ n = .int .u64 0 ∧ w2 = wr) (fun _ _ _ => 0)
  case atStart => exact ⟨rfl, rfl, rfl⟩
  case round =>
    obtain ⟨rfl, rfl, rfl⟩ := hrel
    by_cases hm : most < 0
    · rw [if_pos hm] at hU
      have HU : Hid (uintF (0 :: r) most = (4, 0, [])) := hU
      clear hU
      go_wp2_with (first | (go_at_call 69; refine ks.mono ?_; rintro e w3 ⟨rfl, hx3, ho3⟩; have ce3 := hx3.xd))
      go_ret
      refine ⟨?_, ?_, ho02.trans ho3⟩
      · rw [HU.out]; rfl
      · rw [HU.out]; exact hx3
    · rw [if_neg hm] at hU
      have HU : Hid (uintF (0 :: r) most = (0, 0, r)) := hU
      have hd : decide (most < 0) = false := by simpa using hm
      clear hU
      go_wp2
      go_ret
      refine ⟨?_, ?_, ho02⟩
      · rw [HU.out]; rfl
      · rw [HU.out]; exact hx2

end Go.Proofs.YtganajmhdpiipaaGreatDoor.Vf

namespace Go.Proofs.YtganajmhdpiipaaGreatDoor.Vf
open Go.RowKit

theorem HBN.get {w : World} {g b o n c : Nat} {l : List UInt8} (h : HBN w g (.slice (some ⟨b, o, none⟩) n c) l) (k : Nat) (d : UInt8) (hk : l[k]? = some d) : w.cell? ⟨b, o + k, none⟩ = some (.int .u8 (d.toNat : Int)) := by
  have hlt : k < l.length := (List.getElem?_eq_some_iff.1 hk).1
  have hl := h.1.len.1
  obtain ⟨b', o', e, hc⟩ := h.1.addr (by omega)
  simp only [Option.some.injEq, Addr.mk.injEq, and_true] at e
  obtain ⟨rfl, rfl⟩ := e
  exact hc k d hk

set_option maxRecDepth 100000 in
set_option maxHeartbeats 4000000 in
theorem xuint_pos (g : Nat) (x : UInt8) (r : List UInt8) (most : Int) (w : World) (h : XR w g (x :: r) 0) (hsz : (x :: r).length ≤ 140737488355328) (hx1 : 1 ≤ x.toNat) (h8 : x.toNat ≤ 8) (hs : x.toNat ≤ r.length) : Calls Tryz.prog 53 #[.pointer (some ⟨g, 0, none⟩), .int .i64 most] w (XSaid g w (x :: r) most) := by
  have k := take_one g x r w h hsz
  have hx := x.toNat_lt
  have h82 : (x.toNat : Int) ≤ 8 := by omega
  have hrem : (x.toNat : Int).tmod 9 = (x.toNat : Int) := by rw [Int.tmod_eq_emod_of_nonneg (by omega)]; omega
  have hrem2 : (x.toNat : Int) % 9 = (x.toNat : Int) := by omega
  have hszr : r.length ≤ 140737488355328 := by simp at hsz; omega
  obtain ⟨D, hD⟩ : ∃ D, D = r.take x.toNat := ⟨_, rfl⟩
  obtain ⟨R, hR⟩ : ∃ R, R = r.drop x.toNat := ⟨_, rfl⟩
  have hDl : D.length = x.toNat := by rw [hD, List.length_take]; omega
  obtain ⟨d0, D', hDD⟩ : ∃ d0 D', D = d0 :: D' := by
    cases D with
    | nil => simp at hDl; omega
    | cons d0 D' => exact ⟨d0, D', rfl⟩
  have hd0 := d0.toNat_lt
  have hV8 : valL D < 18446744073709551616 := by
    have h1 := valL_lt D
    have h2 : (256 : Nat) ^ D.length ≤ 256 ^ 8 := Nat.pow_le_pow_right (by omega) (by omega)
    have h3 : (256 : Nat) ^ 8 = 18446744073709551616 := by decide
    omega
  have hU : uintF (x :: r) most = if d0 = 0 then (5, 0, []) else if 4611686018427387904 < valL D then (5, 0, []) else if most < (valL D : Int) then (4, 0, []) else (0, valL D, R) := by
    simp only [uintF]
    rw [if_neg (by omega), if_neg (by omega), ← hD, ← hR]
    by_cases hz : d0 = 0
    · rw [if_pos (by rw [hDD, hz]; rfl), if_pos hz]
    · rw [if_neg (by rw [hDD]; simp; exact hz), if_neg hz]
  have hDn : ∀ k, k < x.toNat → ∃ d, Hid (D[k]? = some d) ∧ Hid (valL (D.take (k + 1)) = valL (D.take k) * 256 + d.toNat) ∧ (k = 0 → d = d0) := by
    intro k hk
    have gd : D[k]? = some (D[k]'(by omega)) := List.getElem?_eq_getElem (by omega)
    refine ⟨_, gd, valL_next D k _ gd, fun h0 => ?_⟩
    subst h0
    simp [hDD]
  have hDt : D.take x.toNat = D := List.take_of_length_le (by omega)
  have hvl := fun k (hk : k < x.toNat) => valL_take_lt D k (by omega)
  have kt := fun w1 (hx1 : XR w1 g r 0) => xtake_ok g r x.toNat w1 hx1 hs hszr
  rw [← hD, ← hR] at kt
  have hz7 : d0 = 0 → valL D < 72057594037927936 := by
    intro h0
    rw [hDD, h0, valL_cons]
    have h1 := valL_lt D'
    have hl : D'.length ≤ 7 := by rw [hDD] at hDl; simp at hDl; omega
    have h2 : (256 : Nat) ^ D'.length ≤ 256 ^ 7 := Nat.pow_le_pow_right (by omega) hl
    have h3 : (256 : Nat) ^ 7 = 72057594037927936 := by decide
    simp
    omega
  clear h hsz hD hR hDD
  go_enter Tryz.func53, Tryz.ntmps53
  go_wp2_with fail
  refine k.mono ?_
  rintro e w1 ⟨b, o, d, rfl, hbg, hc1, hx1, ho1⟩
  clear k
  go_wp2_with fail
  refine (kt _ hx1).mono ?_
  rintro e w2 ⟨p2, c2, rfl, hd2, hx2, ho2⟩
  have ho02 := ho1.trans ho2
  obtain ⟨b2, o2, rfl, hcc⟩ := hd2.1.addr (by omega)
  clear kt hc1 hx1 ho1 ho2 hcc
  by_cases hz : d0 = 0
  · rw [if_pos hz] at hU
    have HU : Hid (uintF (x :: r) most = (5, 0, [])) := hU
    have hV7 := hz7 hz
    clear hU hz7
    go_wp2
    go_loopw [7, 30] (fun n i wr => ∃ k : Nat, k ≤ x.toNat ∧ i = .int .i64 k ∧ n = .int .u64 (valL (D.take k) : Int) ∧ HBN wr g (.slice (some ⟨b2, o2, none⟩) x.toNat c2) D ∧ Only g w wr ∧ (k = 0 → XR wr g R 0) ∧ (0 < k → XR wr g [] 5)) (fun _ i _ => x.toNat - (intOf i).toNat)
    case atStart => exact ⟨0, Nat.zero_le _, rfl, rfl, hd2, ho02, fun _ => hx2, fun h => absurd h (by omega)⟩
    case round =>
      clear hd2 hx2 ho02
      obtain ⟨k, hk, rfl, rfl, hd2, ho02, hk0, hk1⟩ := hrel
      by_cases hlt : k < x.toNat
      · obtain ⟨d, gd, HV, hdd⟩ := hDn k hlt
        have cdk := HBN.get hd2 k d gd.out
        have hvk := hvl k hlt
        generalize valL (D.take k) = V at *
        have hd := d.toNat_lt
        have hlt2 : (k : Int) < (x.toNat : Int) := by omega
        by_cases h0 : k = 0
        · obtain rfl := hdd h0
          have kf := xfail_first g R 5 wr (hk0 h0)
          subst h0
          subst hz
          simp only [UInt8.toNat_zero, Nat.add_zero] at cdk
          rw [show ((0 : Nat) : Int) = 0 from rfl]
          clear hk0 hk1 hdd
          go_wp2_with (first | (go_at_call 69; refine kf.mono ?_; rintro e w4 ⟨rfl, hx4, ho4⟩; have hd4 := hd2.only ho4; have ho04 := ho02.trans ho4; clear hd2 ho02))
          refine ⟨⟨1, by omega, by go_num, ?_, hd4, ho04, fun h => absurd h (by omega), fun _ => hx4⟩, by simp [intOf]; omega⟩
          have := HV.out
          simp only [UInt8.toNat_zero] at this
          rw [show (0 : Nat) + 1 = 1 from rfl] at this
          congr 1
          omega
        · have h0' : ¬ (k : Int) = 0 := by omega
          have h0b : ((k : Int) == 0) = false := by simpa using h0'
          have hx5 := hk1 (by omega)
          clear hk0 hk1 hdd
          go_wp2
          refine ⟨⟨k + 1, by omega, by go_num, ?_, hd2, ho02, fun h => absurd h (by omega), fun _ => hx5⟩, by simp [intOf]; omega⟩
          have := HV.out
          congr 1
          omega
      · obtain rfl : k = x.toNat := by omega
        rw [hDt]
        have hx5 := hk1 (by omega)
        have ks := xfail_stays g [] 5 4 wr hx5 (by decide)
        have ce := hx5.xd
        clear hk0 hk1 hDn hDt hvl
        generalize valL D = V at *
        have hV2 : (V : Int) ≤ 4611686018427387904 := by omega
        by_cases hm : most < (V : Int)
        · go_wp2_with (first | (go_at_call 69; refine ks.mono ?_; rintro e w3 ⟨rfl, hw⟩; have hw2 := hw.symm; clear hw; subst hw2))
          go_ret
          refine ⟨?_, ?_, ho02⟩
          · rw [HU.out]; rfl
          · rw [HU.out]; exact hx5
        · have hd : decide (most < (V : Int)) = false := by simpa using hm
          go_wp2
          go_ret
          refine ⟨?_, ?_, ho02⟩
          · rw [HU.out]; rfl
          · rw [HU.out]; exact hx5
  · rw [if_neg hz] at hU
    have hzI : ¬ (d0.toNat : Int) = 0 := fun e => hz (UInt8.toNat_inj.1 (by simp; omega))
    clear hz7
    go_wp2
    go_loopw [7, 30] (fun n i wr => ∃ k : Nat, k ≤ x.toNat ∧ i = .int .i64 k ∧ n = .int .u64 (valL (D.take k) : Int) ∧ w2 = wr) (fun _ i _ => x.toNat - (intOf i).toNat)
    case atStart => exact ⟨0, Nat.zero_le _, rfl, rfl, rfl⟩
    case round =>
      obtain ⟨k, hk, rfl, rfl, rfl⟩ := hrel
      by_cases hlt : k < x.toNat
      · obtain ⟨d, gd, HV, hdd⟩ := hDn k hlt
        have cdk := HBN.get hd2 k d gd.out
        have hvk := hvl k hlt
        generalize valL (D.take k) = V at *
        have hd := d.toNat_lt
        have hlt2 : (k : Int) < (x.toNat : Int) := by omega
        by_cases h0 : k = 0
        · obtain rfl := hdd h0
          subst h0
          have hzb : ((d.toNat : Int) == 0) = false := by simpa using hzI
          simp only [Nat.add_zero] at cdk
          rw [show ((0 : Nat) : Int) = 0 from rfl]
          clear hdd
          go_wp2
          refine ⟨⟨1, by omega, by go_num, ?_, trivial⟩, by simp [intOf]; omega⟩
          have := HV.out
          rw [show (0 : Nat) + 1 = 1 from rfl] at this
          congr 1
          omega
        · have h0' : ¬ (k : Int) = 0 := by omega
          have h0b : ((k : Int) == 0) = false := by simpa using h0'
          clear hdd
          go_wp2
          refine ⟨⟨k + 1, by omega, by go_num, ?_, trivial⟩, by simp [intOf]; omega⟩
          have := HV.out
          congr 1
          omega
      · obtain rfl : k = x.toNat := by omega
        rw [hDt]
        have ce := hx2.xd
        clear hDn hDt hvl
        generalize valL D = V at *
        by_cases hbig : 4611686018427387904 < V
        · rw [if_pos hbig] at hU
          have HU : Hid (uintF (x :: r) most = (5, 0, [])) := hU
          have hb2 : (4611686018427387904 : Int) < (V : Int) := by omega
          have kf := xfail_first g R 5 w2 hx2
          clear hU
          go_wp2_with fail
          refine kf.mono ?_
          rintro e w4 ⟨rfl, hx4, ho4⟩
          have ho04 := ho02.trans ho4
          have ks := xfail_stays g [] 5 4 w4 hx4 (by decide)
          have ce4 := hx4.xd
          clear kf ce hx2 ho02 ho4 hd2
          go_wp2_with (first | (go_at_call 69; refine ks.mono ?_; rintro e w3 ⟨rfl, hw⟩; have hw2 := hw.symm; clear hw; subst hw2))
          all_goals
            go_ret
            refine ⟨?_, ?_, ho04⟩
            · rw [HU.out]; rfl
            · rw [HU.out]; exact hx4
        · rw [if_neg hbig] at hU
          have hb2 : (V : Int) ≤ 4611686018427387904 := by omega
          by_cases hm : most < (V : Int)
          · rw [if_pos hm] at hU
            have HU : Hid (uintF (x :: r) most = (4, 0, [])) := hU
            have kf := xfail_first g R 4 w2 hx2
            clear hU
            go_wp2_with (first | (go_at_call 69; refine kf.mono ?_; rintro e w4 ⟨rfl, hx4, ho4⟩; have ce4 := hx4.xd))
            go_ret
            refine ⟨?_, ?_, ho02.trans ho4⟩
            · rw [HU.out]; rfl
            · rw [HU.out]; exact hx4
          · rw [if_neg hm] at hU
            have HU : Hid (uintF (x :: r) most = (0, V, R)) := hU
            have hd : decide (most < (V : Int)) = false := by simpa using hm
            clear hU
            go_wp2
            go_ret
            refine ⟨?_, ?_, ho02⟩
            · rw [HU.out]; rfl
            · rw [HU.out]; exact hx2

theorem xuint_any (g : Nat) (l : List UInt8) (most : Int) (w : World) (h : XR w g l 0) (hsz : l.length ≤ 140737488355328) : Calls Tryz.prog 53 #[.pointer (some ⟨g, 0, none⟩), .int .i64 most] w (XSaid g w l most) := by
  cases l with
  | nil => exact xuint_nil g most w h
  | cons x r =>
    by_cases h8 : 8 < x.toNat
    · exact xuint_big g x r most w h hsz h8
    · by_cases hs : r.length < x.toNat
      · exact xuint_short g x r most w h hsz (by omega) hs
      · by_cases h0 : x.toNat = 0
        · obtain rfl : x = 0 := UInt8.toNat_inj.1 (by simpa using h0)
          exact xuint_zero g r most w h hsz
        · exact xuint_pos g x r most w h hsz (by omega) (by omega) (by omega)

end Go.Proofs.YtganajmhdpiipaaGreatDoor.Vf
