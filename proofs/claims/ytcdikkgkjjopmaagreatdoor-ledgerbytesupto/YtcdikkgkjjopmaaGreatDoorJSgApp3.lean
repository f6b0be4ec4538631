/- What this text proves: the walks of seglog's Append over this program: no record, no room, and a record that goes in, with the records that the log has then (the device lives). -/
import Derived.Test.YtcdikkgkjjopmaaGreatDoorJL1
namespace Go.Proofs.YtcdikkgkjjopmaaGreatDoor
open Go.RowKit

set_option maxRecDepth 100000 in
set_option maxHeartbeats 800000 in
theorem append_arg {g bd n k : Nat} {rs : Value} {b : List UInt8} {p : Option Addr} {cp : Nat} {w : World} (h : LB w g bd (n : Int) (k : Int) rs false) (hb : ¬ (1 ≤ b.length ∧ b.length ≤ 4000)) :
    Calls Tryz.prog 51 #[.pointer (some ⟨g, 0, none⟩), .slice p b.length cp] w fun e w' => e = .returned (.int .i64 1) ∧ w' = w := by
  obtain ⟨c0, c1, c2, c3, c4⟩ := h.cells
  have hMs := smiss_no g bd w c0
  have hCn := scan_any (b.length : Int) w
  rw [decide_eq_false (by omega)] at hCn
  go_enter Tryz.func51, Tryz.ntmps51
  go_wp2_with (first
    | (go_at_call 69; refine hMs.mono ?_; rintro e w1 ⟨rfl, rfl⟩)
    | (go_at_call 70; refine hCn.mono ?_; rintro e w1 ⟨rfl, rfl⟩))
  go_ret
  exact ⟨rfl, rfl⟩

set_option maxRecDepth 100000 in
set_option maxHeartbeats 1600000 in
theorem append_full {g bd N k : Nat} {rs : Value} {b : List UInt8} {p : Option Addr} {cp : Nat} {w : World} (h : LB w g bd (N : Int) (k : Int) rs false) (hb0 : 1 ≤ b.length) (hb : b.length ≤ 4000) (hk : N < k + (tsec b.length + 1)) (hN : N ≤ 16384 ∧ k ≤ N) :
    Calls Tryz.prog 51 #[.pointer (some ⟨g, 0, none⟩), .slice p b.length cp] w fun e w' => e = .returned (.int .i64 4) ∧ Below w.heap.size w w' := by
  obtain ⟨c0, c1, c2, c3, c4⟩ := h.cells
  have hMs := smiss_no g bd w c0
  have hCn := scan_any (b.length : Int) w
  rw [decide_eq_true (by omega)] at hCn
  have hTk := fun W => taken_any b.length (by omega) W
  have ht : tsec b.length + 1 ≤ 100 := by unfold tsec; omega
  generalize tsec b.length + 1 = t at *
  have hwn : IntKind.i64.wrap ((N : Int) - (k : Int)) = (N : Int) - (k : Int) := wrapM _ (by have := hN.1; have := hN.2; omega) (by have := hN.1; omega)
  have hroom : (t : Int) > (N : Int) - (k : Int) := by omega
  clear h
  go_enter Tryz.func51, Tryz.ntmps51
  go_wp2_with (first
    | (go_at_call 69; refine hMs.mono ?_; rintro e w1 ⟨rfl, rfl⟩)
    | (go_at_call 70; refine hCn.mono ?_; rintro e w1 ⟨rfl, rfl⟩))
  go_region_with (go_at_call 71; refine (hTk _).mono ?_; rintro e w3 ⟨rfl, rfl⟩)
  all_goals
    go_wp2
    go_ret
    exact ⟨rfl, (Below.refl _ _).drew⟩

set_option maxRecDepth 100000 in
set_option maxHeartbeats 3200000 in
theorem append_log {g bd bn bm N c k cr base : Nat} {pr : Option Addr} {s : DevS} {b : List UInt8} {ls : List (List UInt8)} {p : Option Addr} {cp : Nat} {w : World} (h : LB w g bd (N : Int) (k : Int) (.slice pr ls.length cr) false) (ho : RB w base (.slice pr ls.length cr) ls) (hbase : base ≤ w.heap.size) (hd : Dev w bd bn bm s) (ha : Alive s N c) (hT : Tabs w) (hlow : 3 ≤ bd ∧ 3 ≤ bn ∧ 3 ≤ bm) (hv : HB w (.slice p b.length cp) b) (hvb : ∀ a, p = some a → a.block ≠ bd ∧ a.block ≠ bn ∧ a.block ≠ bm) (hb0 : 1 ≤ b.length) (hb : b.length ≤ 4000) (hk : k + (tsec b.length + 1) ≤ N) (hN : N ≤ 16384) (hc : c + 1000 ≤ 1099511627776) (hr : ls.length ≤ 1000000) :
    Calls Tryz.prog 51 #[.pointer (some ⟨g, 0, none⟩), .slice p b.length cp] w fun e w' => e = .returned (.int .i64 0) ∧ ∃ s' bm' rs', Dev w' bd bn bm' s' ∧ Alive s' N (c + 200) ∧ (bm' = bm ∨ w.heap.size ≤ bm') ∧ LB w' g bd (N : Int) ((k + (tsec b.length + 1) : Nat) : Int) rs' false ∧ RB w' base rs' (ls ++ [b]) ∧ Part (fun q => q = bd ∨ q = bn ∨ q = bm ∨ q = g ∨ some q = (Value.slice pr ls.length cr).ownBlock) w w' := by
  obtain ⟨c0, c1, c2, c3, c4⟩ := h.cells
  have hMs := smiss_no g bd w c0
  have hCn := scan_any (b.length : Int) w
  rw [decide_eq_true (by omega)] at hCn
  have hTk := fun W => taken_any b.length (by omega) W
  have hdr : Below w.heap.size w w.drew := (Below.refl _ _).drew
  have hP := put_ok (h.same (hdr.block _ h.lt)) (hd.later hdr) ha (hT.later hdr) hlow (hv.later hdr) hb hk hN hc hr
  have hne := h.ne hd
  obtain ⟨vs, ho1, ho2⟩ := id ho
  have hon := own_ne ho1 hd
  have hol := own_lt ho1
  have hdS : ∀ w1, Part (fun q => q = bd ∨ q = bn ∨ q = bm) w.drew w1 → Sty 5 w w1 := fun w1 hp => (Sty.of_below hdr).trans (Sty.of_part hp (by
    have h1 := (hd.later hdr).db
    obtain ⟨cs, h2, _⟩ := (hd.later hdr).sr
    obtain ⟨D, ⟨es, clock, h3, _⟩, _⟩ := (hd.later hdr).dm
    unfold DB at h1
    rintro q cur fr (rfl | rfl | rfl) hq
    · rw [h1] at hq; simp at hq
    · rw [h2] at hq; simp at hq
    · rw [h3] at hq; simp at hq))
  have hAll : ∀ w1, Part (fun q => q = bd ∨ q = bn ∨ q = bm) w.drew w1 → LB w1 g bd (N : Int) (k : Int) (.slice pr ls.length cr) false ∧ RB w1 base (.slice pr ls.length cr) ls ∧ HB w1 (.slice p b.length cp) b := fun w1 hp => by
    refine ⟨(h.same (hdr.block _ h.lt)).same (hp.2 _ h.lt (by rintro (e | e | e); exact hne.1 e; exact hne.2.1 e; exact hne.2.2 e)), ho.keep (hdS w1 hp) (fun q hq => hp.2 _ (hol q hq) (by rintro (e | e | e); exact (hon q hq).1 e; exact (hon q hq).2.1 e; exact (hon q hq).2.2 e)), (hv.later hdr).part hp (fun a e => by rintro (e' | e' | e'); exact (hvb a e).1 e'; exact (hvb a e).2.1 e'; exact (hvb a e).2.2 e')⟩
  have hTK := fun (W : World) (q : Option Addr) (d : Nat) (l : LB W g bd (N : Int) (k : Int) (.slice pr ls.length cr) false) (o : RB W base (.slice pr ls.length cr) ls) (hs : w.heap.size ≤ W.heap.size) (hx : HB W (.slice q b.length d) b) (hy : BY W (.slice q b.length d)) => take_log l o (by omega) hr hb (by omega) hx hy
  have ht : tsec b.length + 1 ≤ 100 := by unfold tsec; omega
  generalize tsec b.length + 1 = t at *
  have hwn : IntKind.i64.wrap ((N : Int) - (k : Int)) = (N : Int) - (k : Int) := wrapM _ (by omega) (by omega)
  have hroom : ¬ ((t : Int) > (N : Int) - (k : Int)) := by omega
  clear hd hT hv ho ho1 ho2 hdS
  go_enter Tryz.func51, Tryz.ntmps51
  go_wp2_with (first
    | (go_at_call 69; refine hMs.mono ?_; rintro e w1 ⟨rfl, rfl⟩)
    | (go_at_call 70; refine hCn.mono ?_; rintro e w1 ⟨rfl, rfl⟩))
  go_region_with (go_at_call 71; refine (hTk _).mono ?_; rintro e w3 ⟨rfl, rfl⟩)
  all_goals
    have hs0 : w1.drew.heap.size = w1.heap.size := rfl
    go_wp2_with (first
      | (go_at_call 72; refine hP.mono ?_; rintro e w4 ⟨rfl, s4, bm4, hd4, ha4, hbm4, hp4⟩; obtain ⟨l4, o4, v4⟩ := hAll w4 hp4; have hs4 : w1.heap.size ≤ w4.heap.size := hp4.size; have hCl := clone_own _ b w4 v4 (by omega))
      | (go_at_call 35; refine hCl.mono ?_; rintro e w5 ⟨p5, c5, rfl, o5, hb5⟩; have hT5 := hTK w5 p5 c5 (l4.same (hb5.block _ l4.lt)) (o4.later hb5) (Nat.le_trans hs4 hb5.size) (HB.of_owns o5) (own_by o5))
      | (go_at_call 65; refine hT5.mono ?_; rintro e w6 ⟨rfl, rs6, l6, o6, hp6⟩))
    go_ret
    obtain ⟨vs4, oo4, _⟩ := o4
    have hd5 := hd4.later hb5
    have hd6 := hd5.part hp6 (by
      have n1 := (l4.same (hb5.block _ l4.lt)).ne hd5
      have n2 := own_ne (owns_later oo4 hb5) hd5
      refine ⟨?_, ?_, ?_⟩ <;> rintro (e | e)
      · exact n1.1 e.symm
      · exact (n2 _ e.symm).1 rfl
      · exact n1.2.1 e.symm
      · exact (n2 _ e.symm).2.1 rfl
      · exact n1.2.2 e.symm
      · exact (n2 _ e.symm).2.2 rfl)
    refine ⟨rfl, s4, bm4, rs6, hd6, ha4, hbm4, l6, o6, ?_⟩
    have P1 : Part (fun q => q = bd ∨ q = bn ∨ q = bm ∨ q = g ∨ some q = (Value.slice pr ls.length cr).ownBlock) w1 w4 := (Part.refl _ w1).drew.trans hp4 (by rintro q _ (e | e | e); exact .inl e; exact .inr (.inl e); exact .inr (.inr (.inl e)))
    exact (P1.trans (Part.of_below (S := fun _ => False) hb5) (fun _ _ e => e.elim)).trans hp6 (by rintro q _ (e | e); exact .inr (.inr (.inr (.inl e))); exact .inr (.inr (.inr (.inr e))))

end Go.Proofs.YtcdikkgkjjopmaaGreatDoor
