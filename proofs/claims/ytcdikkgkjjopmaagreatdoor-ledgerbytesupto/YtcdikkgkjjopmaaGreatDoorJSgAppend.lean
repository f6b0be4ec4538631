/- What this text proves: the walk of seglog's Append over this program, where the record has room and the device lives. -/
import Derived.Test.YtcdikkgkjjopmaaGreatDoorJW1
import Derived.Test.YtcdikkgkjjopmaaGreatDoorJSgTake
import Derived.Test.YtcdikkgkjjopmaaGreatDoorJC1
namespace Go.Proofs.YtcdikkgkjjopmaaGreatDoor
open Go.RowKit

theorem cell_in {w : World} {b i : Nat} {v : Value} (h : w.cell? ⟨b, i, none⟩ = some v) : b < w.heap.size := by
  rcases Nat.lt_or_ge b w.heap.size with h1 | h1
  · exact h1
  · have : w.heap[b]? = none := Array.getElem?_eq_none h1
    simp [World.cell?, this] at h
theorem own_some {w : World} {base n : Nat} {v : Value} {xs : List Value} (h : w.ownsRow base 27 1 v (n + 1) xs) : ∃ g c, v = .slice (some ⟨g, 0, none⟩) (n + 1) c := by
  rcases h.2 with h0 | ⟨g, cap, cur, rfl, _⟩
  · have := h0.2
    omega
  · exact ⟨g, cap, rfl⟩
theorem owns_same {w w' : World} {base n s : Nat} {e : TypeId} {v : Value} {xs : List Value} (h : w.ownsRow base e s v n xs) (hs : ∀ b, v.ownBlock = some b → w'.heap[b]? = w.heap[b]?) : w'.ownsRow base e s v n xs := by
  refine ⟨h.1, ?_⟩
  rcases h.2 with h0 | ⟨g', cap, cur, he, hb, hg, rest⟩
  · exact .inl h0
  · refine .inr ⟨g', cap, cur, he, hb, (hs g' (by rw [he]; rfl)).trans hg, rest⟩
theorem HB.part {w w' : World} {p : Option Addr} {n c : Nat} {l : List UInt8} {S : Nat → Prop} (h : HB w (.slice p n c) l) (hp : Part S w w') (hS : ∀ a, p = some a → ¬ S a.block) : HB w' (.slice p n c) l := by
  obtain ⟨p', cap, e, h1, h2, h3, h4⟩ := h
  simp only [Value.slice.injEq] at e
  obtain ⟨rfl, rfl, rfl⟩ := e
  refine ⟨p, c, rfl, h1, h2, h3, fun hn => ?_⟩
  obtain ⟨b, o, e1, e2⟩ := h4 hn
  refine ⟨b, o, e1, fun i x hx => ?_⟩
  have hc := e2 i x hx
  rw [World.cell?_of_block (hp.2 b (cell_in hc) (hS _ e1))]
  exact hc
theorem own_ne {w : World} {base n bd bn bm : Nat} {v : Value} {xs : List Value} {s : DevS} (h : w.ownsRow base 27 1 v n xs) (hd : Dev w bd bn bm s) : ∀ b, v.ownBlock = some b → b ≠ bd ∧ b ≠ bn ∧ b ≠ bm := by
  intro b hb
  rcases h.2 with ⟨rfl, _⟩ | ⟨g, cap, cur, rfl, _, hg, _⟩
  · cases hb
  · obtain rfl : g = b := by simpa [Value.ownBlock] using hb
    have h1 := hd.db
    obtain ⟨cs, h2, _⟩ := hd.sr
    obtain ⟨D, ⟨es, clock, h3, _⟩, _⟩ := hd.dm
    unfold DB at h1
    refine ⟨?_, ?_, ?_⟩ <;> rintro rfl
    · rw [hg] at h1; simp at h1
    · rw [hg] at h2; simp at h2
    · rw [hg] at h3; simp at h3
theorem own_lt {w : World} {base n : Nat} {v : Value} {xs : List Value} (h : w.ownsRow base 27 1 v n xs) : ∀ b, v.ownBlock = some b → b < w.heap.size := by
  intro b hb
  rcases h.2 with ⟨rfl, _⟩ | ⟨g, cap, cur, rfl, _, hg, _⟩
  · cases hb
  · obtain rfl : g = b := by simpa [Value.ownBlock] using hb
    exact (Array.getElem?_eq_some_iff.1 hg).1

set_option maxRecDepth 100000 in
set_option maxHeartbeats 3200000 in
theorem append_ok {g bd bn bm N c k r cr base : Nat} {pr : Option Addr} {s : DevS} {b : List UInt8} {vs : List Value} {p : Option Addr} {cp : Nat} {w : World} (h : LB w g bd (N : Int) (k : Int) (.slice pr r cr) false) (ho : w.ownsRow base 27 1 (.slice pr r cr) r vs) (hbase : base ≤ w.heap.size) (hd : Dev w bd bn bm s) (ha : Alive s N c) (hT : Tabs w) (hlow : 3 ≤ bd ∧ 3 ≤ bn ∧ 3 ≤ bm) (hv : HB w (.slice p b.length cp) b) (hvb : ∀ a, p = some a → a.block ≠ bd ∧ a.block ≠ bn ∧ a.block ≠ bm) (hb0 : 1 ≤ b.length) (hb : b.length ≤ 4000) (hk : k + (tsec b.length + 1) ≤ N) (hN : N ≤ 16384) (hc : c + 1000 ≤ 1099511627776) (hr : r ≤ 1000000) :
    Calls Tryz.prog 51 #[.pointer (some ⟨g, 0, none⟩), .slice p b.length cp] w fun e w' => e = .returned (.int .i64 0) ∧ ∃ p' c', LB w' g bd (N : Int) ((k + (tsec b.length + 1) : Nat) : Int) (.slice p' (r + 1) c') false ∧ Part (fun q => q = bd ∨ q = bn ∨ q = bm ∨ q = g ∨ some q = (Value.slice pr r cr).ownBlock) w w' := by
  obtain ⟨c0, c1, c2, c3, c4⟩ := h.cells
  have hMs := smiss_no g bd w c0
  have hCn := scan_any (b.length : Int) w
  rw [decide_eq_true (by omega)] at hCn
  have hTk := fun W => taken_any b.length (by omega) W
  have hdr : Below w.heap.size w w.drew := (Below.refl _ _).drew
  have hP := put_ok (h.same (hdr.block _ h.lt)) (hd.later hdr) ha (hT.later hdr) hlow (hv.later hdr) hb hk hN hc hr
  have hne := h.ne hd
  have hon := own_ne ho hd
  have hol := own_lt ho
  have hAll : ∀ w1, Part (fun q => q = bd ∨ q = bn ∨ q = bm) w.drew w1 → LB w1 g bd (N : Int) (k : Int) (.slice pr r cr) false ∧ w1.ownsRow base 27 1 (.slice pr r cr) r vs ∧ HB w1 (.slice p b.length cp) b := fun w1 hp => by
    refine ⟨(h.same (hdr.block _ h.lt)).same (hp.2 _ h.lt (by rintro (e | e | e); exact hne.1 e; exact hne.2.1 e; exact hne.2.2 e)), owns_same (owns_later ho hdr) (fun q hq => hp.2 _ (hol q hq) (by rintro (e | e | e); exact (hon q hq).1 e; exact (hon q hq).2.1 e; exact (hon q hq).2.2 e)), (hv.later hdr).part hp (fun a e => by rintro (e' | e' | e'); exact (hvb a e).1 e'; exact (hvb a e).2.1 e'; exact (hvb a e).2.2 e')⟩
  have hTK := fun (W : World) (q : Option Addr) (d : Nat) (l : LB W g bd (N : Int) (k : Int) (.slice pr r cr) false) (o : W.ownsRow base 27 1 (.slice pr r cr) r vs) (hs : w.heap.size ≤ W.heap.size) => take_any (pb := q) (m := b.length) (cb := d) l o (by omega) hr hb (by omega)
  have ht : tsec b.length + 1 ≤ 100 := by unfold tsec; omega
  generalize tsec b.length + 1 = t at *
  have hwn : IntKind.i64.wrap ((N : Int) - (k : Int)) = (N : Int) - (k : Int) := wrapM _ (by omega) (by omega)
  have hroom : ¬ ((t : Int) > (N : Int) - (k : Int)) := by omega
  clear hd hT ho hv
  go_enter Tryz.func51, Tryz.ntmps51
  go_wp2_with (first
    | (go_at_call 69; refine hMs.mono ?_; rintro e w1 ⟨rfl, rfl⟩)
    | (go_at_call 70; refine hCn.mono ?_; rintro e w1 ⟨rfl, rfl⟩))
  go_region_with (go_at_call 71; refine (hTk _).mono ?_; rintro e w3 ⟨rfl, rfl⟩)
  all_goals
    have hs0 : w1.drew.heap.size = w1.heap.size := rfl
    go_wp2_with (first
      | (go_at_call 72; refine hP.mono ?_; rintro e w4 ⟨rfl, s4, bm4, hd4, ha4, hbm4, hp4⟩; obtain ⟨l4, o4, v4⟩ := hAll w4 hp4; have hs4 : w1.heap.size ≤ w4.heap.size := hp4.size; have hCl := clone_own _ b w4 v4 (by omega))
      | (go_at_call 35; refine hCl.mono ?_; rintro e w5 ⟨p5, c5, rfl, o5, hb5⟩; have hT5 := hTK w5 p5 c5 (l4.same (hb5.block _ l4.lt)) (owns_later o4 hb5) (Nat.le_trans hs4 hb5.size))
      | (go_at_call 65; refine hT5.mono ?_; rintro e w6 ⟨rfl, rs6, w7, o7, l6, hp6, hx6, hy6⟩))
    go_ret
    obtain ⟨g7, cap7, rfl⟩ := own_some o7
    refine ⟨rfl, _, _, l6, ?_⟩
    have P1 : Part (fun q => q = bd ∨ q = bn ∨ q = bm ∨ q = g ∨ some q = (Value.slice pr r cr).ownBlock) w1 w4 := (Part.refl _ w1).drew.trans hp4 (by rintro q _ (e | e | e); exact .inl e; exact .inr (.inl e); exact .inr (.inr (.inl e)))
    exact (P1.trans (Part.of_below (S := fun _ => False) hb5) (fun _ _ e => e.elim)).trans hp6 (by rintro q _ (e | e); exact .inr (.inr (.inr (.inl e))); exact .inr (.inr (.inr (.inr e))))

end Go.Proofs.YtcdikkgkjjopmaaGreatDoor
