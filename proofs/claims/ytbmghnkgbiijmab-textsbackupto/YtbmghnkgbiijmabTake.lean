/- What this text proves: the walk of texts.take over this program: the part that bytes begin with, in new memory, and what stands behind it, or the error where they end too early. -/
import Derived.Test.YtbmghnkgbiijmabEqual
import Derived.Test.YtbmghnkgbiijmabPlain
import Derived.Test.YtbmghnkgbiijmabLaws
import Derived.BigQuiet
namespace Go.Proofs.Ytbmghnkgbiijmab
open Go.RowKit

set_option maxHeartbeats 400000 in
theorem take_short (v : Value) (l : List UInt8) (w : World) (h : HB w v l) (hl : l.length < 2) :
    Calls Try.prog 11 #[v] w fun e w' => e = .returned (.tuple #[.slice none 0 0, .slice none 0 0, .int .i64 3]) ∧ w' = w := by
  obtain ⟨p, c, rfl⟩ := h.shape
  clear h
  go_enter Try.func11, Try.ntmps11
  go_wp2
  go_ret3
  exact ⟨rfl, rfl⟩

set_option maxHeartbeats 400000 in
theorem take_long (v : Value) (a b : UInt8) (r : List UInt8) (w : World) (h : HB w v (a :: b :: r)) (hl : r.length < a.toNat * 256 + b.toNat) :
    Calls Try.prog 11 #[v] w fun e w' => e = .returned (.tuple #[.slice none 0 0, .slice none 0 0, .int .i64 3]) ∧ Below w.heap.size w w' := by
  obtain ⟨p, c, rfl⟩ := h.shape
  obtain ⟨b', o, rfl, hc⟩ := h.addr (by simp)
  have hlen := h.len.2.1
  have hm := h.len.2.2.1
  unfold maxLen at hm
  have c0 := hc 0 a rfl
  have c1 := hc 1 b rfl
  unfold bc at c0 c1
  have ha := a.toNat_lt
  have hb := b.toNat_lt
  simp only [Nat.add_zero] at c0
  clear hc h
  go_enter Try.func11, Try.ntmps11
  go_wp2
  go_region
  go_wp2
  go_ret3
  exact ⟨rfl, by repeat (first | exact Below.refl _ _ | refine Below.drew ?_)⟩

set_option maxHeartbeats 1000000 in
theorem take_ok (v : Value) (a b : UInt8) (r : List UInt8) (w : World) (h : HB w v (a :: b :: r)) (n : Nat) (hn : n = a.toNat * 256 + b.toNat) (hl : n ≤ r.length) :
    Calls Try.prog 11 #[v] w fun e w' => ∃ v1 p2 n2 c2, e = .returned (.tuple #[v1, .slice p2 n2 c2, .int .i64 0]) ∧ w'.ownsRow w.heap.size 5 1 v1 n (bcs (r.take n)) ∧ (∀ W, HB W v (a :: b :: r) → HB W (.slice p2 n2 c2) (r.drop n)) ∧ Below w.heap.size w w' := by
  obtain ⟨p, c, rfl⟩ := h.shape
  obtain ⟨b', o, rfl, hc⟩ := h.addr (by simp)
  have hlen := h.len.2.1
  have hm := h.len.2.2.1
  unfold maxLen at hm
  simp only [List.length_cons] at hlen
  have c0 := hc 0 a rfl
  have c1 := hc 1 b rfl
  unfold bc at c0 c1
  have ha := a.toNat_lt
  have hb := b.toNat_lt
  simp only [Nat.add_zero] at c0
  obtain ⟨i0, hi, hz0, hz1, hz2⟩ := info_parts i_u8
  have hk : n ≤ 65535 := by omega
  have k3 : ∀ w, (Instr.slice 23 (.slice (some ⟨b', o, none⟩) (r.length + 1 + 1) c) (some (.int .i64 2)) (some (.int .i64 (2 + (a.toNat : Int) * 256 + (b.toNat : Int)))) (some (.int .i64 (2 + (a.toNat : Int) * 256 + (b.toNat : Int))))).run Try.prog w = .ok (.slice (cutP (some ⟨b', o, none⟩) (n + 2) 2) n n) w := by
    intro w
    have := run_cut3 (P := Try.prog) Try.underlying23 s_u8 (some ⟨b', o, none⟩) (r.length + 1 + 1) c 2 (n + 2) (n + 2) 2 (2 + (a.toNat : Int) * 256 + (b.toNat : Int)) (2 + (a.toNat : Int) * 256 + (b.toNat : Int)) rfl (by omega) (by omega) (by omega) (Nat.le_refl _) (by omega) w
    simpa using this
  have k1 : ∀ w, (Instr.slice 23 (.slice (some ⟨b', o, none⟩) (r.length + 1 + 1) c) (some (.int .i64 (2 + (a.toNat : Int) * 256 + (b.toNat : Int)))) none none).run Try.prog w = .ok (.slice (cutP (some ⟨b', o, none⟩) c (n + 2)) (r.length - n) (c - (n + 2))) w := by
    intro w
    have := run_cut (P := Try.prog) Try.underlying23 s_u8 (some ⟨b', o, none⟩) (r.length + 1 + 1) c (n + 2) (2 + (a.toNat : Int) * 256 + (b.toNat : Int)) (by omega) (by omega) w
    rw [this, show r.length + 1 + 1 - (n + 2) = r.length - n by omega]
  have hsrc : HB w (.slice (cutP (some ⟨b', o, none⟩) (n + 2) 2) n n) (r.take n) := by
    have := h.cut 2 (n + 2) (n + 2) (by omega) (by simp; omega) (Nat.le_refl _) (by omega)
    simpa using this
  have hrest : Hid (∀ W, HB W (.slice (some ⟨b', o, none⟩) (r.length + 1 + 1) c) (a :: b :: r) → HB W (.slice (cutP (some ⟨b', o, none⟩) c (n + 2)) (r.length - n) (c - (n + 2))) (r.drop n)) := by
    intro W h
    have := h.behind (n + 2) (by omega)
    simpa using this
  have HN : Hid (n = a.toNat * 256 + b.toNat) := hn
  have hn2 : 2 + (a.toNat : Int) * 256 + (b.toNat : Int) ≤ (r.length : Int) + 1 + 1 := by omega
  clear hc h hn
  go_enter Try.func11, Try.ntmps11
  go_wp2
  go_region
  go_wp2_with (first | (at_make; refine wpList_make_full _ rfl _ _ 23 rfl w.heap.size 5 i0 (.int .u8 0) 1 Try.underlying23 hi hz0 hz1 .i64 .i64 _ _ n rfl rfl ?qa ?qb ?qc ?qd ?qe ?_))
  case qa => have := HN.out; omega
  case qb => have := HN.out; omega
  case qc => rw [hz2]; omega
  case qd => unfold maxLen; omega
  case qe => exact Nat.le_refl _
  intro w1 hown1 hgrow1
  have hb1 : Below w.heap.size w w1 := (Below.refl _ w).drew.grown hgrow1 (Nat.le_refl _) (by intro k hk; cases hk)
  have hs1 := hsrc.later hb1
  clear hsrc hgrow1 c0 c1
  go_wp2_with (refine wpList_copy_hb rfl (.tmp 28) (.tmp 32) 23 23 rfl 5 Try.underlying23 s_u8 w.heap.size n _ _ _ rfl rfl w.heap.size _ hown1 (r.take n) hs1 rfl ?_)
  intro w2 hown2 hgrow2
  have hb2 : Below w.heap.size w w2 := hb1.grown hgrow2 hb1.size (by intro k hk; cases hk; exact Nat.le_refl _)
  clear hs1 hown1 hgrow2 hb1 k3
  go_wp2
  go_region
  go_wp2
  go_ret3
  exact ⟨_, _, _, _, rfl, hown2, hrest.out, hb2.drew⟩

/-- What take answers: its value and the world behind it. -/
def TakeSaid (v : Value) (w : World) (l : List UInt8) (e : Ending) (w' : World) : Prop :=
  (takeF l = none ∧ e = .returned (.tuple #[.slice none 0 0, .slice none 0 0, .int .i64 3]) ∧ Below w.heap.size w w') ∨
  ∃ p r v1 p2 n2 c2, takeF l = some (p, r) ∧ e = .returned (.tuple #[v1, .slice p2 n2 c2, .int .i64 0]) ∧ w'.ownsRow w.heap.size 5 1 v1 p.length (bcs p) ∧ (∀ W, HB W v l → HB W (.slice p2 n2 c2) r) ∧ Below w.heap.size w w'

theorem take_any (v : Value) (l : List UInt8) (w : World) (h : HB w v l) : Calls Try.prog 11 #[v] w (TakeSaid v w l) := by
  match l, h with
  | [], h => exact (take_short v _ w h (by simp)).mono fun e w' ⟨he, hw⟩ => .inl ⟨rfl, he, by subst hw; exact Below.refl _ _⟩
  | [a], h => exact (take_short v _ w h (by simp)).mono fun e w' ⟨he, hw⟩ => .inl ⟨rfl, he, by subst hw; exact Below.refl _ _⟩
  | a :: b :: r, h =>
    by_cases hl : a.toNat * 256 + b.toNat ≤ r.length
    · refine (take_ok v a b r w h _ rfl hl).mono fun e w' ⟨v1, p2, n2, c2, he, ho, hh, hb⟩ => .inr ⟨_, _, v1, p2, n2, c2, by simp only [takeF]; rw [if_pos hl], he, ?_, hh, hb⟩
      rwa [List.length_take, Nat.min_eq_left hl]
    · exact (take_long v a b r w h (by omega)).mono fun e w' ⟨he, hb⟩ => .inl ⟨by simp only [takeF]; rw [if_neg hl], he, hb⟩

theorem take_none (v : Value) (l : List UInt8) (w : World) (h : HB w v l) (ht : takeF l = none) :
    Calls Try.prog 11 #[v] w fun e w' => e = .returned (.tuple #[.slice none 0 0, .slice none 0 0, .int .i64 3]) ∧ Below w.heap.size w w' := by
  refine (take_any v l w h).mono fun e w' hs => ?_
  rcases hs with ⟨_, he, hb⟩ | ⟨p, r, v1, p2, n2, c2, he, _⟩
  · exact ⟨he, hb⟩
  · rw [ht] at he
    cases he

theorem take_some (v : Value) (l p r : List UInt8) (w : World) (h : HB w v l) (ht : takeF l = some (p, r)) :
    Calls Try.prog 11 #[v] w fun e w' => ∃ p1 c1 p2 c2, e = .returned (.tuple #[.slice p1 p.length c1, .slice p2 r.length c2, .int .i64 0]) ∧ w'.ownsRow w.heap.size 5 1 (.slice p1 p.length c1) p.length (bcs p) ∧ (∀ W, HB W v l → HB W (.slice p2 r.length c2) r) ∧ Below w.heap.size w w' := by
  refine (take_any v l w h).mono fun e w' hs => ?_
  rcases hs with ⟨he, _⟩ | ⟨p', r', v1, p2, n2, c2, he, e1, ho, hh, hb⟩
  · rw [ht] at he
    cases he
  · rw [ht] at he
    cases he
    have hn := (hh w h).len.1
    subst hn
    obtain ⟨p1, c1, hv⟩ := (HB.of_owns ho).shape
    subst hv
    exact ⟨p1, c1, p2, c2, e1, ho, hh, hb⟩

end Go.Proofs.Ytbmghnkgbiijmab
