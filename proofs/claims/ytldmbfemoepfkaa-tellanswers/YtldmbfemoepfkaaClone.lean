/- What this text proves: the walk of bytes.Clone over this program: the same bytes in new memory (nil stays nil). -/
import Derived.Test.YtldmbfemoepfkaaEqual
import Derived.Test.YtldmbfemoepfkaaLaws
namespace Go.Proofs.Ytldmbfemoepfkaa
open Go.RowKit

set_option maxHeartbeats 1000000 in
theorem clone_any (v : Value) (l : List UInt8) (w : World) (h : HB w v l) (hbig : l.length ≤ 140737488355328) :
    Calls Try.prog 5 #[v] w fun e w' => ∃ p c, e = .returned (.slice p l.length c) ∧ HB w' (.slice p l.length c) l ∧ Below w.heap.size w w' := by
  have q22 : ∀ (w : World) (a : Option Addr) (n c n' c' : Nat), (binOp .eql 22 (.slice a n c) (.slice none n' c')).run Try.prog w = .ok (.bool a.isNone) w := fun w a n c n' c' => Lib.run_eql_slice_nil w _ _ a n c n' c' Try.underlying22
  obtain ⟨p, c, rfl⟩ := h.shape
  cases p with
  | none =>
    have hc := h.len.2.2.2 rfl
    have hl := h.len.2.1
    subst hc
    have e : l = [] := List.eq_nil_of_length_eq_zero (by omega)
    subst e
    clear h hl hbig
    go_enter Try.func5, Try.ntmps5
    go_wp2
    go_ret
    exact ⟨none, 0, rfl, HB.nil _, Below.refl _ _⟩
  | some a =>
    have h2 : HB (w.alloc (.cells #[] 5)) (.slice (some a) l.length c) l := h.later ((Below.refl _ w).alloc (Nat.le_refl _) _)
    clear h
    go_enter Try.func5, Try.ntmps5
    go_wp2_with (at_builtin; refine wpList_append_hb rfl (.tmp 5) (.tmp 6) 22 rfl w.heap.size 5 Try.underlying22 i_u8 _ 0 [] rfl (World.ownsRow_made w #[] 0 (Nat.le_refl _) (Nat.zero_le _) rfl) _ _ _ l rfl h2 ?qa ?qb ?_)
    case qa => omega
    case qb => simp
    intro v1 w1 hown1 hgrow1
    have hb1 : Below w.heap.size w w1 := ((Below.refl _ w).alloc (Nat.le_refl _) _).grown hgrow1 (by simp) (by intro k hk; cases hk; exact Nat.le_refl _)
    have hh := HB.of_owns (by simpa using hown1 : w1.ownsRow w.heap.size 5 1 v1 l.length (bcs l))
    obtain ⟨p1, c1, hv⟩ := hh.shape
    rw [hv] at hh ⊢
    clear hv hown1 hgrow1 h2
    go_wp2
    go_ret
    exact ⟨_, _, rfl, hh, hb1⟩

end Go.Proofs.Ytldmbfemoepfkaa
