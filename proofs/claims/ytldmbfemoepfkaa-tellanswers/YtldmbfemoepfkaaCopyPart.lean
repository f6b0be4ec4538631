/- What this text proves: laws for a walk, over any program: a copy of a longer slice of bytes over a whole row that the call owns; a copy of any slice of bytes into such a row. -/
import Derived.Test.YtldmbfemoepfkaaOwn
namespace Go.Proofs.Ytldmbfemoepfkaa
open Go.RowKit

/-- 'copy(dst, src)', dst a whole row of n bytes that the call owns, src of n bytes or more. -/
theorem wpList_copy_part {P : Program} {w : World} {ops : Array Oper} {rest : List Oper} {o : Oper} {a : Act} {Q : Exit → Act → World → Prop} (hgd : o.guard = none) (d s : Operand) (dT sT : TypeId)
    (ho : o.op = .call { callee := .builtin .copy, args := #[d, s], argTypes := #[dT, sT] }) (e : TypeId) (hu : P.underlying dT = some (.slice e)) (hsz : (P.info? e).map (·.size) = some 1)
    (g n : Nat) (p : Option Addr) (m c : Nat) (hd : a.eval d = .slice (some ⟨g, 0, none⟩) n n) (hs : a.eval s = .slice p m c)
    (base : Nat) (xs : List Value) (hown : w.ownsRow base e 1 (.slice (some ⟨g, 0, none⟩) n n) n xs) (l : List UInt8) (hsrc : HB w (.slice p m c) l) (hl : n ≤ m)
    (h : ∀ w', w'.ownsRow base e 1 (.slice (some ⟨g, 0, none⟩) n n) n (bcs (l.take n)) → w.grownBy w' (some g) → wpList P ops Q rest (a.put o.dst (goInt n)) w') : wpList P ops Q (o :: rest) a w := by
  have hm := hsrc.len.1
  rcases Nat.eq_zero_or_pos n with h0 | h0
  · subst h0
    refine wpList_copy_nothing hgd d s dT sT ho e hu hsz _ _ _ _ _ _ hd hs (Nat.min_zero m) (h w ?_ (World.grownBy.refl _ _))
    obtain ⟨q1, q2⟩ := hown
    obtain rfl : xs = [] := List.eq_nil_of_length_eq_zero (by simpa using q1)
    rw [List.take_zero]
    exact ⟨q1, q2⟩
  · obtain ⟨b, o', rfl, hc⟩ := hsrc.addr (by omega)
    obtain ⟨q1, q2⟩ := hown
    rcases q2 with ⟨q3, _⟩ | ⟨g', cap, cur, q3, hb, hg, hle, hmx, hcs, htk⟩
    · cases q3
    · simp only [Value.slice.injEq, Option.some.injEq, Addr.mk.injEq, and_true, true_and] at q3
      obtain ⟨rfl, rfl⟩ := q3
      have hlen : (bcs (l.take n)).length = n := by rw [bcs_length, List.length_take]; omega
      have hcells := (hsrc.front n hl).cells
      refine wpList_copy_own hgd d s dT sT ho e hu hsz g 0 n n ⟨b, o', none⟩ m c hd hs cur e hg (bcs (l.take n)) (by rw [hlen]; exact (Nat.min_eq_right hl).symm) hcells (by rw [hlen]; omega) (bcs_one _) ?_
      rw [hlen]
      refine h _ ⟨by rw [hlen]; omega, .inr ⟨g, n, _, rfl, hb, setRow_heap w g cur _ e (0, 0) hg, Nat.le_refl _, hmx, ?_, ?_⟩⟩ (grownBy_setRow w g _)
      · simp [hlen]
        omega
      · simp [hlen]

theorem wpList_copy_into {P : Program} {w : World} {ops : Array Oper} {rest : List Oper} {o : Oper} {a : Act} {Q : Exit → Act → World → Prop} (hgd : o.guard = none) (d s : Operand) (dT sT : TypeId)
    (ho : o.op = .call { callee := .builtin .copy, args := #[d, s], argTypes := #[dT, sT] }) (e : TypeId) (hu : P.underlying dT = some (.slice e)) (hsz : (P.info? e).map (·.size) = some 1)
    (g n : Nat) (p : Option Addr) (m c : Nat) (hd : a.eval d = .slice (some ⟨g, 0, none⟩) n n) (hs : a.eval s = .slice p m c)
    (base : Nat) (x : List UInt8) (hown : w.ownsRow base e 1 (.slice (some ⟨g, 0, none⟩) n n) n (bcs x)) (l : List UInt8) (hsrc : HB w (.slice p m c) l)
    (h : ∀ w' k, w'.ownsRow base e 1 (.slice (some ⟨g, 0, none⟩) n n) n (bcs (l.take n ++ x.drop l.length)) → w.grownBy w' (some g) → wpList P ops Q rest (a.put o.dst (goInt k)) w') : wpList P ops Q (o :: rest) a w := by
  have hm := hsrc.len.1
  have hx : x.length = n := by have := hown.1; rw [bcs_length] at this; omega
  rcases Nat.le_total m n with hle | hle
  · refine wpList_copy_front hgd d s dT sT ho e hu hsz g n p m c hd hs base (bcs x) hown l hsrc hle fun w' o' hg => h w' m ?_ hg
    rw [List.take_of_length_le (by omega), bcs_append, ← bcs_drop, ← hm]
    exact o'
  · refine wpList_copy_part hgd d s dT sT ho e hu hsz g n p m c hd hs base (bcs x) hown l hsrc hle fun w' o' hg => h w' n ?_ hg
    rw [List.drop_eq_nil_of_le (by omega), List.append_nil]
    exact o'

end Go.Proofs.Ytldmbfemoepfkaa
