/- What this text proves: plain facts on rows of bytes that a call owns: a byte stored, a beginning, a copy behind the first bytes. -/
import Derived.Test.YtahfjemllkbpgaaGreatDoorFacts
namespace Go.Proofs.YtahfjemllkbpgaaGreatDoor
open Go.RowKit

theorem made_bcs (n : Nat) : (madeCells #[Value.int .u8 0] n).toList = bcs (List.replicate n 0) := by
  rw [toList_madeCells_one]
  simp [bcs, bc]

theorem bcs_set (l : List UInt8) (j : Nat) (x : UInt8) : (bcs l).set j (bc x) = bcs (l.set j x) := by simp [bcs, List.map_set]
theorem bcs_drop (l : List UInt8) (j : Nat) : (bcs l).drop j = bcs (l.drop j) := by simp [bcs]

/-- A byte stored into an owned row. -/
theorem owns_put {w : World} {base : Nat} {e : TypeId} {g n : Nat} {l : List UInt8} (h : w.ownsRow base e 1 (.slice (some ⟨g, 0, none⟩) n n) n (bcs l)) (j : Nat) (x : UInt8) (v : Value) (hv : v = bc x) :
    (w.setCell ⟨g, j, none⟩ v).ownsRow base e 1 (.slice (some ⟨g, 0, none⟩) n n) n (bcs (l.set j x)) := by
  subst hv
  rw [← bcs_set]
  exact (h.stored j (bc x)).1

theorem HB.front {w : World} {p : Option Addr} {n c : Nat} {l : List UInt8} (h : HB w (.slice p n c) l) (k : Nat) (hk : k ≤ n) : HB w (.slice p k c) (l.take k) := by
  have hl := h.len
  have := h.cut 0 k c (Nat.zero_le _) hk (by omega) (Nat.le_refl _)
  have e : cutP p c 0 = p := by
    unfold cutP
    split
    · rfl
    · cases p <;> simp [Addr.add]
  rwa [e, Nat.sub_zero, List.drop_zero, Nat.sub_zero] at this

/-- A literal of bytes in a new block, part of which may be frozen. -/
theorem HB.litF (w : World) (e : TypeId) (l : List UInt8) (cs : Array Value) (n : Nat) (fr : Nat × Nat) (hc : cs = (bcs l).toArray) (hn : n = l.length) (hm : n ≤ maxLen) : HB (w.alloc (.cells cs e fr)) (.slice (some ⟨w.heap.size, 0, none⟩) n n) l := by
  subst hc; subst hn
  refine ⟨_, l.length, rfl, Nat.le_refl _, hm, (fun h => by cases h), fun _ => ⟨_, 0, rfl, fun i x hx => ?_⟩⟩
  rw [Nat.zero_add, cell_of_row _ _ i _ _ _ (heap_alloc_new w _)]
  simp [bcs, hx]

/-- 'copy(row[k:], src)', row a whole row of n bytes that the call owns, src of n - k bytes. -/
theorem wpList_copy_at {P : Program} {w : World} {ops : Array Oper} {rest : List Oper} {o : Oper} {a : Act} {Q : Exit → Act → World → Prop} (hgd : o.guard = none) (d s : Operand) (dT sT : TypeId)
    (ho : o.op = .call { callee := .builtin .copy, args := #[d, s], argTypes := #[dT, sT] }) (e : TypeId) (hu : P.underlying dT = some (.slice e)) (hsz : (P.info? e).map (·.size) = some 1)
    (g n k : Nat) (dp : Option Addr) (p : Option Addr) (m m' c : Nat) (hd : a.eval d = .slice dp m m') (hdp : 0 < m → dp = some ⟨g, k, none⟩) (hs : a.eval s = .slice p m c)
    (base : Nat) (x : List UInt8) (hown : w.ownsRow base e 1 (.slice (some ⟨g, 0, none⟩) n n) n (bcs x)) (l : List UInt8) (hsrc : HB w (.slice p m c) l) (hl : k + m = n)
    (h : ∀ w', w'.ownsRow base e 1 (.slice (some ⟨g, 0, none⟩) n n) n (bcs (x.take k ++ l)) → w.grownBy w' (some g) → wpList P ops Q rest (a.put o.dst (goInt m)) w') : wpList P ops Q (o :: rest) a w := by
  have hm := hsrc.len.1
  have hx : x.length = n := by have := hown.1; rw [bcs_length] at this; omega
  rcases Nat.eq_zero_or_pos m with h0 | h0
  · subst h0
    obtain rfl : l = [] := List.eq_nil_of_length_eq_zero hm.symm
    refine wpList_copy_nothing hgd d s dT sT ho e hu hsz _ _ _ _ _ _ hd hs (Nat.min_zero 0) (h w ?_ (World.grownBy.refl _ _))
    rw [List.append_nil, List.take_of_length_le (by omega)]
    exact hown
  · obtain ⟨b, o', rfl, hc⟩ := hsrc.addr h0
    obtain ⟨q1, q2⟩ := hown
    rw [hdp h0] at hd
    rcases q2 with ⟨q3, _⟩ | ⟨g', cap, cur, q3, hb, hg, hle, hmx, hcs, htk⟩
    · cases q3
    · simp only [Value.slice.injEq, Option.some.injEq, Addr.mk.injEq, and_true, true_and] at q3
      obtain ⟨rfl, rfl⟩ := q3
      have hlen : (bcs l).length = m := by rw [bcs_length]; omega
      refine wpList_copy_own hgd d s dT sT ho e hu hsz g k m m' ⟨b, o', none⟩ m c hd hs cur e hg (bcs l) (by rw [hlen]; exact (Nat.min_self m).symm) hsrc.cells (by rw [hlen]; omega) (bcs_one l) ?_
      rw [hlen]
      have hxx : cur.toList = bcs x := by rw [← htk, List.take_of_length_le (by simp; omega)]
      refine h _ ⟨?_, .inr ⟨g, n, _, rfl, hb, setRow_heap w g cur _ e (0, 0) hg, Nat.le_refl _, hmx, ?_, ?_⟩⟩ (grownBy_setRow w g _)
      · rw [bcs_length, List.length_append, List.length_take]
        omega
      · simp [hlen]
        omega
      · rw [hxx, bcs_drop, List.drop_eq_nil_of_le (by omega)]
        simp only [bcs, List.map_nil, List.append_nil, List.map_append, List.map_take]
        rw [List.take_of_length_le]
        simp
        omega

end Go.Proofs.YtahfjemllkbpgaaGreatDoor
