/- What this text proves: rows of bytes that the call owns, and an append of such rows behind others. What this text proves: a law for a walk: an append of a slice of bytes, whatever it holds, onto a row that the call owns, at a step of a region that draws, and where the new row lies (any program). -/
import Derived.Test.YtahfjemllkbpgaaGreatDoorJS1
import Derived.Test.YtahfjemllkbpgaaGreatDoorJB2
import Derived.Deep.RegionLaw
import Derived.Deep.AppendLies
import Derived.Laws.AppendOwnNone
import Derived.Test.YtahfjemllkbpgaaGreatDoorJA4
namespace Go.Proofs.YtahfjemllkbpgaaGreatDoor
open Go.RowKit

/-- A row of rows of bytes that the call owns, each in a block of bytes. -/
def RL (w : World) (base : Nat) (v : Value) (ls : List (List UInt8)) : Prop := RS w base v ls.length (fun j => ls.getD j [])

theorem RL.later {w w' : World} {base : Nat} {v : Value} {ls : List (List UInt8)} (h : RL w base v ls) (hb : Below w.heap.size w w') : RL w' base v ls := RS.later h hb
theorem RL.pa {w : World} {base : Nat} {v : Value} {ls : List (List UInt8)} (h : RL w base v ls) : PA w v ls := by
  have := RS.pa h
  have e : (List.range ls.length).map (fun j => ls.getD j []) = ls := by
    apply List.ext_getElem
    · simp
    · intro i h1 h2; simp [List.getD, h2]
  rwa [e] at this

theorem RL.one (w : World) (base : Nat) (hb : base ≤ w.heap.size) (x : Value) (l : List UInt8) (hx : HB w x l) (tx : TB w x) : RL (w.alloc (.cells #[x] 22)) base (.slice (some ⟨w.heap.size, 0, none⟩) 1 1) [l] := by
  have bA := (Below.refl w.heap.size w).alloc (Nat.le_refl _) (.cells #[x] 22)
  refine ⟨[x], ⟨rfl, .inr ⟨w.heap.size, 1, _, rfl, hb, heap_alloc_new w _, Nat.le_refl _, by decide, rfl, rfl⟩⟩, fun j u hu => ?_⟩
  cases j with
  | zero => simp at hu; subst hu; exact ⟨hx.later bA, tx.later bA⟩
  | succ j => simp at hu

theorem wpList_append_rows {P : Program} {w : World} {ops : Array Oper} {rest : List Oper} {o : Oper} {a : Act} {Q : Exit → Act → World → Prop} (hgd : o.guard = none) (s x : Operand) (t : TypeId)
    (ho : o.op = .call { callee := .builtin .append, args := #[s, x], argTypes := #[t, t] })
    (base base2 : Nat) (e : TypeId) (ht : P.underlying t = some (.slice e)) (hi0 : (P.info? e).map (fun i => (i.zero, i.size, i.bytes)) = some (some (.slice none 0 0), 1, 24))
    (v : Value) (n : Nat) (xs ys : List Value) (hs : a.eval s = v) (hown : w.ownsRow base e 1 v n xs)
    (u : Value) (m : Nat) (hx : a.eval x = u) (hsrc : w.ownsRow base2 e 1 u m ys) (h1 : ∀ y ∈ ys, y.oneCell' = true)
    (hbytes : n + m ≤ 4194304) (hbase : base ≤ w.heap.size)
    (h : ∀ v' w', w'.ownsRow base e 1 v' (n + m) (xs ++ ys) → w.grownBy w' v.ownBlock → wpList P ops Q rest (a.put o.dst v') w') : wpList P ops Q (o :: rest) a w := by
  obtain ⟨i, hi, hz, h1', h2⟩ := info_parts hi0
  have hl := hsrc.1
  rw [Nat.mul_one] at hl
  rcases hsrc.2 with ⟨rfl, h0⟩ | ⟨g, cap, cur, rfl, hb, hg, hle, hmx, hcs, htk⟩
  · subst h0
    obtain rfl : ys = [] := List.eq_nil_of_length_eq_zero hl
    exact wpList_append_own_none hgd s x t ho base e i 1 ht hi v n xs hs hown hx (h v w (by simpa using hown) (World.grownBy.refl _ _))
  · refine wpList_append_own w hgd s x t ho base e i (.slice none 0 0) 1 24 ht hi hz h1' h2 rfl (by decide) v n xs hs hown ⟨g, 0, none⟩ m cap ys hx (by omega) ?_ h1 (by unfold maxLen; omega) (by omega) hbase (fun v' w' q1 q2 _ => h v' w' q1 q2)
    intro j y hy
    rw [add_lit, Nat.zero_add, cell_of_row w g j cur _ _ hg]
    have hj : j < ys.length := (List.getElem?_eq_some_iff.1 hy).1
    rw [← htk, List.getElem?_take] at hy
    split at hy
    · simpa using hy
    · cases hy

theorem RL.cells1 {w : World} {vs : List Value} {ls : List (List UInt8)} (h : ∀ (j : Nat) u, vs[j]? = some u → HB w u (ls.getD j []) ∧ TB w u) : ∀ y ∈ vs, y.oneCell' = true := by
  intro y hy
  obtain ⟨j, hj⟩ := List.mem_iff_getElem?.1 hy
  obtain ⟨p, c, e⟩ := (h j y hj).1.shape
  rw [e]
  rfl

/-- Behind an append of rows onto rows. -/
theorem RL.join {w w' : World} {base : Nat} {v v' : Value} {vs ys : List Value} {ls ms : List (List UInt8)} (h1 : w.ownsRow base 22 1 v ls.length vs) (h2 : ∀ (j : Nat) u, vs[j]? = some u → HB w u (ls.getD j []) ∧ TB w u) (h4 : ∀ (j : Nat) u, ys[j]? = some u → HB w u (ms.getD j []) ∧ TB w u)
    (hg : w.grownBy w' v.ownBlock) (ho : w'.ownsRow base 22 1 v' (ls.length + ms.length) (vs ++ ys)) : RL w' base v' (ls ++ ms) := by
  have hl := h1.1
  rw [Nat.mul_one] at hl
  refine ⟨vs ++ ys, by rw [List.length_append]; exact ho, fun j u hu => ?_⟩
  by_cases hj : j < ls.length
  · rw [List.getElem?_append_left (by omega)] at hu
    have e : (ls ++ ms).getD j [] = ls.getD j [] := by simp [List.getD, List.getElem?_append_left hj]
    show HB w' u ((ls ++ ms).getD j []) ∧ TB w' u
    rw [e]
    exact hb_grown h1 hg (h2 j u hu).1 (h2 j u hu).2
  · rw [List.getElem?_append_right (by omega), hl] at hu
    have e : (ls ++ ms).getD j [] = ms.getD (j - ls.length) [] := by simp [List.getD, List.getElem?_append_right (Nat.le_of_not_lt hj)]
    show HB w' u ((ls ++ ms).getD j []) ∧ TB w' u
    rw [e]
    exact hb_grown h1 hg (h4 _ u hu).1 (h4 _ u hu).2

theorem RL.shape {w : World} {base : Nat} {v : Value} {ls : List (List UInt8)} (h : RL w base v ls) : ∃ p c, v = .slice p ls.length c := h.pa.shape

end Go.Proofs.YtahfjemllkbpgaaGreatDoor

namespace Go.Proofs.YtahfjemllkbpgaaGreatDoor
open Go.RowKit

theorem step_append_at {P : Program} {w : World} {ops : Array Oper} {o : Oper} {a : Act} {K : Act → World → Prop} {Q : Exit → Act → World → Prop} {E : Prop} (hgd : o.guard = none) (s x : Operand) (t : TypeId)
    (ho : o.op = .call { callee := .builtin .append, args := #[s, x], argTypes := #[t, t] })
    (base : Nat) (e : TypeId) (ht : P.underlying t = some (.slice e)) (hi0 : (P.info? e).map (fun i => (i.zero, i.size, i.bytes)) = some (some (.int .u8 0), 1, 1))
    (v : Value) (n : Nat) (xs : List Value) (hs : a.eval s = v) (hown : w.ownsRow base e 1 v n xs)
    (p : Option Addr) (m c : Nat) (l : List UInt8) (hx : a.eval x = .slice p m c) (hsrc : HB w (.slice p m c) l)
    (hbytes : n + m ≤ 140737488355328) (hbase : base ≤ w.heap.size)
    (h : ∀ v' w', w'.ownsRow base e 1 v' (n + m) (xs ++ bcs l) → w.grownBy w' v.ownBlock → (v'.ownBlock = v.ownBlock ∨ v'.ownBlock = some w.heap.size) → K (a.put o.dst v') w') :
    if Region.wanted o (yielded ops a.tmps) = true then Oper.wp P o a w K Q else E := by
  have hw : Region.wanted o (yielded ops a.tmps) = true := by simp [Region.wanted, hgd]
  rw [if_pos hw]
  obtain ⟨i, hi, hz, h1, h2⟩ := info_parts hi0
  have hm := hsrc.len.1
  have hgo : ∀ (ad : Addr) (news : List Value), p = some ad → news.length = m * 1 → (∀ j u, news[j]? = some u → w.cell? (ad.add j) = some u) → (∀ u ∈ news, u.oneCell' = true) → news = bcs l → Oper.wp P o a w K Q := by
    intro ad news hp hl hn h1c hnl
    subst hp
    obtain ⟨v', w', hr, q2, q3, _, q5⟩ := run_append_own_at (P := P) w base t o.type e i (.int .u8 0) 1 1 ht hi hz h1 h2 rfl (by decide) v n xs hown ad m c news hl hn h1c (by unfold maxLen; omega) (by omega) hbase
    unfold Oper.wp execOp
    simp only [ho, resolve, invoke, builtin, Sem.run_bind, Sem.run_pure, Result.andThen_ok, List.map_toArray, List.map_cons, List.map_nil, hs, hx, hr]
    exact h v' w' (by rw [← hnl]; exact q2) q3 q5
  rcases Nat.eq_zero_or_pos m with h0 | h0
  · subst h0
    obtain rfl : l = [] := List.eq_nil_of_length_eq_zero hm.symm
    cases p with
    | none =>
      obtain rfl : c = 0 := hsrc.len.2.2.2 rfl
      have hrun := run_append_owned_none (P := P) (w := w) base t o.type e i 1 ht hi v n xs hown
      unfold Oper.wp
      simp [execOp, ho, resolve, invoke, builtin, hs, hx, hrun, Result.andThen]
      exact h v w (by simpa [bcs] using hown) (World.grownBy.refl _ _) (.inl rfl)
    | some ad =>
      exact hgo ad [] rfl rfl (fun j u hu => by simp at hu) (fun u hu => by cases hu) (by simp [bcs])
  · obtain ⟨b, o', hp, hc⟩ := hsrc.addr h0
    subst hp
    exact hgo ⟨b, o', none⟩ (bcs l) rfl (by rw [bcs_length]; omega) hsrc.cells (bcs_one l) rfl

end Go.Proofs.YtahfjemllkbpgaaGreatDoor
