/- What this text proves: laws for a walk, over any program: an append of a slice of bytes onto a row that the call owns; a copy of a slice of bytes over a whole row that the call owns. What this text holds: closed facts on this program's types of bytes. What this text proves: plain facts on rows of bytes that a call owns: a byte stored, a beginning, a copy behind the first bytes. -/
import Derived.Test.YtcgpgnajmfemhaaGreatDoorJSha
import Derived.Test.YtcgpgnajmfemhaaGreatDoorRows
import Derived.WalkLawsBesides
namespace Go.Proofs.YtcgpgnajmfemhaaGreatDoor
open Go.RowKit

theorem add_lit (b o j : Nat) : (⟨b, o, none⟩ : Addr).add j = ⟨b, o + j, none⟩ := by unfold Addr.add; split <;> simp_all

/-- The cells of a slice of bytes, as the laws of append and copy ask for them. -/
theorem HB.cells {w : World} {b o n c : Nat} {l : List UInt8} (h : HB w (.slice (some ⟨b, o, none⟩) n c) l) : ∀ j u, (bcs l)[j]? = some u → w.cell? ((⟨b, o, none⟩ : Addr).add j) = some u := by
  intro j u hu
  rw [bcs_get] at hu
  obtain ⟨x, hx, rfl⟩ := Option.map_eq_some_iff.1 hu
  have hj : j < l.length := (List.getElem?_eq_some_iff.1 hx).1
  have hl := h.len.1
  obtain ⟨b', o', e, hc⟩ := h.addr (by omega)
  simp only [Option.some.injEq, Addr.mk.injEq, and_true] at e
  obtain ⟨rfl, rfl⟩ := e
  rw [add_lit]
  exact hc j x hx

theorem owns_shape {w : World} {base : Nat} {e : TypeId} {s n : Nat} {v : Value} {xs : List Value} (h : w.ownsRow base e s v n xs) : ∃ p c, v = .slice p n c := by
  rcases h.2 with ⟨rfl, rfl⟩ | ⟨g, cap, cur, rfl, _⟩
  · exact ⟨none, 0, rfl⟩
  · exact ⟨_, _, rfl⟩

/-- A literal of bytes in a new block. -/
theorem HB.lit (w : World) (e : TypeId) (l : List UInt8) (cs : Array Value) (n : Nat) (hc : cs = (bcs l).toArray) (hn : n = l.length) (hm : n ≤ maxLen) : HB (w.alloc (.cells cs e)) (.slice (some ⟨w.heap.size, 0, none⟩) n n) l := by
  subst hc; subst hn
  refine ⟨_, l.length, rfl, Nat.le_refl _, hm, (fun h => by cases h), fun _ => ⟨_, 0, rfl, fun i x hx => ?_⟩⟩
  rw [Nat.zero_add, cell_of_row _ _ i _ _ _ (heap_alloc_new w _)]
  simp [bcs, hx]

theorem ownBlock_some (a : Addr) (n c : Nat) : (Value.slice (some a) n c).ownBlock = some a.block := rfl

theorem wpList_append_hb {P : Program} {w : World} {ops : Array Oper} {rest : List Oper} {o : Oper} {a : Act} {Q : Exit → Act → World → Prop} (hgd : o.guard = none) (s x : Operand) (t : TypeId)
    (ho : o.op = .call { callee := .builtin .append, args := #[s, x], argTypes := #[t, t] })
    (base : Nat) (e : TypeId) (ht : P.underlying t = some (.slice e)) (hi0 : (P.info? e).map (fun i => (i.zero, i.size, i.bytes)) = some (some (.int .u8 0), 1, 1))
    (v : Value) (n : Nat) (xs : List Value) (hs : a.eval s = v) (hown : w.ownsRow base e 1 v n xs)
    (p : Option Addr) (m c : Nat) (l : List UInt8) (hx : a.eval x = .slice p m c) (hsrc : HB w (.slice p m c) l)
    (hbytes : n + m ≤ 140737488355328) (hbase : base ≤ w.heap.size)
    (h : ∀ v' w', w'.ownsRow base e 1 v' (n + m) (xs ++ bcs l) → w.grownBy w' v.ownBlock → wpList P ops Q rest (a.put o.dst v') w') : wpList P ops Q (o :: rest) a w := by
  obtain ⟨i, hi, hz, h1, h2⟩ := info_parts hi0
  have hm := hsrc.len.1
  rcases Nat.eq_zero_or_pos m with h0 | h0
  · subst h0
    obtain rfl : l = [] := List.eq_nil_of_length_eq_zero hm.symm
    cases p with
    | none =>
      obtain rfl : c = 0 := hsrc.len.2.2.2 rfl
      exact wpList_append_own_none hgd s x t ho base e i 1 ht hi v n xs hs hown hx (h v w (by simpa [bcs] using hown) (World.grownBy.refl _ _))
    | some ad =>
      exact wpList_append_own w hgd s x t ho base e i (.int .u8 0) 1 1 ht hi hz h1 h2 rfl (by decide) v n xs hs hown ad 0 c [] hx rfl (fun j u hu => by simp at hu) (fun u hu => by cases hu) (by unfold maxLen; omega) (by omega) hbase (fun v' w' q1 q2 _ => h v' w' q1 q2)
  · obtain ⟨b, o', rfl, hc⟩ := hsrc.addr h0
    exact wpList_append_own w hgd s x t ho base e i (.int .u8 0) 1 1 ht hi hz h1 h2 rfl (by decide) v n xs hs hown ⟨b, o', none⟩ m c (bcs l) hx (by rw [bcs_length]; omega) hsrc.cells (bcs_one l) (by unfold maxLen; omega) (by omega) hbase (fun v' w' q1 q2 _ => h v' w' q1 q2)

theorem grownBy_setRow (w : World) (g : Nat) (cs : Array Value) : w.grownBy (w.setRow g cs) (some g) :=
  ⟨rfl, rfl, rfl, by simp [World.setRow], fun k _ hne => setRow_other w g k cs (fun e => hne (by rw [e]))⟩

/-- 'copy(dst, src)', dst a whole row of n bytes that the call owns, src of n bytes. -/
theorem wpList_copy_hb {P : Program} {w : World} {ops : Array Oper} {rest : List Oper} {o : Oper} {a : Act} {Q : Exit → Act → World → Prop} (hgd : o.guard = none) (d s : Operand) (dT sT : TypeId)
    (ho : o.op = .call { callee := .builtin .copy, args := #[d, s], argTypes := #[dT, sT] }) (e : TypeId) (hu : P.underlying dT = some (.slice e)) (hsz : (P.info? e).map (·.size) = some 1)
    (g n : Nat) (p : Option Addr) (m c : Nat) (hd : a.eval d = .slice (some ⟨g, 0, none⟩) n n) (hs : a.eval s = .slice p m c)
    (base : Nat) (xs : List Value) (hown : w.ownsRow base e 1 (.slice (some ⟨g, 0, none⟩) n n) n xs) (l : List UInt8) (hsrc : HB w (.slice p m c) l) (hl : m = n)
    (h : ∀ w', w'.ownsRow base e 1 (.slice (some ⟨g, 0, none⟩) n n) n (bcs l) → w.grownBy w' (some g) → wpList P ops Q rest (a.put o.dst (goInt n)) w') : wpList P ops Q (o :: rest) a w := by
  have hm := hsrc.len.1
  subst hl
  rcases Nat.eq_zero_or_pos m with h0 | h0
  · subst h0
    obtain rfl : l = [] := List.eq_nil_of_length_eq_zero hm.symm
    refine wpList_copy_nothing hgd d s dT sT ho e hu hsz _ _ _ _ _ _ hd hs rfl (h w ?_ (World.grownBy.refl _ _))
    obtain ⟨q1, q2⟩ := hown
    obtain rfl : xs = [] := List.eq_nil_of_length_eq_zero (by simpa using q1)
    exact ⟨q1, q2⟩
  · obtain ⟨b, o', rfl, hc⟩ := hsrc.addr h0
    obtain ⟨q1, q2⟩ := hown
    rcases q2 with ⟨q3, _⟩ | ⟨g', cap, cur, q3, hb, hg, hle, hmx, hcs, htk⟩
    · cases q3
    · simp only [Value.slice.injEq, Option.some.injEq, Addr.mk.injEq, and_true, true_and] at q3
      obtain ⟨rfl, rfl⟩ := q3
      refine wpList_copy_own hgd d s dT sT ho e hu hsz g 0 m m ⟨b, o', none⟩ m c hd hs cur e hg (bcs l) (by rw [bcs_length]; simp [hm]) hsrc.cells (by rw [bcs_length]; omega) (bcs_one l) ?_
      have hlen : (bcs l).length = m := by rw [bcs_length]; omega
      rw [hlen]
      refine h _ ⟨by rw [hlen]; omega, .inr ⟨g, m, _, rfl, hb, setRow_heap w g cur _ e (0, 0) hg, Nat.le_refl _, hmx, ?_, ?_⟩⟩ (grownBy_setRow w g _)
      · simp [hlen]
        omega
      · simp [hlen]

/-- 'copy(dst, src)', dst a whole row of n bytes that the call owns, src of m bytes, no more than n. -/
theorem wpList_copy_front {P : Program} {w : World} {ops : Array Oper} {rest : List Oper} {o : Oper} {a : Act} {Q : Exit → Act → World → Prop} (hgd : o.guard = none) (d s : Operand) (dT sT : TypeId)
    (ho : o.op = .call { callee := .builtin .copy, args := #[d, s], argTypes := #[dT, sT] }) (e : TypeId) (hu : P.underlying dT = some (.slice e)) (hsz : (P.info? e).map (·.size) = some 1)
    (g n : Nat) (p : Option Addr) (m c : Nat) (hd : a.eval d = .slice (some ⟨g, 0, none⟩) n n) (hs : a.eval s = .slice p m c)
    (base : Nat) (xs : List Value) (hown : w.ownsRow base e 1 (.slice (some ⟨g, 0, none⟩) n n) n xs) (l : List UInt8) (hsrc : HB w (.slice p m c) l) (hl : m ≤ n)
    (h : ∀ w', w'.ownsRow base e 1 (.slice (some ⟨g, 0, none⟩) n n) n (bcs l ++ xs.drop m) → w.grownBy w' (some g) → wpList P ops Q rest (a.put o.dst (goInt m)) w') : wpList P ops Q (o :: rest) a w := by
  have hm := hsrc.len.1
  rcases Nat.eq_zero_or_pos m with h0 | h0
  · subst h0
    obtain rfl : l = [] := List.eq_nil_of_length_eq_zero hm.symm
    exact wpList_copy_nothing hgd d s dT sT ho e hu hsz _ _ _ _ _ _ hd hs (Nat.zero_min n) (h w (by simpa [bcs] using hown) (World.grownBy.refl _ _))
  · obtain ⟨b, o', rfl, hc⟩ := hsrc.addr h0
    obtain ⟨q1, q2⟩ := hown
    rcases q2 with ⟨q3, _⟩ | ⟨g', cap, cur, q3, hb, hg, hle, hmx, hcs, htk⟩
    · cases q3
    · simp only [Value.slice.injEq, Option.some.injEq, Addr.mk.injEq, and_true, true_and] at q3
      obtain ⟨rfl, rfl⟩ := q3
      have hlen : (bcs l).length = m := by rw [bcs_length]; omega
      refine wpList_copy_own hgd d s dT sT ho e hu hsz g 0 n n ⟨b, o', none⟩ m c hd hs cur e hg (bcs l) (by rw [hlen]; exact (Nat.min_eq_left hl).symm) hsrc.cells (by rw [hlen]; omega) (bcs_one l) ?_
      rw [hlen]
      have hx : cur.toList = xs := by rw [← htk, List.take_of_length_le (by simp; omega)]
      refine h _ ⟨?_, .inr ⟨g, n, _, rfl, hb, setRow_heap w g cur _ e (0, 0) hg, Nat.le_refl _, hmx, ?_, ?_⟩⟩ (grownBy_setRow w g _)
      · rw [List.length_append, hlen, List.length_drop, q1]
        omega
      · simp [hlen]
        omega
      · rw [hx]
        simp only [List.take_zero, List.nil_append, Nat.zero_add]
        rw [List.take_of_length_le]
        rw [List.length_append, hlen, List.length_drop, q1]
        omega

/-- 'v[:h]', h ≤ cap. -/
theorem run_upto {P : Program} {t e : TypeId} (ht : P.underlying t = some (.slice e)) (hsz : (P.info? e).map (·.size) = some 1) (p : Option Addr) (n c h : Nat) (y : Int) (hy : y = (h : Int)) (hh : h ≤ c) (w : World) :
    (Instr.slice t (.slice p n c) none (some (.int .i64 y)) none).run P w = .ok (.slice p h c) w := by
  subst hy
  obtain ⟨i, hi, hs⟩ := Option.map_eq_some_iff.1 hsz
  have he : P.elem t = e := by simp [Program.elem, ht]
  rw [run_slice_h w t p n c (by rw [he]; exact ht) .i64 h (by omega) (by omega), he]
  have ha : Option.map (fun x : Addr => x.add 0) p = p := by cases p <;> simp [Addr.add]
  simp [Go.sizeOf, typeInfo, hi, hs, sliced, Result.andThen, ha]

end Go.Proofs.YtcgpgnajmfemhaaGreatDoor

namespace Go.Proofs.YtcgpgnajmfemhaaGreatDoor
open Go.RowKit

theorem i_u8 : (Tryz.prog.info? 5).map (fun i => (i.zero, i.size, i.bytes)) = some (some (.int .u8 0), 1, 1) := by kernel_rfl
theorem i_bytes : (Tryz.prog.info? 37).map (fun i => (i.zero, i.size, i.bytes)) = some (some (.slice none 0 0), 1, 24) := by kernel_rfl
theorem s_u8 : (Tryz.prog.info? 5).map (·.size) = some 1 := by kernel_rfl
theorem s_bytes : (Tryz.prog.info? 37).map (·.size) = some 1 := by kernel_rfl

end Go.Proofs.YtcgpgnajmfemhaaGreatDoor

namespace Go.Proofs.YtcgpgnajmfemhaaGreatDoor
open Go.RowKit

theorem made_bcs (n : Nat) : (madeCells #[Value.int .u8 0] n).toList = bcs (List.replicate n 0) := by
  rw [toList_madeCells_one]
  simp [bcs, bc]

theorem bcs_set (l : List UInt8) (j : Nat) (x : UInt8) : (bcs l).set j (bc x) = bcs (l.set j x) := by simp [bcs, List.map_set]
theorem bcs_drop (l : List UInt8) (j : Nat) : (bcs l).drop j = bcs (l.drop j) := by simp [bcs]

/-- A byte stored into an owned row. -/
theorem owns_put {w : World} {base : Nat} {e : TypeId} {g n : Nat} {l : List UInt8} (h : w.ownsRow base e 1 (.slice (some ⟨g, 0, none⟩) n n) n (bcs l)) (j : Nat) (x : UInt8) (v : Value) (hv : v = bc x) :
    (w.setCell ⟨g, j, none⟩ v).ownsRow base e 1 (.slice (some ⟨g, 0, none⟩) n n) n (bcs (l.set j x)) := by
  subst hv
  rw [← bcs_set]
  exact (h.stored j (bc x)).1

theorem HB.front {w : World} {p : Option Addr} {n c : Nat} {l : List UInt8} (h : HB w (.slice p n c) l) (k : Nat) (hk : k ≤ n) : HB w (.slice p k c) (l.take k) := by
  have hl := h.len
  have := h.cut 0 k c (Nat.zero_le _) hk (by omega) (Nat.le_refl _)
  have e : cutP p c 0 = p := by
    unfold cutP
    split
    · rfl
    · cases p <;> simp [Addr.add]
  rwa [e, Nat.sub_zero, List.drop_zero, Nat.sub_zero] at this

/-- A literal of bytes in a new block, part of which may be frozen. -/
theorem HB.litF (w : World) (e : TypeId) (l : List UInt8) (cs : Array Value) (n : Nat) (fr : Nat × Nat) (hc : cs = (bcs l).toArray) (hn : n = l.length) (hm : n ≤ maxLen) : HB (w.alloc (.cells cs e fr)) (.slice (some ⟨w.heap.size, 0, none⟩) n n) l := by
  subst hc; subst hn
  refine ⟨_, l.length, rfl, Nat.le_refl _, hm, (fun h => by cases h), fun _ => ⟨_, 0, rfl, fun i x hx => ?_⟩⟩
  rw [Nat.zero_add, cell_of_row _ _ i _ _ _ (heap_alloc_new w _)]
  simp [bcs, hx]

/-- 'copy(row[k:], src)', row a whole row of n bytes that the call owns, src of n - k bytes. -/
theorem wpList_copy_at {P : Program} {w : World} {ops : Array Oper} {rest : List Oper} {o : Oper} {a : Act} {Q : Exit → Act → World → Prop} (hgd : o.guard = none) (d s : Operand) (dT sT : TypeId)
    (ho : o.op = .call { callee := .builtin .copy, args := #[d, s], argTypes := #[dT, sT] }) (e : TypeId) (hu : P.underlying dT = some (.slice e)) (hsz : (P.info? e).map (·.size) = some 1)
    (g n k : Nat) (dp : Option Addr) (p : Option Addr) (m m' c : Nat) (hd : a.eval d = .slice dp m m') (hdp : 0 < m → dp = some ⟨g, k, none⟩) (hs : a.eval s = .slice p m c)
    (base : Nat) (x : List UInt8) (hown : w.ownsRow base e 1 (.slice (some ⟨g, 0, none⟩) n n) n (bcs x)) (l : List UInt8) (hsrc : HB w (.slice p m c) l) (hl : k + m = n)
    (h : ∀ w', w'.ownsRow base e 1 (.slice (some ⟨g, 0, none⟩) n n) n (bcs (x.take k ++ l)) → w.grownBy w' (some g) → wpList P ops Q rest (a.put o.dst (goInt m)) w') : wpList P ops Q (o :: rest) a w := by
  have hm := hsrc.len.1
  have hx : x.length = n := by have := hown.1; rw [bcs_length] at this; omega
  rcases Nat.eq_zero_or_pos m with h0 | h0
  · subst h0
    obtain rfl : l = [] := List.eq_nil_of_length_eq_zero hm.symm
    refine wpList_copy_nothing hgd d s dT sT ho e hu hsz _ _ _ _ _ _ hd hs (Nat.min_zero 0) (h w ?_ (World.grownBy.refl _ _))
    rw [List.append_nil, List.take_of_length_le (by omega)]
    exact hown
  · obtain ⟨b, o', rfl, hc⟩ := hsrc.addr h0
    obtain ⟨q1, q2⟩ := hown
    rw [hdp h0] at hd
    rcases q2 with ⟨q3, _⟩ | ⟨g', cap, cur, q3, hb, hg, hle, hmx, hcs, htk⟩
    · cases q3
    · simp only [Value.slice.injEq, Option.some.injEq, Addr.mk.injEq, and_true, true_and] at q3
      obtain ⟨rfl, rfl⟩ := q3
      have hlen : (bcs l).length = m := by rw [bcs_length]; omega
      refine wpList_copy_own hgd d s dT sT ho e hu hsz g k m m' ⟨b, o', none⟩ m c hd hs cur e hg (bcs l) (by rw [hlen]; exact (Nat.min_self m).symm) hsrc.cells (by rw [hlen]; omega) (bcs_one l) ?_
      rw [hlen]
      have hxx : cur.toList = bcs x := by rw [← htk, List.take_of_length_le (by simp; omega)]
      refine h _ ⟨?_, .inr ⟨g, n, _, rfl, hb, setRow_heap w g cur _ e (0, 0) hg, Nat.le_refl _, hmx, ?_, ?_⟩⟩ (grownBy_setRow w g _)
      · rw [bcs_length, List.length_append, List.length_take]
        omega
      · simp [hlen]
        omega
      · rw [hxx, bcs_drop, List.drop_eq_nil_of_le (by omega)]
        simp only [bcs, List.map_nil, List.append_nil, List.map_append, List.map_take]
        rw [List.take_of_length_le]
        simp
        omega

end Go.Proofs.YtcgpgnajmfemhaaGreatDoor
