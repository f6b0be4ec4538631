/- What this text proves: plain facts on rows of bytes that a call owns: a byte stored, a beginning, a copy behind the first bytes. What this text proves: the walk of sha.pad over this program: what is mixed behind the whole blocks of a text. What this text proves: the walk of sha.spell over this program: a state's words as bytes. What this text proves: plain facts about SHA-256's blocks: those of a text's front, and of its padded rest; no program is named. -/
import Derived.Test.YtgfddabccjfhiabDoorJA
import Derived.Test.YtgfddabccjfhiabDoorJBlocks
import Derived.Test.YtgfddabccjfhiabDoorJMix
import Derived.Test.YtgfddabccjfhiabDoorJSha
namespace Go.Proofs.YtgfddabccjfhiabDoor
open Go.RowKit

theorem made_bcs (n : Nat) : (madeCells #[Value.int .u8 0] n).toList = bcs (List.replicate n 0) := by
  rw [toList_madeCells_one]
  simp [bcs, bc]

theorem bcs_set (l : List UInt8) (j : Nat) (x : UInt8) : (bcs l).set j (bc x) = bcs (l.set j x) := by simp [bcs, List.map_set]
theorem bcs_drop (l : List UInt8) (j : Nat) : (bcs l).drop j = bcs (l.drop j) := by simp [bcs]

/-- A byte stored into an owned row. -/
theorem owns_put {w : World} {base : Nat} {e : TypeId} {g n : Nat} {l : List UInt8} (h : w.ownsRow base e 1 (.slice (some ⟨g, 0, none⟩) n n) n (bcs l)) (j : Nat) (x : UInt8) (v : Value) (hv : v = bc x) :
    (w.setCell ⟨g, j, none⟩ v).ownsRow base e 1 (.slice (some ⟨g, 0, none⟩) n n) n (bcs (l.set j x)) := by
  subst hv
  rw [← bcs_set]
  exact (h.stored j (bc x)).1

theorem HB.front {w : World} {p : Option Addr} {n c : Nat} {l : List UInt8} (h : HB w (.slice p n c) l) (k : Nat) (hk : k ≤ n) : HB w (.slice p k c) (l.take k) := by
  have hl := h.len
  have := h.cut 0 k c (Nat.zero_le _) hk (by omega) (Nat.le_refl _)
  have e : cutP p c 0 = p := by
    unfold cutP
    split
    · rfl
    · cases p <;> simp [Addr.add]
  rwa [e, Nat.sub_zero, List.drop_zero, Nat.sub_zero] at this

/-- A literal of bytes in a new block, part of which may be frozen. -/
theorem HB.litF (w : World) (e : TypeId) (l : List UInt8) (cs : Array Value) (n : Nat) (fr : Nat × Nat) (hc : cs = (bcs l).toArray) (hn : n = l.length) (hm : n ≤ maxLen) : HB (w.alloc (.cells cs e fr)) (.slice (some ⟨w.heap.size, 0, none⟩) n n) l := by
  subst hc; subst hn
  refine ⟨_, l.length, rfl, Nat.le_refl _, hm, (fun h => by cases h), fun _ => ⟨_, 0, rfl, fun i x hx => ?_⟩⟩
  rw [Nat.zero_add, cell_of_row _ _ i _ _ _ (heap_alloc_new w _)]
  simp [bcs, hx]

/-- 'copy(row[k:], src)', row a whole row of n bytes that the call owns, src of n - k bytes. -/
theorem wpList_copy_at {P : Program} {w : World} {ops : Array Oper} {rest : List Oper} {o : Oper} {a : Act} {Q : Exit → Act → World → Prop} (hgd : o.guard = none) (d s : Operand) (dT sT : TypeId)
    (ho : o.op = .call { callee := .builtin .copy, args := #[d, s], argTypes := #[dT, sT] }) (e : TypeId) (hu : P.underlying dT = some (.slice e)) (hsz : (P.info? e).map (·.size) = some 1)
    (g n k : Nat) (dp : Option Addr) (p : Option Addr) (m m' c : Nat) (hd : a.eval d = .slice dp m m') (hdp : 0 < m → dp = some ⟨g, k, none⟩) (hs : a.eval s = .slice p m c)
    (base : Nat) (x : List UInt8) (hown : w.ownsRow base e 1 (.slice (some ⟨g, 0, none⟩) n n) n (bcs x)) (l : List UInt8) (hsrc : HB w (.slice p m c) l) (hl : k + m = n)
    (h : ∀ w', w'.ownsRow base e 1 (.slice (some ⟨g, 0, none⟩) n n) n (bcs (x.take k ++ l)) → w.grownBy w' (some g) → wpList P ops Q rest (a.put o.dst (goInt m)) w') : wpList P ops Q (o :: rest) a w := by
  have hm := hsrc.len.1
  have hx : x.length = n := by have := hown.1; rw [bcs_length] at this; omega
  rcases Nat.eq_zero_or_pos m with h0 | h0
  · subst h0
    obtain rfl : l = [] := List.eq_nil_of_length_eq_zero hm.symm
    refine wpList_copy_nothing hgd d s dT sT ho e hu hsz _ _ _ _ _ _ hd hs (Nat.min_zero 0) (h w ?_ (World.grownBy.refl _ _))
    rw [List.append_nil, List.take_of_length_le (by omega)]
    exact hown
  · obtain ⟨b, o', rfl, hc⟩ := hsrc.addr h0
    obtain ⟨q1, q2⟩ := hown
    rw [hdp h0] at hd
    rcases q2 with ⟨q3, _⟩ | ⟨g', cap, cur, q3, hb, hg, hle, hmx, hcs, htk⟩
    · cases q3
    · simp only [Value.slice.injEq, Option.some.injEq, Addr.mk.injEq, and_true, true_and] at q3
      obtain ⟨rfl, rfl⟩ := q3
      have hlen : (bcs l).length = m := by rw [bcs_length]; omega
      refine wpList_copy_own hgd d s dT sT ho e hu hsz g k m m' ⟨b, o', none⟩ m c hd hs cur e hg (bcs l) (by rw [hlen]; exact (Nat.min_self m).symm) hsrc.cells (by rw [hlen]; omega) (bcs_one l) ?_
      rw [hlen]
      have hxx : cur.toList = bcs x := by rw [← htk, List.take_of_length_le (by simp; omega)]
      refine h _ ⟨?_, .inr ⟨g, n, _, rfl, hb, setRow_heap w g cur _ e (0, 0) hg, Nat.le_refl _, hmx, ?_, ?_⟩⟩ (grownBy_setRow w g _)
      · rw [bcs_length, List.length_append, List.length_take]
        omega
      · simp [hlen]
        omega
      · rw [hxx, bcs_drop, List.drop_eq_nil_of_le (by omega)]
        simp only [bcs, List.map_nil, List.append_nil, List.map_append, List.map_take]
        rw [List.take_of_length_le]
        simp
        omega

end Go.Proofs.YtgfddabccjfhiabDoor

namespace Go.Proofs.YtgfddabccjfhiabDoor
open Go.RowKit

set_option maxRecDepth 100000 in
set_option maxHeartbeats 1000000 in
theorem pad_any (v : Value) (r : List UInt8) (n : Nat) (w : World) (h : HB w v r) (hr : r.length < 64) (hn : n ≤ 1152921504606846976) :
    Calls Tryd.prog 58 #[v, .int .i64 (n : Int)] w fun e w' => e = .returned (.slice (some ⟨w.heap.size, 0, none⟩) (64 * blocks r.length) (64 * blocks r.length)) ∧ HB w' (.slice (some ⟨w.heap.size, 0, none⟩) (64 * blocks r.length) (64 * blocks r.length)) (padL r (64 * blocks r.length) (8 * n) 8) ∧ Below w.heap.size w w' := by
  obtain ⟨p, c, rfl⟩ := h.shape
  obtain ⟨i0, hi, hz0, hz1, hz2⟩ := info_parts i_u8
  obtain ⟨N, hN⟩ : ∃ N, N = 64 * blocks r.length := ⟨_, rfl⟩
  have hb1 : blocks r.length = (r.length + 72) / 64 := rfl
  have hN1 : r.length + 9 ≤ N := by omega
  have hN2 : N ≤ 128 := by omega
  have hB : (blocks r.length : Int) ≤ 2 := by omega
  have hN3 : (64 : Int) * (blocks r.length : Int) = (N : Int) := by omega
  rw [← hN]
  have HN : Hid (N = 64 * blocks r.length) := hN
  clear hN hb1
  go_enter Tryd.func58, Tryd.ntmps58
  go_wp2_with fail
  refine (blocks_any r.length _ (by omega)).mono ?_
  rintro e w' ⟨rfl, hw⟩
  have hw2 := hw.symm
  subst hw2
  clear hw
  go_wp2_with (at_make; refine wpList_make_full _ rfl _ _ 30 rfl w.heap.size 5 i0 (.int .u8 0) 1 Tryd.underlying30 hi hz0 hz1 .i64 .i64 _ _ N rfl rfl ?qa ?qb ?qc ?qd ?qe ?_)
  all_goals (try (first | omega | (unfold maxLen; omega) | (rw [hz2]; omega)))
  intro w1 hown1 hgrow1
  have hb1 : Below w.heap.size w w1 := (Below.refl _ w).grown hgrow1 (Nat.le_refl _) (by intro k hk; cases hk)
  have hown1' : w1.ownsRow w.heap.size 5 1 (.slice (some ⟨w.heap.size, 0, none⟩) N N) N (bcs (List.replicate N 0)) := by
    rw [← made_bcs]
    simpa using hown1
  have hs1 := h.later hb1
  clear hown1 hgrow1
  go_wp2_with (refine wpList_copy_front rfl (.tmp 13) (.tmp 14) 30 30 rfl 5 Tryd.underlying30 s_u8 w.heap.size N _ _ _ rfl rfl w.heap.size _ hown1' r hs1 ?ra ?_)
  case ra => omega
  intro w2 hown2 hgrow2
  have hb2 : Below w.heap.size w w2 := hb1.grown hgrow2 hb1.size (by intro k hk; cases hk; exact Nat.le_refl _)
  have hown3 : w2.ownsRow w.heap.size 5 1 (.slice (some ⟨w.heap.size, 0, none⟩) N N) N (bcs (r ++ List.replicate (N - r.length) 0)) := by
    rw [bcs_append]
    rw [bcs_drop] at hown2
    simpa using hown2
  have q1 : w2.cell? ⟨w.heap.size, r.length, none⟩ = some (.int .u8 0) := by
    rw [hown3.cellAt r.length (by omega), bcs_get, List.getElem?_append_right (Nat.le_refl _), Nat.sub_self]
    have : 0 < N - r.length := by omega
    simp [this, bc]
  have q2 := hown3.frozenAt r.length
  have hst := owns_put hown3 r.length 128 (.int .u8 128) rfl
  rw [padL_start r N (8 * n) hN1] at hst
  have hb3 := hb2.setCell (p := ⟨w.heap.size, r.length, none⟩) (Nat.le_refl _) (.int .u8 128)
  clear hown1' hown2 hgrow2 hs1 hb1 hown3
  go_wp2
  generalize w2.setCell ⟨w.heap.size, r.length, none⟩ (.int .u8 128) = w3 at *
  clear q1 q2 hb2
  go_loopw [23] (fun i wr => ∃ k : Nat, k ≤ 8 ∧ i = .int .i64 k ∧ wr.ownsRow w.heap.size 5 1 (.slice (some ⟨w.heap.size, 0, none⟩) N N) N (bcs (padL r N (8 * n) k)) ∧ Below w.heap.size w wr)
    (fun i _ => 8 - (intOf i).toNat)
  case atStart => exact ⟨0, Nat.zero_le _, rfl, hst, hb3⟩
  case round =>
    clear hst hb3
    obtain ⟨k, hk, rfl, hown, hbe⟩ := hrel
    by_cases hlt : k < 8
    · have hlen := padL_length r N (8 * n) k hN1 hk
      obtain ⟨y, q1⟩ : ∃ y : UInt8, wr.cell? ⟨w.heap.size, N - 1 - k, none⟩ = some (.int .u8 (y.toNat : Int)) := by
        have hl : N - 1 - k < (padL r N (8 * n) k).length := by omega
        refine ⟨(padL r N (8 * n) k)[N - 1 - k], ?_⟩
        rw [hown.cellAt _ (by omega), bcs_get, List.getElem?_eq_getElem hl]
        rfl
      have q2 := hown.frozenAt (N - 1 - k)
      clear hlen
      go_wp2
      have hv : Value.int .u8 ((n : Int) * 8 / 2 ^ (8 * k) % 256) = bc (UInt8.ofNat (8 * n / 2 ^ (8 * k))) := by
        unfold bc
        rw [show (n : Int) * 8 / 2 ^ (8 * k) % 256 = ((8 * n / 2 ^ (8 * k) % 256 : Nat) : Int) by rw [Nat.mul_comm 8 n]; simp]
        simp
      have hst := owns_put hown (N - 1 - k) _ _ hv
      rw [padL_step r N (8 * n) k hN1 hlt] at hst
      exact ⟨⟨k + 1, by omega, by go_num, hst, hbe.setCell (Nat.le_refl _) _⟩, by simp [intOf]; omega⟩
    · have hk8 : k = 8 := by omega
      subst hk8
      have hh := HB.of_owns hown
      go_wp2
      go_ret
      exact ⟨rfl, hh, hbe⟩

end Go.Proofs.YtgfddabccjfhiabDoor

namespace Go.Proofs.YtgfddabccjfhiabDoor
open Go.RowKit

theorem spellL_all (s : St) : spellL (stL s) 8 = spellSt s := by simp [spellL, stL, spellSt]

theorem index8_0 (s : St) (w : World) : (Instr.index 66 (.agg #[.int .u32 (s.a.toNat : Int), .int .u32 (s.b.toNat : Int), .int .u32 (s.c.toNat : Int), .int .u32 (s.d.toNat : Int), .int .u32 (s.e.toNat : Int), .int .u32 (s.f.toNat : Int), .int .u32 (s.g.toNat : Int), .int .u32 (s.h.toNat : Int)]) (.int .i64 0)).run Tryd.prog w = .ok (.int .u32 (s.a.toNat : Int)) w := by kernel_rfl
theorem index8_1 (s : St) (w : World) : (Instr.index 66 (.agg #[.int .u32 (s.a.toNat : Int), .int .u32 (s.b.toNat : Int), .int .u32 (s.c.toNat : Int), .int .u32 (s.d.toNat : Int), .int .u32 (s.e.toNat : Int), .int .u32 (s.f.toNat : Int), .int .u32 (s.g.toNat : Int), .int .u32 (s.h.toNat : Int)]) (.int .i64 1)).run Tryd.prog w = .ok (.int .u32 (s.b.toNat : Int)) w := by kernel_rfl
theorem index8_2 (s : St) (w : World) : (Instr.index 66 (.agg #[.int .u32 (s.a.toNat : Int), .int .u32 (s.b.toNat : Int), .int .u32 (s.c.toNat : Int), .int .u32 (s.d.toNat : Int), .int .u32 (s.e.toNat : Int), .int .u32 (s.f.toNat : Int), .int .u32 (s.g.toNat : Int), .int .u32 (s.h.toNat : Int)]) (.int .i64 2)).run Tryd.prog w = .ok (.int .u32 (s.c.toNat : Int)) w := by kernel_rfl
theorem index8_3 (s : St) (w : World) : (Instr.index 66 (.agg #[.int .u32 (s.a.toNat : Int), .int .u32 (s.b.toNat : Int), .int .u32 (s.c.toNat : Int), .int .u32 (s.d.toNat : Int), .int .u32 (s.e.toNat : Int), .int .u32 (s.f.toNat : Int), .int .u32 (s.g.toNat : Int), .int .u32 (s.h.toNat : Int)]) (.int .i64 3)).run Tryd.prog w = .ok (.int .u32 (s.d.toNat : Int)) w := by kernel_rfl
theorem index8_4 (s : St) (w : World) : (Instr.index 66 (.agg #[.int .u32 (s.a.toNat : Int), .int .u32 (s.b.toNat : Int), .int .u32 (s.c.toNat : Int), .int .u32 (s.d.toNat : Int), .int .u32 (s.e.toNat : Int), .int .u32 (s.f.toNat : Int), .int .u32 (s.g.toNat : Int), .int .u32 (s.h.toNat : Int)]) (.int .i64 4)).run Tryd.prog w = .ok (.int .u32 (s.e.toNat : Int)) w := by kernel_rfl
theorem index8_5 (s : St) (w : World) : (Instr.index 66 (.agg #[.int .u32 (s.a.toNat : Int), .int .u32 (s.b.toNat : Int), .int .u32 (s.c.toNat : Int), .int .u32 (s.d.toNat : Int), .int .u32 (s.e.toNat : Int), .int .u32 (s.f.toNat : Int), .int .u32 (s.g.toNat : Int), .int .u32 (s.h.toNat : Int)]) (.int .i64 5)).run Tryd.prog w = .ok (.int .u32 (s.f.toNat : Int)) w := by kernel_rfl
theorem index8_6 (s : St) (w : World) : (Instr.index 66 (.agg #[.int .u32 (s.a.toNat : Int), .int .u32 (s.b.toNat : Int), .int .u32 (s.c.toNat : Int), .int .u32 (s.d.toNat : Int), .int .u32 (s.e.toNat : Int), .int .u32 (s.f.toNat : Int), .int .u32 (s.g.toNat : Int), .int .u32 (s.h.toNat : Int)]) (.int .i64 6)).run Tryd.prog w = .ok (.int .u32 (s.g.toNat : Int)) w := by kernel_rfl
theorem index8_7 (s : St) (w : World) : (Instr.index 66 (.agg #[.int .u32 (s.a.toNat : Int), .int .u32 (s.b.toNat : Int), .int .u32 (s.c.toNat : Int), .int .u32 (s.d.toNat : Int), .int .u32 (s.e.toNat : Int), .int .u32 (s.f.toNat : Int), .int .u32 (s.g.toNat : Int), .int .u32 (s.h.toNat : Int)]) (.int .i64 7)).run Tryd.prog w = .ok (.int .u32 (s.h.toNat : Int)) w := by kernel_rfl
theorem index8 (s : St) (k : Nat) (x : UInt32) (hx : (stL s)[k]? = some x) (w : World) : (Instr.index 66 (.agg #[.int .u32 (s.a.toNat : Int), .int .u32 (s.b.toNat : Int), .int .u32 (s.c.toNat : Int), .int .u32 (s.d.toNat : Int), .int .u32 (s.e.toNat : Int), .int .u32 (s.f.toNat : Int), .int .u32 (s.g.toNat : Int), .int .u32 (s.h.toNat : Int)]) (.int .i64 (k : Int))).run Tryd.prog w = .ok (.int .u32 (x.toNat : Int)) w := by
  match k, hx with
  | 0, hx => simp [stL] at hx; subst hx; exact index8_0 s w
  | 1, hx => simp [stL] at hx; subst hx; exact index8_1 s w
  | 2, hx => simp [stL] at hx; subst hx; exact index8_2 s w
  | 3, hx => simp [stL] at hx; subst hx; exact index8_3 s w
  | 4, hx => simp [stL] at hx; subst hx; exact index8_4 s w
  | 5, hx => simp [stL] at hx; subst hx; exact index8_5 s w
  | 6, hx => simp [stL] at hx; subst hx; exact index8_6 s w
  | 7, hx => simp [stL] at hx; subst hx; exact index8_7 s w

/-- Noughts. -/
def zero32 : List UInt8 := List.replicate 32 0

theorem spellL_length (L : List UInt32) (k : Nat) (hL : L.length = 8) (hk : k ≤ 8) : (spellL L k).length = 32 := by
  unfold spellL
  rw [List.length_append, flat_length, List.length_take, hL, List.length_replicate]
  omega

theorem owns_cell {w : World} {base : Nat} {e : TypeId} {g n : Nat} {l : List UInt8} (h : w.ownsRow base e 1 (.slice (some ⟨g, 0, none⟩) n n) n (bcs l)) (j : Nat) (hj : j < n) : ∃ y : UInt8, w.cell? ⟨g, j, none⟩ = some (.int .u8 (y.toNat : Int)) := by
  have hl : j < l.length := by
    have := h.1
    rw [bcs_length] at this
    omega
  refine ⟨l[j], ?_⟩
  rw [h.cellAt _ (by omega), bcs_get, List.getElem?_eq_getElem hl]
  rfl

set_option maxRecDepth 100000 in
set_option maxHeartbeats 1000000 in
theorem spell_any (s : St) (w : World) :
    Calls Tryd.prog 59 #[stV s] w fun e w' => ∃ c, e = .returned (.slice (some ⟨w.heap.size + 1, 0, none⟩) 32 c) ∧ w'.ownsRow w.heap.size 5 1 (.slice (some ⟨w.heap.size + 1, 0, none⟩) 32 c) 32 (bcs (spellSt s)) ∧ Below w.heap.size w w' := by
  have hmk : ∀ w : World, (Instr.makeSlice 30 (.int .i64 32) (.int .i64 32)).run Tryd.prog w = .ok (.slice (some ⟨w.heap.size, 0, none⟩) 32 32) (w.alloc (.cells (bcs zero32).toArray 5)) := fun _ => by kernel_rfl
  rw [← spellL_all]
  obtain ⟨L, hL⟩ : ∃ L, L = stL s := ⟨_, rfl⟩
  have hix : ∀ (k : Nat) (x : UInt32), L[k]? = some x → ∀ w, (Instr.index 66 (.agg #[.int .u32 (s.a.toNat : Int), .int .u32 (s.b.toNat : Int), .int .u32 (s.c.toNat : Int), .int .u32 (s.d.toNat : Int), .int .u32 (s.e.toNat : Int), .int .u32 (s.f.toNat : Int), .int .u32 (s.g.toNat : Int), .int .u32 (s.h.toNat : Int)]) (.int .i64 (k : Int))).run Tryd.prog w = .ok (.int .u32 (x.toNat : Int)) w := by
    intro k x hx w
    rw [hL] at hx
    exact index8 s k x hx w
  have HIX : Hid (∀ (k : Nat) (x : UInt32), L[k]? = some x → ∀ w, (Instr.index 66 (.agg #[.int .u32 (s.a.toNat : Int), .int .u32 (s.b.toNat : Int), .int .u32 (s.c.toNat : Int), .int .u32 (s.d.toNat : Int), .int .u32 (s.e.toNat : Int), .int .u32 (s.f.toNat : Int), .int .u32 (s.g.toNat : Int), .int .u32 (s.h.toNat : Int)]) (.int .i64 (k : Int))).run Tryd.prog w = .ok (.int .u32 (x.toNat : Int)) w) := hix
  have hL8 : L.length = 8 := by rw [hL]; rfl
  have HL : Hid (L.length = 8) := hL8
  rw [← hL]
  clear hix hL hL8
  have z1 : ((w.alloc (.cells #[.int .u32 (s.a.toNat : Int), .int .u32 (s.b.toNat : Int), .int .u32 (s.c.toNat : Int), .int .u32 (s.d.toNat : Int), .int .u32 (s.e.toNat : Int), .int .u32 (s.f.toNat : Int), .int .u32 (s.g.toNat : Int), .int .u32 (s.h.toNat : Int)] 66)).alloc (.cells (bcs zero32).toArray 5)).ownsRow w.heap.size 5 1 (.slice (some ⟨w.heap.size + 1, 0, none⟩) 32 32) 32 (bcs (spellL L 0)) := by
    have := World.ownsRow_lit (w.alloc (.cells #[.int .u32 (s.a.toNat : Int), .int .u32 (s.b.toNat : Int), .int .u32 (s.c.toNat : Int), .int .u32 (s.d.toNat : Int), .int .u32 (s.e.toNat : Int), .int .u32 (s.f.toNat : Int), .int .u32 (s.g.toNat : Int), .int .u32 (s.h.toNat : Int)] 66)) (base := w.heap.size) (e := 5) (size := 1) (bcs zero32).toArray 32 (by simp) (by unfold maxLen; omega) (by simp [bcs, zero32])
    rw [World.size_alloc] at this
    exact this
  have zb : Below w.heap.size w ((w.alloc (.cells #[.int .u32 (s.a.toNat : Int), .int .u32 (s.b.toNat : Int), .int .u32 (s.c.toNat : Int), .int .u32 (s.d.toNat : Int), .int .u32 (s.e.toNat : Int), .int .u32 (s.f.toNat : Int), .int .u32 (s.g.toNat : Int), .int .u32 (s.h.toNat : Int)] 66)).alloc (.cells (bcs zero32).toArray 5)) := ((Below.refl _ w).alloc (Nat.le_refl _) _).alloc (by simp) _
  unfold stV
  go_enter Tryd.func59, Tryd.ntmps59
  go_wp2
  generalize ((w.alloc (.cells #[.int .u32 (s.a.toNat : Int), .int .u32 (s.b.toNat : Int), .int .u32 (s.c.toNat : Int), .int .u32 (s.d.toNat : Int), .int .u32 (s.e.toNat : Int), .int .u32 (s.f.toNat : Int), .int .u32 (s.g.toNat : Int), .int .u32 (s.h.toNat : Int)] 66)).alloc (.cells (bcs zero32).toArray 5)) = w1 at *
  go_loopw [8] (fun i wr => ∃ k : Nat, k ≤ 8 ∧ i = .int .i64 k ∧ wr.ownsRow w.heap.size 5 1 (.slice (some ⟨w.heap.size + 1, 0, none⟩) 32 32) 32 (bcs (spellL L k)) ∧ Below w.heap.size w wr)
    (fun i _ => 8 - (intOf i).toNat)
  case atStart => exact ⟨0, Nat.zero_le _, rfl, z1, zb⟩
  case round =>
    clear z1 zb hmk
    obtain ⟨k, hk, rfl, hown, hbe⟩ := hrel
    by_cases hlt : k < 8
    · obtain ⟨x, hx⟩ : ∃ x, L[k]? = some x := ⟨_, List.getElem?_eq_getElem (by rw [HL.out]; exact hlt)⟩
      have hi := HIX.out k x hx
      have HX : Hid (L[k]? = some x) := hx
      clear hx
      have hxx := w32 x
      obtain ⟨y0, q0⟩ := owns_cell hown (4 * k) (by omega)
      obtain ⟨y1, q1⟩ := owns_cell hown (4 * k + 1) (by omega)
      obtain ⟨y2, q2⟩ := owns_cell hown (4 * k + 2) (by omega)
      obtain ⟨y3, q3⟩ := owns_cell hown (4 * k + 3) (by omega)
      have f0 := hown.frozenAt (4 * k)
      have f1 := hown.frozenAt (4 * k + 1)
      have f2 := hown.frozenAt (4 * k + 2)
      have f3 := hown.frozenAt (4 * k + 3)
      go_wp2
      have p0 := owns_put hown (4 * k) (UInt8.ofNat (x.toNat / 16777216)) (.int .u8 ((x.toNat : Int) / 16777216)) (by simp [bc]; omega)
      have p1 := owns_put p0 (4 * k + 1) (UInt8.ofNat (x.toNat / 65536)) (.int .u8 ((x.toNat : Int) / 65536 % 256)) (by simp [bc])
      have p2 := owns_put p1 (4 * k + 2) (UInt8.ofNat (x.toNat / 256)) (.int .u8 ((x.toNat : Int) / 256 % 256)) (by simp [bc])
      have p3 := owns_put p2 (4 * k + 3) (UInt8.ofNat x.toNat) (.int .u8 ((x.toNat : Int) % 256)) (by simp [bc])
      rw [spellL_step L k x HX.out hlt] at p3
      exact ⟨⟨k + 1, by omega, by go_num, p3, (((hbe.setCell (by simp) _).setCell (by simp) _).setCell (by simp) _).setCell (by simp) _⟩, by simp [intOf]; omega⟩
    · have hk8 : k = 8 := by omega
      subst hk8
      go_wp2
      go_ret
      exact ⟨_, rfl, hown, hbe⟩

end Go.Proofs.YtgfddabccjfhiabDoor

namespace Go.Proofs.YtgfddabccjfhiabDoor

theorem mixes_front (s : St) (l r : List UInt8) : ∀ n, 64 * n ≤ l.length → mixes s (l ++ r) n = mixes s l n := by
  intro n
  induction n with
  | zero => intro _; rfl
  | succ n ih =>
    intro h
    have h1 : 64 * n ≤ l.length := by omega
    rw [mixes, mixes, ih h1, List.drop_append_of_le_length h1, List.take_append_of_le_length (by simp; omega)]

theorem mixes_behind (s : St) (t : List UInt8) (q : Nat) : ∀ n, mixes s t (q + n) = mixes (mixes s t q) (t.drop (64 * q)) n := by
  intro n
  induction n with
  | zero => rfl
  | succ n ih =>
    rw [← Nat.add_assoc, mixes, mixes, ih, List.drop_drop, Nat.mul_add]

/-- What is mixed behind q whole blocks of a text is the padding of its rest. -/
theorem tail_eq (l : List UInt8) (q : Nat) (h1 : 64 * q ≤ l.length) (h2 : l.length < 64 * q + 64) :
    (l ++ padding l.length).drop (64 * q) = padL (l.drop (64 * q)) (64 * blocks (l.length - 64 * q)) (8 * l.length) 8 ∧ blocks l.length = q + blocks (l.length - 64 * q) := by
  refine ⟨?_, by unfold blocks; omega⟩
  rw [List.drop_append_of_le_length h1]
  unfold padL padding
  congr 2
  congr 1
  · congr 1
    simp only [List.length_drop]
    unfold blocks
    omega

end Go.Proofs.YtgfddabccjfhiabDoor
