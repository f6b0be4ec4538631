/- What this text proves: the walks of seglog's four and textOf over this program. What this text proves: the walk of seglog's textOf over this program. What this text proves: the walk of seglog's markOf over this program. -/
import Derived.Test.YtcgpgnajmfemhaaGreatDoorJN1
import Derived.Test.YtcgpgnajmfemhaaGreatDoorJQ9
import Derived.Laws.CopyOwn
import Derived.Deep.RegionLaw
import Derived.Lib.LazyBuf
namespace Go.Proofs.YtcgpgnajmfemhaaGreatDoor
open Go.RowKit

/-- A call of a Go function of one argument at a step of a region that draws. -/
theorem step_calls1 {P : Program} {w : World} {ops : Array Oper} {o : Oper} {a : Act} {K : Act → World → Prop} {Q : Exit → Act → World → Prop} {E : Prop} (hgd : o.guard = none) (f : FuncId) (x : Operand) (tx : TypeId)
    (ho : o.op = .call { callee := .value (.func f), args := #[x], argTypes := #[tx] }) (vx : Value) (hx : a.eval x = vx) (hf : (callFunc f #[vx]).run P w = .ok (.enter f #[vx]) w) (R : Value → World → Prop)
    (hC : Calls P f #[vx] w fun e w' => ∃ v, e = .returned v ∧ R v w') (h : ∀ v w', R v w' → K (a.put o.dst v) w') :
    if Region.wanted o (yielded ops a.tmps) = true then Oper.wp P o a w K Q else E := by
  have hw : Region.wanted o (yielded ops a.tmps) = true := by simp [Region.wanted, hgd]
  rw [if_pos hw]
  unfold Oper.wp
  have h0 : a.eval (.func f) = .func (.func f) #[] #[] := rfl
  have he : (execOp a.eval o).run P w = .ok (.enter f #[vx]) w := by
    simp only [execOp, ho, resolve, invoke, h0, List.map_toArray, List.map_cons, List.map_nil, hx, Sem.run_bind]
    simpa [Deferred.ofValue] using hf
  rw [he, Oper.upon_enter]
  refine hC.mono ?_
  rintro e w' ⟨v, rfl, hr⟩
  exact h v w' hr

/-- Block g is a row of bytes. -/
def TX (w : World) (g : Nat) (l : List UInt8) : Prop := w.heap[g]? = some (.cells (bcs l).toArray 5 (0, 0))

theorem TX.later {w w' : World} {g : Nat} {l : List UInt8} (h : TX w g l) (hb : Below w.heap.size w w') : TX w' g l := (hb.block g (Array.getElem?_eq_some_iff.1 h).1).trans h
theorem TX.hb {w : World} {g n : Nat} {l : List UInt8} (h : TX w g l) (hn : l.length = n) (hm : n ≤ maxLen) : HB w (.slice (some ⟨g, 0, none⟩) n n) l := by
  subst hn
  exact HB.block h hm
theorem TX.of_owns {w : World} {base g n : Nat} {l : List UInt8} (h : w.ownsRow base 5 1 (.slice (some ⟨g, 0, none⟩) n n) n (bcs l)) : TX w g l ∧ l.length = n ∧ base ≤ g := by
  have hl : l.length = n := by have := h.1; rw [bcs_length] at this; omega
  obtain ⟨_, q⟩ := h
  rcases q with ⟨h0, _⟩ | ⟨g', cap, cur, he, hb, hg, hle, hm, hsz, ht⟩
  · cases h0
  · simp only [Value.slice.injEq, Option.some.injEq, Addr.mk.injEq, and_true, true_and] at he
    obtain ⟨rfl, rfl⟩ := he
    refine ⟨?_, hl, hb⟩
    unfold TX
    rw [hg, ← ht, List.take_of_length_le (by simp; omega)]

theorem bcs_splice (x l : List UInt8) (k : Nat) : splice (bcs x) k (bcs l) = bcs (splice x k l) := by
  simp [splice, bcs, List.map_take, List.map_drop]
theorem splice_len (x l : List UInt8) (k : Nat) (h : k + l.length ≤ x.length) : (splice x k l).length = x.length := by
  simp [splice]
  omega
theorem HB.src {w : World} {p : Option Addr} {n c : Nat} {l : List UInt8} (h : HB w (.slice p n c) l) : 0 < (bcs l).length → ∃ ad, p = some ad ∧ ∀ j v, (bcs l)[j]? = some v → w.cell? (ad.add j) = some v := by
  intro h0
  rw [bcs_length] at h0
  obtain ⟨b, o, rfl, _⟩ := h.addr (by have := h.len.1; omega)
  exact ⟨_, rfl, h.cells⟩

theorem run_tail (g n k : Nat) (x : Int) (hx : x = (k : Int)) (hk : k < n) (W : World) : (Instr.slice 37 (.slice (some ⟨g, 0, none⟩) n n) (some (.int .i64 x)) none none).run Tryz.prog W = .ok (.slice (some ⟨g, k, none⟩) (n - k) (n - k)) W := by
  rw [run_cut (P := Tryz.prog) Tryz.underlying37 s_u8 (some ⟨g, 0, none⟩) n n k x hx (by omega) W]
  unfold cutP
  rw [if_neg (by omega)]
  simp [Addr.add_lit]

set_option maxRecDepth 100000 in
set_option maxHeartbeats 400000 in
theorem four_any (n : Int) (U : Nat) (hU : IntKind.u64.wrap n = (U : Int)) (w : World) : Calls Tryz.prog 166 #[.int .i64 n] w fun e w' => ∃ v, e = .returned v ∧ ∃ p c, v = .slice p 4 c ∧ HB w' (.slice p 4 c) ((be64 U).drop 4) ∧ Below w.heap.size w w' := by
  have hN := number_any n U hU w
  go_enter Tryz.func166, Tryz.ntmps166
  go_wp2_with (go_at_call 140; refine hN.mono ?_; rintro e w1 ⟨p, c, rfl, h1, hb1⟩; have k1 := fun W => run_cut (P := Tryz.prog) Tryz.underlying37 s_u8 p 8 c 4 4 rfl (by omega) W; have h2 := h1.behind 4 (by omega))
  go_ret
  exact ⟨_, rfl, _, _, rfl, h2, hb1⟩

end Go.Proofs.YtcgpgnajmfemhaaGreatDoor

namespace Go.Proofs.YtcgpgnajmfemhaaGreatDoor
open Go.RowKit

/-- The text of record number U. -/
def textL (U : Nat) (b : List UInt8) : List UInt8 := splice (splice (splice (List.replicate (tsec b.length * 64) 0) 0 (be64 U)) 8 ((be64 b.length).drop 4)) 12 b

theorem textL_len (U : Nat) (b : List UInt8) : (textL U b).length = tsec b.length * 64 := by
  have h1 : 12 + b.length ≤ tsec b.length * 64 := by unfold tsec; omega
  have e1 : (splice (List.replicate (tsec b.length * 64) 0) 0 (be64 U)).length = tsec b.length * 64 := by rw [splice_len _ _ _ (by rw [be64_length, List.length_replicate]; omega), List.length_replicate]
  have e2 : (splice (splice (List.replicate (tsec b.length * 64) 0) 0 (be64 U)) 8 ((be64 b.length).drop 4)).length = tsec b.length * 64 := by rw [splice_len _ _ _ (by rw [e1, List.length_drop, be64_length]; omega), e1]
  unfold textL
  rw [splice_len _ _ _ (by rw [e2]; omega), e2]

theorem cf_four (a : Value) (w : World) : (callFunc 166 #[a]).run Tryz.prog w = .ok (.enter 166 #[a]) w := by go_simp

set_option maxRecDepth 100000 in
set_option maxHeartbeats 1600000 in
theorem textOf_any (U : Nat) (hU : U < 9223372036854775808) (v : Value) (b : List UInt8) (w : World) (hv : HB w v b) (hb : b.length ≤ 4000) :
    Calls Tryz.prog 127 #[.int .i64 (U : Int), v] w fun e w' => ∃ g, e = .returned (.slice (some ⟨g, 0, none⟩) (tsec b.length * 64) (tsec b.length * 64)) ∧ TX w' g (textL U b) ∧ w.heap.size ≤ g ∧ Below w.heap.size w w' := by
  obtain ⟨p, c, rfl⟩ := hv.shape
  obtain ⟨i0, hi, hz0, hz1, hz2⟩ := info_parts i_u8
  have hT := tsec_any b.length (by omega) w
  have ht0 : 12 + b.length ≤ tsec b.length * 64 := by unfold tsec; omega
  have ht1 : tsec b.length ≤ 64 := by unfold tsec; omega
  have hL := textL_len U b
  obtain ⟨TL, hTL⟩ : ∃ TL, TL = textL U b := ⟨_, rfl⟩
  rw [← hTL]
  unfold textL at hTL
  generalize tsec b.length = t at *
  have hN := fun W => number_any (U : Int) U (by rw [IntKind.wrap]; simp [IntKind.bits, IntKind.signed]; omega) W
  have hF := fun W => four_any (b.length : Int) b.length (by rw [IntKind.wrap]; simp [IntKind.bits, IntKind.signed]; omega) W
  have hm : (t : Int) * 64 = ((t * 64 : Nat) : Int) := by omega
  generalize hn : t * 64 = n at *
  go_enter Tryz.func127, Tryz.ntmps127
  go_wp2_with (first
    | (go_at_call 126; refine hT.mono ?_; rintro e w1 ⟨rfl, rfl⟩)
    | (at_make; refine wpList_make_full _ rfl _ _ 37 rfl w1.heap.size 5 i0 (.int .u8 0) 1 Tryz.underlying37 hi hz0 hz1 .i64 .i64 _ _ n rfl rfl rfl rfl (by rw [hz2]; omega) (by unfold maxLen; omega) (Nat.le_refl _) ?_; intro w2 hown2 hgrow2))
  have hb2 : Below w1.heap.size w1 w2 := (Below.refl _ w1).grown hgrow2 (Nat.le_refl _) (by intro k hk; cases hk)
  replace hown2 : w2.ownsRow w1.heap.size 5 1 (.slice (some ⟨w1.heap.size, 0, none⟩) n n) n (bcs (List.replicate n 0)) := by
    rw [← made_bcs]
    rw [Nat.mul_one] at hown2
    exact hown2
  have x2 := (TX.of_owns hown2).1
  have L2 : (List.replicate n (0 : UInt8)).length = n := List.length_replicate
  generalize hG : w1.heap.size = G at *
  obtain ⟨X2, hX2⟩ : ∃ X2, X2 = List.replicate n (0 : UInt8) := ⟨_, rfl⟩
  rw [← hX2] at x2 L2 hTL
  clear hX2 hown2 hgrow2 hT
  go_wp2_with (first
    | (go_at_call 140; refine (hN _).mono ?_; rintro e w3 ⟨p3, c3, rfl, h3, hb3⟩; have x3 := x2.later hb3; have hb03 : Below G w1 w3 := hb2.trans (hb3.mono (by rw [← hG]; exact hb2.size)))
    | (refine wpList_copy_splice rfl (.tmp 11) (.tmp 13) 37 37 rfl 5 Tryz.underlying37 s_u8 _ _ _ _ _ _ rfl rfl G 0 (bcs X2) 5 x3 (bcs (be64 U)) (by rw [bcs_length, be64_length]; exact (Nat.min_eq_left (by omega)).symm) (fun h0 => ⟨rfl, h3.src h0⟩) (by rw [bcs_length, bcs_length, be64_length, L2]; omega) (bcs_one _) G w1 hb03 (Nat.le_refl _) ?_; intro w4 hg4 hb4))
  have x4 : TX w4 G (splice X2 0 (be64 U)) := by have := hg4.out; rw [bcs_splice] at this; exact this
  have L4 : (splice X2 0 (be64 U)).length = n := by rw [splice_len _ _ _ (by rw [be64_length, L2]; omega), L2]
  generalize splice X2 0 (be64 U) = X4 at *
  have k8 := run_tail G n 8 8 rfl (by omega)
  have k12 := run_tail G n 12 12 rfl (by omega)
  have hF4 := hF w4.drew
  have hb4d : Below w4.heap.size w4 w4.drew := (Below.refl _ _).drew
  have hGw : G < w4.heap.size := (Array.getElem?_eq_some_iff.1 x4).1
  have hv4 := hv.later (hG ▸ hb4)
  simp only [Act.put, List.setIfInBounds_toArray, List.set_cons_zero, List.set_cons_succ]
  have hvw := hv
  clear hg4 hN hF hv x2 x3 h3
  go_region_law (first
    | (refine step_calls1 (by rfl) 166 _ _ (by rfl) _ (by rfl) (cf_four _ _) _ hF4 ?_; rintro v5 w5 ⟨p5, c5, rfl, h5, hb5⟩; have hb45 : Below w4.heap.size w4 w5 := hb4d.trans hb5; have x5 := x4.later hb45; have hb05 : Below G w1 w5 := hb4.trans (hb45.mono (by omega)))
    | (refine step_copy_splice (by rfl) (.tmp 16) (.tmp 19) 37 37 (by rfl) 5 Tryz.underlying37 s_u8 _ _ _ _ _ _ (by rfl) (by rfl) G 8 (bcs X4) 5 x5 (bcs ((be64 b.length).drop 4)) (by rw [bcs_length, List.length_drop, be64_length]; exact (Nat.min_eq_left (by omega)).symm) (fun h0 => ⟨rfl, h5.src h0⟩) (by rw [bcs_length, bcs_length, List.length_drop, be64_length, L4]; omega) (bcs_one _) G w1 hb05 (Nat.le_refl _) ?_; intro w6 hg6 hb6))
  all_goals
    have x6 : TX w6 G (splice X4 8 ((be64 b.length).drop 4)) := by have := hg6.out; rw [bcs_splice] at this; exact this
    have L6 : (splice X4 8 ((be64 b.length).drop 4)).length = n := by rw [splice_len _ _ _ (by rw [List.length_drop, be64_length, L4]; omega), L4]
    generalize splice X4 8 ((be64 b.length).drop 4) = X6 at *
    have hv6 : HB w6 (.slice p b.length c) b := hvw.later (hG ▸ hb6)
    clear hg6 h5 x5 x4 hv4 hF4
    go_wp2_with (refine wpList_copy_splice rfl (.tmp 22) (.tmp 23) 37 37 rfl 5 Tryz.underlying37 s_u8 _ _ _ _ _ _ rfl rfl G 12 (bcs X6) 5 x6 (bcs b) (by rw [bcs_length]; exact (Nat.min_eq_left (by omega)).symm) (fun h0 => ⟨rfl, hv6.src h0⟩) (by rw [bcs_length, bcs_length, L6]; omega) (bcs_one _) G w1 hb6 (Nat.le_refl _) ?_; intro w7 hg7 hb7)
    go_ret
    refine ⟨_, rfl, ?_, Nat.le_of_eq hG, ?_⟩
    · rw [hTL]
      have := hg7.out
      rw [bcs_splice] at this
      exact this
    · rw [hG]
      exact hb7

end Go.Proofs.YtcgpgnajmfemhaaGreatDoor

namespace Go.Proofs.YtcgpgnajmfemhaaGreatDoor
open Go.RowKit

/-- 'copy(row, s)', s a string that row has room for, row a row of bytes. -/
theorem wpList_copy_text {P : Program} {w : World} {ops : Array Oper} {rest : List Oper} {o : Oper} {a : Act} {Q : Exit → Act → World → Prop} (hgd : o.guard = none) (d s : Operand) (dT sT : TypeId)
    (ho : o.op = .call { callee := .builtin .copy, args := #[d, s], argTypes := #[dT, sT] }) (elem : TypeId) (hu : P.underlying dT = some (.slice elem)) (hz : ∀ w, (Go.sizeOf elem).run P w = .ok 1 w)
    (b dLen dCap : Nat) (hd : a.eval d = .slice (some ⟨b, 0, none⟩) dLen dCap) (t : ByteArray) (hs : a.eval s = .string t) (hle : t.size ≤ dLen)
    (hc : ∀ j, j < t.size → (w.cell? ⟨b, 0 + j, none⟩).isSome = true) (hf : ∀ j, j < t.size → w.frozen? ⟨b, 0 + j, none⟩ = false)
    (h : wpList P ops Q rest (a.put o.dst (goInt t.size)) (w.setCells b 0 (t.data.toList.map fun x => Value.int .u8 (x.toNat : Int)))) : wpList P ops Q (o :: rest) a w := by
  refine wpList_plain hgd fun K hK => ?_
  have hrun := run_copy_string (P := P) w dT sT o.type elem b 0 dLen dCap t hu hz hle hc hf
  unfold Oper.wp
  simp [execOp, ho, resolve, invoke, builtin, hd, hs, hrun, Result.andThen]
  exact hK _ _ h

theorem z_u8 (w : World) : (Go.sizeOf 5).run Tryz.prog w = .ok 1 w := by
  obtain ⟨i, hi, hs⟩ := Option.map_eq_some_iff.1 s_u8
  simp [Go.sizeOf, typeInfo, hi, hs, Result.andThen]

/-- The mark behind a text. -/
def markL (U : Nat) (T : List UInt8) : List UInt8 := splice (splice (splice (65 :: 76 :: List.replicate 62 0) 8 (be64 U)) 16 ((be64 (T.length / 64)).drop 4)) 20 (sha T)

theorem markL_len (U : Nat) (T : List UInt8) : (markL U T).length = 64 := by
  have e0 : ((65 : UInt8) :: 76 :: List.replicate 62 0).length = 64 := by simp
  have e1 : (splice (65 :: 76 :: List.replicate 62 0) 8 (be64 U)).length = 64 := by rw [splice_len _ _ _ (by rw [be64_length, e0]; omega), e0]
  have e2 : (splice (splice (65 :: 76 :: List.replicate 62 0) 8 (be64 U)) 16 ((be64 (T.length / 64)).drop 4)).length = 64 := by rw [splice_len _ _ _ (by rw [e1, List.length_drop, be64_length]; omega), e1]
  unfold markL
  rw [splice_len _ _ _ (by rw [e2, sha_length]; omega), e2]

theorem cf_number (a : Value) (w : World) : (callFunc 140 #[a]).run Tryz.prog w = .ok (.enter 140 #[a]) w := by go_simp
theorem cf_sum (a : Value) (w : World) : (callFunc 115 #[a]).run Tryz.prog w = .ok (.enter 115 #[a]) w := by go_simp

theorem TX.al {w : World} {g : Nat} (h : TX w g (List.replicate 64 0)) : TX (w.setCells g 0 [.int .u8 65, .int .u8 76]) g (65 :: 76 :: List.replicate 62 0) := by
  unfold TX at h ⊢
  unfold World.setCells World.setCells World.setCells
  rw [heap_setCell_same _ g 1 _ _ _ (heap_setCell_same w g 0 _ _ _ h)]
  rfl

set_option maxRecDepth 100000 in
set_option maxHeartbeats 3200000 in
theorem markOf_any (U : Nat) (hU : U < 9223372036854775808) (p : Option Addr) (c n : Nat) (T : List UInt8) (w : World) (hv : HB w (.slice p n c) T) (hT : Tabs w) (hTm : T.length ≤ 140737488355328) :
    Calls Tryz.prog 129 #[.int .i64 (U : Int), .slice p n c] w fun e w' => ∃ g, e = .returned (.slice (some ⟨g, 0, none⟩) 64 64) ∧ TX w' g (markL U T) ∧ w.heap.size ≤ g ∧ Below w.heap.size w w' := by
  obtain rfl : n = T.length := hv.len.1
  obtain ⟨i0, hi, hz0, hz1, hz2⟩ := info_parts i_u8
  obtain ⟨ML, hML⟩ : ∃ ML, ML = markL U T := ⟨_, rfl⟩
  rw [← hML]
  unfold markL at hML
  have hN := fun W => (number_any (U : Int) U (by rw [IntKind.wrap]; simp [IntKind.bits, IntKind.signed]; omega) W).mono (R' := fun e w' => ∃ v, e = .returned v ∧ ∃ p c, v = .slice p 8 c ∧ HB w' (.slice p 8 c) (be64 U) ∧ Below W.heap.size W w') (fun e w' ⟨p, c, h1, h2, h3⟩ => ⟨_, h1, p, c, rfl, h2, h3⟩)
  have hF := fun W => four_any ((T.length / 64 : Nat) : Int) (T.length / 64) (by rw [IntKind.wrap]; simp [IntKind.bits, IntKind.signed]; omega) W
  have hS := fun W (hb : Below w.heap.size w W) => (sum_any _ T W (hv.later hb) hTm (hT.later hb)).mono (R' := fun e w' => ∃ v, e = .returned v ∧ ∃ p c, v = .slice p 32 c ∧ HB w' (.slice p 32 c) (sha T) ∧ Below W.heap.size W w') (fun e w' ⟨v, h1, h2, h3⟩ => by
    have h4 := HB.of_owns h2
    obtain ⟨q, d, rfl⟩ := h4.shape
    rw [sha_length] at h1 h4
    exact ⟨_, h1, q, d, rfl, h4, h3⟩)
  have lS : (sha T).length = 32 := sha_length T
  have hdiv : ((T.length : Int)).tdiv 64 = ((T.length / 64 : Nat) : Int) := by simp
  generalize sha T = D at *
  generalize hq : T.length / 64 = q at *
  have hwq : IntKind.i64.wrap (q : Int) = (q : Int) := wrapM _ (by omega) (by omega)
  clear hv hT
  go_enter Tryz.func129, Tryz.ntmps129
  go_wp2_with (at_make; refine wpList_make_full _ rfl _ _ 37 rfl w.heap.size 5 i0 (.int .u8 0) 1 Tryz.underlying37 hi hz0 hz1 .i64 .i64 _ _ 64 rfl rfl ?qa ?qb ?qc ?qd ?qe ?_)
  all_goals (try (first | omega | (unfold maxLen; omega) | (rw [hz2]; omega)))
  intro w2 hown2 hgrow2
  have hb2 : Below w.heap.size w w2 := (Below.refl _ w).grown hgrow2 (Nat.le_refl _) (by intro k hk; cases hk)
  replace hown2 : w2.ownsRow w.heap.size 5 1 (.slice (some ⟨w.heap.size, 0, none⟩) 64 64) 64 (bcs (List.replicate 64 0)) := by
    rw [← made_bcs]
    exact hown2
  have x2 := (TX.of_owns hown2).1
  have hc2 : ∀ j, j < 64 → (w2.cell? ⟨w.heap.size, 0 + j, none⟩).isSome = true := fun j hj => by
    have := hown2.cellAt j (by omega)
    rw [Nat.zero_add, this, List.getElem?_eq_getElem (by rw [bcs_length, List.length_replicate]; omega)]
    rfl
  have hf2 : ∀ j, w2.frozen? ⟨w.heap.size, 0 + j, none⟩ = false := fun j => by rw [Nat.zero_add]; exact hown2.frozenAt j
  have x3 := x2.al
  have hb3 : Below w.heap.size w (w2.setCells w.heap.size 0 [.int .u8 65, .int .u8 76]) := hb2.trans (below_setCells (Nat.le_refl _) _ _ _ (Below.refl _ _))
  generalize hG : w.heap.size = G at *
  have L3 : ((65 : UInt8) :: 76 :: List.replicate 62 0).length = 64 := by simp
  generalize hW3 : w2.setCells G 0 [.int .u8 65, .int .u8 76] = w3 at *
  generalize (65 : UInt8) :: 76 :: List.replicate 62 0 = X3 at *
  go_wp2_with (refine wpList_copy_text rfl (.tmp 7) _ 37 9 rfl 5 Tryz.underlying37 z_u8 G 64 64 rfl ⟨#[65, 76]⟩ rfl (by decide) (fun j hj => hc2 j (Nat.lt_of_lt_of_le hj (by decide))) (fun j _ => hf2 j) ?_; refine (show _ = w3 from hW3) ▸ ?_)
  have k8 := run_tail G 64 8 8 rfl (by omega)
  have k16 := run_tail G 64 16 16 rfl (by omega)
  have k20 := run_tail G 64 20 20 rfl (by omega)
  have hN3 := hN w3.drew
  have hd3 : Below w3.heap.size w3 w3.drew := (Below.refl _ _).drew
  have g3 : G < w3.heap.size := (Array.getElem?_eq_some_iff.1 x3).1
  simp only [Act.put, List.setIfInBounds_toArray, List.set_cons_zero, List.set_cons_succ]
  clear hN hc2 hf2 hown2 x2 hW3 hgrow2
  go_region_law (first
    | (refine step_calls1 (by rfl) 140 _ _ (by rfl) _ (by rfl) (cf_number _ _) _ hN3 ?_; rintro v4 w4 ⟨p4, c4, rfl, h4, hb4'⟩; have hb4 : Below w3.heap.size w3 w4 := hd3.trans hb4'; have x4 := x3.later hb4; have hb04 : Below G w w4 := hb3.trans (hb4.mono (by omega)))
    | (refine step_copy_splice (by rfl) (.tmp 10) (.tmp 12) 37 37 (by rfl) 5 Tryz.underlying37 s_u8 _ _ _ _ _ _ (by rfl) (by rfl) G 8 (bcs X3) 5 x4 (bcs (be64 U)) (by rw [bcs_length, be64_length]; rfl) (fun h0 => ⟨rfl, h4.src h0⟩) (by rw [bcs_length, bcs_length, be64_length, L3]; omega) (bcs_one _) G w hb04 (Nat.le_refl _) ?_; intro w5 hg5 hb5))
  all_goals
    have x5 : TX w5 G (splice X3 8 (be64 U)) := by have := hg5.out; rw [bcs_splice] at this; exact this
    have L5 : (splice X3 8 (be64 U)).length = 64 := by rw [splice_len _ _ _ (by rw [be64_length, L3]; omega), L3]
    generalize splice X3 8 (be64 U) = X5 at *
    have hF5 := hF w5.drew
    have hd5 : Below w5.heap.size w5 w5.drew := (Below.refl _ _).drew
    have g5 : G < w5.heap.size := (Array.getElem?_eq_some_iff.1 x5).1
    clear hN3 hF hg5 h4 x4 x3 hd3 hb4 hb4' hb04
    go_wp2
    go_region_law (first
      | (refine step_calls1 (by rfl) 166 _ _ (by rfl) _ (by rfl) (cf_four _ _) _ hF5 ?_; rintro v6 w6 ⟨p6, c6, rfl, h6, hb6'⟩; have hb6 : Below w5.heap.size w5 w6 := hd5.trans hb6'; have x6 := x5.later hb6; have hb06 : Below G w w6 := hb5.trans (hb6.mono (by omega)))
      | (refine step_copy_splice (by rfl) (.tmp 15) (.tmp 19) 37 37 (by rfl) 5 Tryz.underlying37 s_u8 _ _ _ _ _ _ (by rfl) (by rfl) G 16 (bcs X5) 5 x6 (bcs ((be64 q).drop 4)) (by rw [bcs_length, List.length_drop, be64_length]; rfl) (fun h0 => ⟨rfl, h6.src h0⟩) (by rw [bcs_length, bcs_length, List.length_drop, be64_length, L5]; omega) (bcs_one _) G w hb06 (Nat.le_refl _) ?_; intro w7 hg7 hb7))
    all_goals
      have x7 : TX w7 G (splice X5 16 ((be64 q).drop 4)) := by have := hg7.out; rw [bcs_splice] at this; exact this
      have L7 : (splice X5 16 ((be64 q).drop 4)).length = 64 := by rw [splice_len _ _ _ (by rw [List.length_drop, be64_length, L5]; omega), L5]
      generalize splice X5 16 ((be64 q).drop 4) = X7 at *
      have hS7 := hS w7.drew hb7.drew
      have hd7 : Below w7.heap.size w7 w7.drew := (Below.refl _ _).drew
      have g7 : G < w7.heap.size := (Array.getElem?_eq_some_iff.1 x7).1
      clear hF5 hg7 h6 x6 x5 hd5 hb6 hb6' hb06 hS
      go_wp2
      go_region_law (first
        | (refine step_calls1 (by rfl) 115 _ _ (by rfl) _ (by rfl) (cf_sum _ _) _ hS7 ?_; rintro v8 w8 ⟨p8, c8, rfl, h8, hb8'⟩; have hb8 : Below w7.heap.size w7 w8 := hd7.trans hb8'; have x8 := x7.later hb8; have hb08 : Below G w w8 := hb7.trans (hb8.mono (by omega)))
        | (refine step_copy_splice (by rfl) (.tmp 22) (.tmp 24) 37 37 (by rfl) 5 Tryz.underlying37 s_u8 _ _ _ _ _ _ (by rfl) (by rfl) G 20 (bcs X7) 5 x8 (bcs D) (by rw [bcs_length, lS]; rfl) (fun h0 => ⟨rfl, h8.src h0⟩) (by rw [bcs_length, bcs_length, lS, L7]; omega) (bcs_one _) G w hb08 (Nat.le_refl _) ?_; intro w9 hg9 hb9))
      all_goals
        have x9 : TX w9 G (splice X7 20 D) := by have := hg9.out; rw [bcs_splice] at this; exact this
        clear hS7 hg9 h8 x8 x7 hd7 hb8 hb8' hb08
        go_wp2
        go_ret
        refine ⟨_, rfl, ?_, Nat.le_of_eq hG, ?_⟩
        · rw [hML]
          exact x9
        · rw [hG]
          exact hb9

end Go.Proofs.YtcgpgnajmfemhaaGreatDoor
