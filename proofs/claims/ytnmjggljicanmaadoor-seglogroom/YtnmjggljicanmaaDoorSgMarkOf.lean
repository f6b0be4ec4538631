/- What this text proves: the walk of seglog's markOf over this program. -/
import Derived.Test.YtnmjggljicanmaaDoorSgTextOf
import Derived.Lib.LazyBuf
namespace Go.Proofs.YtnmjggljicanmaaDoor
open Go.RowKit

/-- 'copy(row, s)', s a string that row has room for, row a row of bytes. -/
theorem wpList_copy_text {P : Program} {w : World} {ops : Array Oper} {rest : List Oper} {o : Oper} {a : Act} {Q : Exit → Act → World → Prop} (hgd : o.guard = none) (d s : Operand) (dT sT : TypeId)
    (ho : o.op = .call { callee := .builtin .copy, args := #[d, s], argTypes := #[dT, sT] }) (elem : TypeId) (hu : P.underlying dT = some (.slice elem)) (hz : ∀ w, (Go.sizeOf elem).run P w = .ok 1 w)
    (b dLen dCap : Nat) (hd : a.eval d = .slice (some ⟨b, 0, none⟩) dLen dCap) (t : ByteArray) (hs : a.eval s = .string t) (hle : t.size ≤ dLen)
    (hc : ∀ j, j < t.size → (w.cell? ⟨b, 0 + j, none⟩).isSome = true) (hf : ∀ j, j < t.size → w.frozen? ⟨b, 0 + j, none⟩ = false)
    (h : wpList P ops Q rest (a.put o.dst (goInt t.size)) (w.setCells b 0 (t.data.toList.map fun x => Value.int .u8 (x.toNat : Int)))) : wpList P ops Q (o :: rest) a w := by
  refine wpList_plain hgd fun K hK => ?_
  have hrun := run_copy_string (P := P) w dT sT o.type elem b 0 dLen dCap t hu hz hle hc hf
  unfold Oper.wp
  simp [execOp, ho, resolve, invoke, builtin, hd, hs, hrun, Result.andThen]
  exact hK _ _ h

theorem z_u8 (w : World) : (Go.sizeOf 5).run Tryd.prog w = .ok 1 w := by
  obtain ⟨i, hi, hs⟩ := Option.map_eq_some_iff.1 s_u8
  simp [Go.sizeOf, typeInfo, hi, hs, Result.andThen]

/-- The mark behind a text. -/
def markL (U : Nat) (T : List UInt8) : List UInt8 := splice (splice (splice (65 :: 76 :: List.replicate 62 0) 8 (be64 U)) 16 ((be64 (T.length / 64)).drop 4)) 20 (sha T)

theorem markL_len (U : Nat) (T : List UInt8) : (markL U T).length = 64 := by
  have e0 : ((65 : UInt8) :: 76 :: List.replicate 62 0).length = 64 := by simp
  have e1 : (splice (65 :: 76 :: List.replicate 62 0) 8 (be64 U)).length = 64 := by rw [splice_len _ _ _ (by rw [be64_length, e0]; omega), e0]
  have e2 : (splice (splice (65 :: 76 :: List.replicate 62 0) 8 (be64 U)) 16 ((be64 (T.length / 64)).drop 4)).length = 64 := by rw [splice_len _ _ _ (by rw [e1, List.length_drop, be64_length]; omega), e1]
  unfold markL
  rw [splice_len _ _ _ (by rw [e2, sha_length]; omega), e2]

theorem cf_number (a : Value) (w : World) : (callFunc 47 #[a]).run Tryd.prog w = .ok (.enter 47 #[a]) w := by go_simp
theorem cf_sum (a : Value) (w : World) : (callFunc 49 #[a]).run Tryd.prog w = .ok (.enter 49 #[a]) w := by go_simp

theorem TX.al {w : World} {g : Nat} (h : TX w g (List.replicate 64 0)) : TX (w.setCells g 0 [.int .u8 65, .int .u8 76]) g (65 :: 76 :: List.replicate 62 0) := by
  unfold TX at h ⊢
  unfold World.setCells World.setCells World.setCells
  rw [heap_setCell_same _ g 1 _ _ _ (heap_setCell_same w g 0 _ _ _ h)]
  rfl

set_option maxRecDepth 100000 in
set_option maxHeartbeats 3200000 in
theorem markOf_any (U : Nat) (hU : U < 9223372036854775808) (p : Option Addr) (c n : Nat) (T : List UInt8) (w : World) (hv : HB w (.slice p n c) T) (hT : Tabs w) (hTm : T.length ≤ 140737488355328) :
    Calls Tryd.prog 39 #[.int .i64 (U : Int), .slice p n c] w fun e w' => ∃ g, e = .returned (.slice (some ⟨g, 0, none⟩) 64 64) ∧ TX w' g (markL U T) ∧ w.heap.size ≤ g ∧ Below w.heap.size w w' := by
  obtain rfl : n = T.length := hv.len.1
  obtain ⟨i0, hi, hz0, hz1, hz2⟩ := info_parts i_u8
  obtain ⟨ML, hML⟩ : ∃ ML, ML = markL U T := ⟨_, rfl⟩
  rw [← hML]
  unfold markL at hML
  have hN := fun W => (number_any (U : Int) U (by rw [IntKind.wrap]; simp [IntKind.bits, IntKind.signed]; omega) W).mono (R' := fun e w' => ∃ v, e = .returned v ∧ ∃ p c, v = .slice p 8 c ∧ HB w' (.slice p 8 c) (be64 U) ∧ Below W.heap.size W w') (fun e w' ⟨p, c, h1, h2, h3⟩ => ⟨_, h1, p, c, rfl, h2, h3⟩)
  have hF := fun W => four_any ((T.length / 64 : Nat) : Int) (T.length / 64) (by rw [IntKind.wrap]; simp [IntKind.bits, IntKind.signed]; omega) W
  have hS := fun W (hb : Below w.heap.size w W) => (sum_any _ T W (hv.later hb) hTm (hT.later hb)).mono (R' := fun e w' => ∃ v, e = .returned v ∧ ∃ p c, v = .slice p 32 c ∧ HB w' (.slice p 32 c) (sha T) ∧ Below W.heap.size W w') (fun e w' ⟨v, h1, h2, h3⟩ => by
    have h4 := HB.of_owns h2
    obtain ⟨q, d, rfl⟩ := h4.shape
    rw [sha_length] at h1 h4
    exact ⟨_, h1, q, d, rfl, h4, h3⟩)
  have lS : (sha T).length = 32 := sha_length T
  have hdiv : ((T.length : Int)).tdiv 64 = ((T.length / 64 : Nat) : Int) := by simp
  generalize sha T = D at *
  generalize hq : T.length / 64 = q at *
  have hwq : IntKind.i64.wrap (q : Int) = (q : Int) := wrapM _ (by omega) (by omega)
  clear hv hT
  go_enter Tryd.func39, Tryd.ntmps39
  go_wp2_with (at_make; refine wpList_make_full _ rfl _ _ 31 rfl w.heap.size 5 i0 (.int .u8 0) 1 Tryd.underlying31 hi hz0 hz1 .i64 .i64 _ _ 64 rfl rfl ?qa ?qb ?qc ?qd ?qe ?_)
  all_goals (try (first | omega | (unfold maxLen; omega) | (rw [hz2]; omega)))
  intro w2 hown2 hgrow2
  have hb2 : Below w.heap.size w w2 := (Below.refl _ w).grown hgrow2 (Nat.le_refl _) (by intro k hk; cases hk)
  replace hown2 : w2.ownsRow w.heap.size 5 1 (.slice (some ⟨w.heap.size, 0, none⟩) 64 64) 64 (bcs (List.replicate 64 0)) := by
    rw [← made_bcs]
    exact hown2
  have x2 := (TX.of_owns hown2).1
  have hc2 : ∀ j, j < 64 → (w2.cell? ⟨w.heap.size, 0 + j, none⟩).isSome = true := fun j hj => by
    have := hown2.cellAt j (by omega)
    rw [Nat.zero_add, this, List.getElem?_eq_getElem (by rw [bcs_length, List.length_replicate]; omega)]
    rfl
  have hf2 : ∀ j, w2.frozen? ⟨w.heap.size, 0 + j, none⟩ = false := fun j => by rw [Nat.zero_add]; exact hown2.frozenAt j
  have x3 := x2.al
  have hb3 : Below w.heap.size w (w2.setCells w.heap.size 0 [.int .u8 65, .int .u8 76]) := hb2.trans (below_setCells (Nat.le_refl _) _ _ _ (Below.refl _ _))
  generalize hG : w.heap.size = G at *
  have L3 : ((65 : UInt8) :: 76 :: List.replicate 62 0).length = 64 := by simp
  generalize hW3 : w2.setCells G 0 [.int .u8 65, .int .u8 76] = w3 at *
  generalize (65 : UInt8) :: 76 :: List.replicate 62 0 = X3 at *
  go_wp2_with (refine wpList_copy_text rfl (.tmp 7) _ 31 9 rfl 5 Tryd.underlying31 z_u8 G 64 64 rfl ⟨#[65, 76]⟩ rfl (by decide) (fun j hj => hc2 j (Nat.lt_of_lt_of_le hj (by decide))) (fun j _ => hf2 j) ?_; refine (show _ = w3 from hW3) ▸ ?_)
  have k8 := run_tail G 64 8 8 rfl (by omega)
  have k16 := run_tail G 64 16 16 rfl (by omega)
  have k20 := run_tail G 64 20 20 rfl (by omega)
  have hN3 := hN w3.drew
  have hd3 : Below w3.heap.size w3 w3.drew := (Below.refl _ _).drew
  have g3 : G < w3.heap.size := (Array.getElem?_eq_some_iff.1 x3).1
  simp only [Act.put, List.setIfInBounds_toArray, List.set_cons_zero, List.set_cons_succ]
  clear hN hc2 hf2 hown2 x2 hW3 hgrow2
  go_region_law (first
    | (refine step_calls1 (by rfl) 47 _ _ (by rfl) _ (by rfl) (cf_number _ _) _ hN3 ?_; rintro v4 w4 ⟨p4, c4, rfl, h4, hb4'⟩; have hb4 : Below w3.heap.size w3 w4 := hd3.trans hb4'; have x4 := x3.later hb4; have hb04 : Below G w w4 := hb3.trans (hb4.mono (by omega)))
    | (refine step_copy_splice (by rfl) (.tmp 10) (.tmp 12) 31 31 (by rfl) 5 Tryd.underlying31 s_u8 _ _ _ _ _ _ (by rfl) (by rfl) G 8 (bcs X3) 5 x4 (bcs (be64 U)) (by rw [bcs_length, be64_length]; rfl) (fun h0 => ⟨rfl, h4.src h0⟩) (by rw [bcs_length, bcs_length, be64_length, L3]; omega) (bcs_one _) G w hb04 (Nat.le_refl _) ?_; intro w5 hg5 hb5))
  all_goals
    have x5 : TX w5 G (splice X3 8 (be64 U)) := by have := hg5.out; rw [bcs_splice] at this; exact this
    have L5 : (splice X3 8 (be64 U)).length = 64 := by rw [splice_len _ _ _ (by rw [be64_length, L3]; omega), L3]
    generalize splice X3 8 (be64 U) = X5 at *
    have hF5 := hF w5.drew
    have hd5 : Below w5.heap.size w5 w5.drew := (Below.refl _ _).drew
    have g5 : G < w5.heap.size := (Array.getElem?_eq_some_iff.1 x5).1
    clear hN3 hF hg5 h4 x4 x3 hd3 hb4 hb4' hb04
    go_wp2
    go_region_law (first
      | (refine step_calls1 (by rfl) 48 _ _ (by rfl) _ (by rfl) (cf_four _ _) _ hF5 ?_; rintro v6 w6 ⟨p6, c6, rfl, h6, hb6'⟩; have hb6 : Below w5.heap.size w5 w6 := hd5.trans hb6'; have x6 := x5.later hb6; have hb06 : Below G w w6 := hb5.trans (hb6.mono (by omega)))
      | (refine step_copy_splice (by rfl) (.tmp 15) (.tmp 19) 31 31 (by rfl) 5 Tryd.underlying31 s_u8 _ _ _ _ _ _ (by rfl) (by rfl) G 16 (bcs X5) 5 x6 (bcs ((be64 q).drop 4)) (by rw [bcs_length, List.length_drop, be64_length]; rfl) (fun h0 => ⟨rfl, h6.src h0⟩) (by rw [bcs_length, bcs_length, List.length_drop, be64_length, L5]; omega) (bcs_one _) G w hb06 (Nat.le_refl _) ?_; intro w7 hg7 hb7))
    all_goals
      have x7 : TX w7 G (splice X5 16 ((be64 q).drop 4)) := by have := hg7.out; rw [bcs_splice] at this; exact this
      have L7 : (splice X5 16 ((be64 q).drop 4)).length = 64 := by rw [splice_len _ _ _ (by rw [List.length_drop, be64_length, L5]; omega), L5]
      generalize splice X5 16 ((be64 q).drop 4) = X7 at *
      have hS7 := hS w7.drew hb7.drew
      have hd7 : Below w7.heap.size w7 w7.drew := (Below.refl _ _).drew
      have g7 : G < w7.heap.size := (Array.getElem?_eq_some_iff.1 x7).1
      clear hF5 hg7 h6 x6 x5 hd5 hb6 hb6' hb06 hS
      go_wp2
      go_region_law (first
        | (refine step_calls1 (by rfl) 49 _ _ (by rfl) _ (by rfl) (cf_sum _ _) _ hS7 ?_; rintro v8 w8 ⟨p8, c8, rfl, h8, hb8'⟩; have hb8 : Below w7.heap.size w7 w8 := hd7.trans hb8'; have x8 := x7.later hb8; have hb08 : Below G w w8 := hb7.trans (hb8.mono (by omega)))
        | (refine step_copy_splice (by rfl) (.tmp 22) (.tmp 24) 31 31 (by rfl) 5 Tryd.underlying31 s_u8 _ _ _ _ _ _ (by rfl) (by rfl) G 20 (bcs X7) 5 x8 (bcs D) (by rw [bcs_length, lS]; rfl) (fun h0 => ⟨rfl, h8.src h0⟩) (by rw [bcs_length, bcs_length, lS, L7]; omega) (bcs_one _) G w hb08 (Nat.le_refl _) ?_; intro w9 hg9 hb9))
      all_goals
        have x9 : TX w9 G (splice X7 20 D) := by have := hg9.out; rw [bcs_splice] at this; exact this
        clear hS7 hg9 h8 x8 x7 hd7 hb8 hb8' hb08
        go_wp2
        go_ret
        refine ⟨_, rfl, ?_, Nat.le_of_eq hG, ?_⟩
        · rw [hML]
          exact x9
        · rw [hG]
          exact hb9

end Go.Proofs.YtnmjggljicanmaaDoor
