/- What this text proves: the walk of annalsref25.Encode over this program, of a request whose kind there is: what own, Same, fits and bytes make of it is told by hypotheses. What this text proves: plain facts: what own, Same and fits say of a request is what Encode's judge says (no walk). (By program: mkakrenc.py.) -/
import Derived.Test.YthkgbgkijdeaoaaJAkOwn
import Derived.Test.YthkgbgkijdeaoaaJS2
import Derived.Test.YthkgbgkijdeaoaaJAkFits
import Derived.Test.YthkgbgkijdeaoaaJQ1
import Derived.Deep.RegionHeld3
import Derived.Test.YthkgbgkijdeaoaaStepInv
import Derived.Test.YthkgbgkijdeaoaaJW1
namespace Go.Proofs.Ythkgbgkijdeaoaa
open Go.RowKit

theorem step_call1G {P : Program} {w : World} {ops : Array Oper} {o : Oper} {a : Act} {K : Act → World → Prop} {Q : Exit → Act → World → Prop} {E : Prop} (hw : Region.wanted o (yielded ops a.tmps) = true) (f : FuncId) (x : Operand) (tx : TypeId)
    (ho : o.op = .call { callee := .value (.func f), args := #[x], argTypes := #[tx] }) (vx : Value) (hx : a.eval x = vx) (hf : (callFunc f #[vx]).run P w = .ok (.enter f #[vx]) w) (R : Value → World → Prop)
    (hC : Calls P f #[vx] w fun e w' => ∃ v, e = .returned v ∧ R v w') (h : ∀ v w', R v w' → K (a.put o.dst v) w') :
    if Region.wanted o (yielded ops a.tmps) = true then Oper.wp P o a w K Q else E := by
  rw [if_pos hw]
  unfold Oper.wp
  have h0 : a.eval (.func f) = .func (.func f) #[] #[] := rfl
  have he : (execOp a.eval o).run P w = .ok (.enter f #[vx]) w := by
    simp only [execOp, ho, resolve, invoke, h0, List.map_toArray, List.map_cons, List.map_nil, hx, Sem.run_bind]
    simpa [Deferred.ofValue] using hf
  rw [he, Oper.upon_enter]
  refine hC.mono ?_
  rintro e w' ⟨v, rfl, hr⟩
  exact h v w' hr

set_option maxRecDepth 100000 in
set_option maxHeartbeats 8000000 in
theorem rencode_core (k fr to ti ep ix li : Int) (so : Bool) (p q : Option Addr) (n c m d : Nat) (OWN : Array Value) (sB fB : Bool) (R : List UInt8) (w : World) (hk : k ≤ 10 ∧ 1 ≤ k)
    (hO : ∀ W, Calls Try.prog 22 #[.agg #[.int .i64 k, .slice p n c, .int .i64 fr, .int .i64 to, .int .i64 ti, .bool so, .int .i64 ep, .int .i64 ix, .int .i64 li, .slice q m d]] W fun e W' => e = .returned (.agg OWN) ∧ Below W.heap.size W W')
    (hS : ∀ W, Below w.heap.size w W → Calls Try.prog 13 #[.agg OWN, .agg #[.int .i64 k, .slice p n c, .int .i64 fr, .int .i64 to, .int .i64 ti, .bool so, .int .i64 ep, .int .i64 ix, .int .i64 li, .slice q m d]] W fun e W' => e = .returned (.bool sB) ∧ Below W.heap.size W W')
    (hF : ∀ W, Below w.heap.size w W → Calls Try.prog 23 #[.agg #[.int .i64 k, .slice p n c, .int .i64 fr, .int .i64 to, .int .i64 ti, .bool so, .int .i64 ep, .int .i64 ix, .int .i64 li, .slice q m d]] W fun e W' => e = .returned (.bool fB) ∧ Below W.heap.size W W')
    (hB : (sB && fB) = true → ∀ W, Below w.heap.size w W → Calls Try.prog 24 #[.agg #[.int .i64 k, .slice p n c, .int .i64 fr, .int .i64 to, .int .i64 ti, .bool so, .int .i64 ep, .int .i64 ix, .int .i64 li, .slice q m d]] W (PutT (numL (clampN k)) R W)) :
    Calls Try.prog 9 #[.agg #[.int .i64 k, .slice p n c, .int .i64 fr, .int .i64 to, .int .i64 ti, .bool so, .int .i64 ep, .int .i64 ix, .int .i64 li, .slice q m d]] w (EncTold (sB && fB) (numL (clampN k) ++ R) w) := by
  have a0 : AB (w.alloc (.cells #[.int .i64 k, .slice p n c, .int .i64 fr, .int .i64 to, .int .i64 ti, .bool so, .int .i64 ep, .int .i64 ix, .int .i64 li, .slice q m d] 25)) w.heap.size #[.int .i64 k, .slice p n c, .int .i64 fr, .int .i64 to, .int .i64 ti, .bool so, .int .i64 ep, .int .i64 ix, .int .i64 li, .slice q m d] := heap_alloc_new w _
  have b0 := (Below.refl w.heap.size w).alloc (Nat.le_refl _) (.cells #[.int .i64 k, .slice p n c, .int .i64 fr, .int .i64 to, .int .i64 ti, .bool so, .int .i64 ep, .int .i64 ix, .int .i64 li, .slice q m d] 25)
  obtain ⟨w0, hw0⟩ : ∃ x, x = w.alloc (.cells #[.int .i64 k, .slice p n c, .int .i64 fr, .int .i64 to, .int .i64 ti, .bool so, .int .i64 ep, .int .i64 ix, .int .i64 li, .slice q m d] 25) := ⟨_, rfl⟩
  rw [← hw0] at a0 b0
  have HK := known_any k w0
  rw [show decide (k ≤ 10 ∧ 1 ≤ k) = true by simp [hk], hw0] at HK
  have HW0 : Hid (w0 = w.alloc (.cells #[.int .i64 k, .slice p n c, .int .i64 fr, .int .i64 to, .int .i64 ti, .bool so, .int .i64 ep, .int .i64 ix, .int .i64 li, .slice q m d] 25)) := hw0
  clear hw0
  have hd2 : ∀ (W : World), Below w.heap.size w W → True := fun _ _ => trivial
  clear hd2
  cases sB with
  | false =>
    go_enter Try.func9, Try.ntmps9
    go_wp2_with fail
    refine HK.mono ?_
    rintro e w1 ⟨rfl, e1⟩
    obtain rfl : w1 = w0 := e1.trans HW0.out.symm
    clear HK HW0 e1
    have hS1 := ask_cells a0
    have hSd := ask_cells (w := w1.drew) a0
    have a1 : AB w1.drew w.heap.size #[.int .i64 k, .slice p n c, .int .i64 fr, .int .i64 to, .int .i64 ti, .bool so, .int .i64 ep, .int .i64 ix, .int .i64 li, .slice q m d] := a0
    have b1 := Below.drew b0
    have HO := hO w1.drew
    go_wp2
    obtain ⟨d0, d1, d2, d3, d4, d5, d6, d7, d8, d9⟩ := hSd
    go_region_law (first
      | (refine step_call1R rfl 22 _ _ rfl (.agg #[.int .i64 k, .slice p n c, .int .i64 fr, .int .i64 to, .int .i64 ti, .bool so, .int .i64 ep, .int .i64 ix, .int .i64 li, .slice q m d]) rfl rfl (fun r w' => r = .agg OWN ∧ Below w1.drew.heap.size w1.drew w') (HO.mono fun e w' ⟨h1, h2⟩ => ⟨_, h1, rfl, h2⟩) ?_; rintro r w2 ⟨rfl, hb2⟩; have a2 := a1.later hb2; have b2 := b1.trans (hb2.mono b1.size); obtain ⟨e0, e1, e2, e3, e4, e5, e6, e7, e8, e9⟩ := ask_cells a2; have HS := hS w2 b2)
      | (refine step_calls2 rfl 13 _ _ _ _ rfl (.agg OWN) (.agg #[.int .i64 k, .slice p n c, .int .i64 fr, .int .i64 to, .int .i64 ti, .bool so, .int .i64 ep, .int .i64 ix, .int .i64 li, .slice q m d]) rfl rfl rfl (fun r w' => r = .bool false ∧ Below w2.heap.size w2 w') (HS.mono fun e w' ⟨h1, h2⟩ => ⟨_, h1, rfl, h2⟩) ?_; rintro r w3 ⟨rfl, hb3⟩; have a3 := a2.later hb3; have b3 := b2.trans (hb3.mono b2.size); obtain ⟨f0, f1, f2, f3, f4, f5, f6, f7, f8, f9⟩ := ask_cells a3; have HF := hF w3 b3))
    all_goals
      clear hO hS hF hB
      go_wp2
      go_ret2
      exact ⟨b3, (fun h => nomatch h), fun _ => rfl⟩
  | true =>
    cases fB with
    | false =>
      go_enter Try.func9, Try.ntmps9
      go_wp2_with fail
      refine HK.mono ?_
      rintro e w1 ⟨rfl, e1⟩
      obtain rfl : w1 = w0 := e1.trans HW0.out.symm
      clear HK HW0 e1
      have hS1 := ask_cells a0
      have hSd := ask_cells (w := w1.drew) a0
      have a1 : AB w1.drew w.heap.size #[.int .i64 k, .slice p n c, .int .i64 fr, .int .i64 to, .int .i64 ti, .bool so, .int .i64 ep, .int .i64 ix, .int .i64 li, .slice q m d] := a0
      have b1 := Below.drew b0
      have HO := hO w1.drew
      go_wp2
      obtain ⟨d0, d1, d2, d3, d4, d5, d6, d7, d8, d9⟩ := hSd
      go_region_law (first
        | (refine step_call1R rfl 22 _ _ rfl (.agg #[.int .i64 k, .slice p n c, .int .i64 fr, .int .i64 to, .int .i64 ti, .bool so, .int .i64 ep, .int .i64 ix, .int .i64 li, .slice q m d]) rfl rfl (fun r w' => r = .agg OWN ∧ Below w1.drew.heap.size w1.drew w') (HO.mono fun e w' ⟨h1, h2⟩ => ⟨_, h1, rfl, h2⟩) ?_; rintro r w2 ⟨rfl, hb2⟩; have a2 := a1.later hb2; have b2 := b1.trans (hb2.mono b1.size); obtain ⟨e0, e1, e2, e3, e4, e5, e6, e7, e8, e9⟩ := ask_cells a2; have HS := hS w2 b2)
        | (refine step_calls2 rfl 13 _ _ _ _ rfl (.agg OWN) (.agg #[.int .i64 k, .slice p n c, .int .i64 fr, .int .i64 to, .int .i64 ti, .bool so, .int .i64 ep, .int .i64 ix, .int .i64 li, .slice q m d]) rfl rfl rfl (fun r w' => r = .bool true ∧ Below w2.heap.size w2 w') (HS.mono fun e w' ⟨h1, h2⟩ => ⟨_, h1, rfl, h2⟩) ?_; rintro r w3 ⟨rfl, hb3⟩; have a3 := a2.later hb3; have b3 := b2.trans (hb3.mono b2.size); obtain ⟨f0, f1, f2, f3, f4, f5, f6, f7, f8, f9⟩ := ask_cells a3; have HF := hF w3 b3)
        | (refine step_call1G (by first | rfl | kernel_rfl | simp [Region.wanted, go_sem]) 23 _ _ rfl (.agg #[.int .i64 k, .slice p n c, .int .i64 fr, .int .i64 to, .int .i64 ti, .bool so, .int .i64 ep, .int .i64 ix, .int .i64 li, .slice q m d]) rfl rfl (fun r w' => r = .bool false ∧ Below w3.heap.size w3 w') (HF.mono fun e w' ⟨h1, h2⟩ => ⟨_, h1, rfl, h2⟩) ?_; rintro r w4 ⟨rfl, hb4⟩; have a4 := a3.later hb4; have b4 := b3.trans (hb4.mono b3.size); have hS4 := ask_cells a4))
      all_goals
        clear hO hS hF hB
        go_wp2
        go_ret2
        exact ⟨b4, (fun h => nomatch h), fun _ => rfl⟩
    | true =>
      go_enter Try.func9, Try.ntmps9
      go_wp2_with fail
      refine HK.mono ?_
      rintro e w1 ⟨rfl, e1⟩
      obtain rfl : w1 = w0 := e1.trans HW0.out.symm
      clear HK HW0 e1
      have hS1 := ask_cells a0
      have hSd := ask_cells (w := w1.drew) a0
      have a1 : AB w1.drew w.heap.size #[.int .i64 k, .slice p n c, .int .i64 fr, .int .i64 to, .int .i64 ti, .bool so, .int .i64 ep, .int .i64 ix, .int .i64 li, .slice q m d] := a0
      have b1 := Below.drew b0
      have HO := hO w1.drew
      go_wp2
      obtain ⟨d0, d1, d2, d3, d4, d5, d6, d7, d8, d9⟩ := hSd
      go_region_law (first
        | (refine step_call1R rfl 22 _ _ rfl (.agg #[.int .i64 k, .slice p n c, .int .i64 fr, .int .i64 to, .int .i64 ti, .bool so, .int .i64 ep, .int .i64 ix, .int .i64 li, .slice q m d]) rfl rfl (fun r w' => r = .agg OWN ∧ Below w1.drew.heap.size w1.drew w') (HO.mono fun e w' ⟨h1, h2⟩ => ⟨_, h1, rfl, h2⟩) ?_; rintro r w2 ⟨rfl, hb2⟩; have a2 := a1.later hb2; have b2 := b1.trans (hb2.mono b1.size); obtain ⟨e0, e1, e2, e3, e4, e5, e6, e7, e8, e9⟩ := ask_cells a2; have HS := hS w2 b2)
        | (refine step_calls2 rfl 13 _ _ _ _ rfl (.agg OWN) (.agg #[.int .i64 k, .slice p n c, .int .i64 fr, .int .i64 to, .int .i64 ti, .bool so, .int .i64 ep, .int .i64 ix, .int .i64 li, .slice q m d]) rfl rfl rfl (fun r w' => r = .bool true ∧ Below w2.heap.size w2 w') (HS.mono fun e w' ⟨h1, h2⟩ => ⟨_, h1, rfl, h2⟩) ?_; rintro r w3 ⟨rfl, hb3⟩; have a3 := a2.later hb3; have b3 := b2.trans (hb3.mono b2.size); obtain ⟨f0, f1, f2, f3, f4, f5, f6, f7, f8, f9⟩ := ask_cells a3; have HF := hF w3 b3)
        | (refine step_call1G (by first | rfl | kernel_rfl | simp [Region.wanted, go_sem]) 23 _ _ rfl (.agg #[.int .i64 k, .slice p n c, .int .i64 fr, .int .i64 to, .int .i64 ti, .bool so, .int .i64 ep, .int .i64 ix, .int .i64 li, .slice q m d]) rfl rfl (fun r w' => r = .bool true ∧ Below w3.heap.size w3 w') (HF.mono fun e w' ⟨h1, h2⟩ => ⟨_, h1, rfl, h2⟩) ?_; rintro r w4 ⟨rfl, hb4⟩; have a4 := a3.later hb4; have b4 := b3.trans (hb4.mono b3.size); have hS4 := ask_cells a4))
      all_goals
        have HB := hB rfl w4 b4
        clear d0 d1 d2 d3 d4 d5 d6 d7 d8 d9 e0 e1 e2 e3 e4 e5 e6 e7 e8 e9 f0 f1 f2 f3 f4 f5 f6 f7 f8 f9
        obtain ⟨d0, d1, d2, d3, d4, d5, d6, d7, d8, d9⟩ := hS4
        clear hS1 HO HS HF hO hS hF hB
        go_wp2_with fail
        refine HB.mono ?_
        rintro e w5 ⟨L, p5, c5, rfl, hv5, hL, hb5⟩
        have b5 := b4.trans (hb5.mono b4.size)
        clear HB d0 d1 d2 d3 d4 d5 d6 d7 d8 d9
        go_wp2
        go_ret2
        exact ⟨b5, fun _ => ⟨_, rfl, hL.out ▸ hv5⟩, (fun h => nomatch h)⟩

end Go.Proofs.Ythkgbgkijdeaoaa

namespace Go.Proofs.Ythkgbgkijdeaoaa
open Go.RowKit

theorem outN_iff {n m : Int} : outN n m = false ↔ (0 ≤ n ∧ n ≤ m) := by
  unfold outN
  rw [decide_eq_false_iff_not]
  omega
theorem outT_iff {n : Nat} : outT n = false ↔ n ≤ 24 := by
  unfold outT
  rw [decide_eq_false_iff_not]
  omega
theorem sameB_iff {id1 id2 : List UInt8} {fr1 fr2 to1 to2 ti1 ti2 ep1 ep2 ix1 ix2 li1 li2 : Int} {so1 so2 : Bool} {n m : Nat} : sameB id1 id2 fr1 fr2 to1 to2 ti1 ti2 so1 so2 ep1 ep2 ix1 ix2 li1 li2 n m = true ↔ (id1 = id2 ∧ fr1 = fr2 ∧ to1 = to2 ∧ ti1 = ti2 ∧ so1 = so2 ∧ ep1 = ep2 ∧ ix1 = ix2 ∧ li1 = li2 ∧ n = m) := by
  unfold sameB
  simp only [Bool.and_eq_true, decide_eq_true_eq]
theorem fitsB_iff {fr to ti ep ix li : Int} {n : Nat} {bs : List (List UInt8 × List UInt8)} : fitsB fr to ti ep ix li n bs = true ↔ ((0 ≤ fr ∧ fr ≤ 2147483648) ∧ (0 ≤ to ∧ to ≤ 2147483648) ∧ (0 ≤ ep ∧ ep ≤ 2147483648) ∧ (0 ≤ ix ∧ ix ≤ 2147483648) ∧ (0 ≤ li ∧ li ≤ 2147483648)) ∧ (0 ≤ ti ∧ ti ≤ 1125899906842624) ∧ n ≤ 24 ∧ badB bs = false := by
  unfold fitsB
  simp only [Bool.and_eq_true, Bool.not_eq_true', List.any_cons, List.any_nil, Bool.or_false, Bool.or_eq_false_iff, outN_iff, outT_iff]
theorem blankB_iff {fr to ti ep ix li : Int} {so : Bool} {n m : Nat} : blankB fr to ti ep ix li so n m = true ↔ (fr = 0 ∧ to = 0 ∧ ti = 0 ∧ ep = 0 ∧ ix = 0 ∧ li = 0 ∧ so = false ∧ n = 0 ∧ m = 0) := by
  unfold blankB
  simp only [Bool.and_eq_true, beq_iff_eq, decide_eq_true_eq, Bool.not_eq_true', and_assoc]
theorem nil_iff {l : List UInt8} : [] = l ↔ l.length = 0 := ⟨fun h => by rw [← h]; rfl, fun h => (List.eq_nil_of_length_eq_zero h).symm⟩
theorem badB_nil {bs : List (List UInt8 × List UInt8)} (h : bs.length = 0) : badB bs = false := by
  obtain rfl := List.eq_nil_of_length_eq_zero h
  rfl

theorem refok1 (fr to ti ep ix li : Int) (so : Bool) (id : List UInt8) (bs : List (List UInt8 × List UInt8)) : (sameB [] id 0 fr 0 to 0 ti false so 0 ep 0 ix 0 li bs.length bs.length && fitsB fr to ti ep ix li id.length bs) = ok1 fr to ti ep ix li so id bs := by
  rw [Bool.eq_iff_iff]
  unfold ok1
  simp only [Bool.and_eq_true, sameB_iff, fitsB_iff, blankB_iff, Bool.not_eq_true', Bool.or_eq_false_iff, nil_iff]
  have hb := @badB_nil bs
  constructor
  · intro h
    grind
  · intro h
    grind

theorem refok2 (fr to ti ep ix li : Int) (so : Bool) (id : List UInt8) (bs : List (List UInt8 × List UInt8)) : (sameB [] id 0 fr 0 to ti ti false so 0 ep 0 ix 0 li 0 bs.length && fitsB fr to ti ep ix li id.length bs) = ok2 fr to ti ep ix li so id bs := by
  rw [Bool.eq_iff_iff]
  unfold ok2
  simp only [Bool.and_eq_true, sameB_iff, fitsB_iff, blankB_iff, Bool.not_eq_true', Bool.or_eq_false_iff, outN_iff, nil_iff]
  have hb := @badB_nil bs
  constructor
  · intro h
    grind
  · intro h
    grind

theorem refok3 (fr to ti ep ix li : Int) (so : Bool) (id : List UInt8) (bs : List (List UInt8 × List UInt8)) : (sameB id id 0 fr to to 0 ti false so 0 ep 0 ix 0 li 0 bs.length && fitsB fr to ti ep ix li id.length bs) = ok3 fr to ti ep ix li so id bs := by
  rw [Bool.eq_iff_iff]
  unfold ok3
  simp only [Bool.and_eq_true, sameB_iff, fitsB_iff, blankB_iff, Bool.not_eq_true', Bool.or_eq_false_iff, outN_iff, outT_iff]
  have hb := @badB_nil bs
  constructor
  · intro h
    grind
  · intro h
    grind

theorem refok4 (fr to ti ep ix li : Int) (so : Bool) (id : List UInt8) (bs : List (List UInt8 × List UInt8)) : (sameB id id 0 fr to to ti ti false so 0 ep 0 ix 0 li 0 bs.length && fitsB fr to ti ep ix li id.length bs) = ok4 fr to ti ep ix li so id bs := by
  rw [Bool.eq_iff_iff]
  unfold ok4
  simp only [Bool.and_eq_true, sameB_iff, fitsB_iff, blankB_iff, Bool.not_eq_true', Bool.or_eq_false_iff, outN_iff, outT_iff]
  have hb := @badB_nil bs
  constructor
  · intro h
    grind
  · intro h
    grind

theorem refok5 (fr to ti ep ix li : Int) (so : Bool) (id : List UInt8) (bs : List (List UInt8 × List UInt8)) : (sameB id id fr fr to to 0 ti false so 0 ep 0 ix 0 li 0 bs.length && fitsB fr to ti ep ix li id.length bs) = ok5 fr to ti ep ix li so id bs := by
  rw [Bool.eq_iff_iff]
  unfold ok5
  simp only [Bool.and_eq_true, sameB_iff, fitsB_iff, blankB_iff, Bool.not_eq_true', Bool.or_eq_false_iff, outN_iff, outT_iff]
  have hb := @badB_nil bs
  constructor
  · intro h
    grind
  · intro h
    grind

theorem refok6a (fr to ti ep ix li : Int) (id : List UInt8) (bs : List (List UInt8 × List UInt8)) : (sameB id id fr fr to to 0 ti true true 0 ep 0 ix li li 0 bs.length && fitsB fr to ti ep ix li id.length bs) = (!((((false || outN fr 2147483648) || outN to 2147483648) || outT id.length) || outN li 2147483648) && blankB 0 0 ti ep ix 0 false 0 bs.length) := by
  rw [Bool.eq_iff_iff]
  simp only [Bool.and_eq_true, sameB_iff, fitsB_iff, blankB_iff, Bool.not_eq_true', Bool.or_eq_false_iff, outN_iff, outT_iff]
  have hb := @badB_nil bs
  constructor
  · intro h
    grind
  · intro h
    grind

theorem refok6b (fr to ti ep ix li : Int) (id : List UInt8) (bs : List (List UInt8 × List UInt8)) : (sameB [] id fr fr to to 0 ti false false 0 ep 0 ix li li 0 bs.length && fitsB fr to ti ep ix li id.length bs) = (!(((false || outN fr 2147483648) || outN to 2147483648) || outN li 2147483648) && blankB 0 0 ti ep ix 0 false id.length bs.length) := by
  rw [Bool.eq_iff_iff]
  simp only [Bool.and_eq_true, sameB_iff, fitsB_iff, blankB_iff, Bool.not_eq_true', Bool.or_eq_false_iff, outN_iff, nil_iff]
  have hb := @badB_nil bs
  constructor
  · intro h
    grind
  · intro h
    grind

theorem refok7 (fr to ti ep ix li : Int) (so : Bool) (id : List UInt8) (bs : List (List UInt8 × List UInt8)) : (sameB [] id fr fr to to 0 ti false so ep ep ix ix li li 0 bs.length && fitsB fr to ti ep ix li id.length bs) = ok7 fr to ti ep ix li so id bs := by
  rw [Bool.eq_iff_iff]
  unfold ok7
  simp only [Bool.and_eq_true, sameB_iff, fitsB_iff, blankB_iff, Bool.not_eq_true', Bool.or_eq_false_iff, outN_iff, nil_iff]
  have hb := @badB_nil bs
  constructor
  · intro h
    grind
  · intro h
    grind

theorem refok8 (fr to ti ep ix li : Int) (so : Bool) (id : List UInt8) (bs : List (List UInt8 × List UInt8)) : (sameB [] id 0 fr 0 to 0 ti false so 0 ep 0 ix 0 li 0 bs.length && fitsB fr to ti ep ix li id.length bs) = ok8 fr to ti ep ix li so id bs := by
  rw [Bool.eq_iff_iff]
  unfold ok8
  simp only [Bool.and_eq_true, sameB_iff, fitsB_iff, blankB_iff, Bool.not_eq_true', nil_iff]
  have hb := @badB_nil bs
  constructor
  · intro h
    grind
  · intro h
    grind

theorem refok9 (fr to ti ep ix li : Int) (so : Bool) (id : List UInt8) (bs : List (List UInt8 × List UInt8)) : (sameB [] id 0 fr 0 to 0 ti false so 0 ep 0 ix 0 li 0 bs.length && fitsB fr to ti ep ix li id.length bs) = ok9 fr to ti ep ix li so id bs := by
  rw [Bool.eq_iff_iff]
  unfold ok9
  simp only [Bool.and_eq_true, sameB_iff, fitsB_iff, blankB_iff, Bool.not_eq_true', nil_iff]
  have hb := @badB_nil bs
  constructor
  · intro h
    grind
  · intro h
    grind

theorem refok10 (fr to ti ep ix li : Int) (so : Bool) (id : List UInt8) (bs : List (List UInt8 × List UInt8)) : (sameB id id fr fr to to 0 ti false so 0 ep 0 ix li li 0 bs.length && fitsB fr to ti ep ix li id.length bs) = ok10 fr to ti ep ix li so id bs := by
  rw [Bool.eq_iff_iff]
  unfold ok10
  simp only [Bool.and_eq_true, sameB_iff, fitsB_iff, blankB_iff, Bool.not_eq_true', Bool.or_eq_false_iff, outN_iff, outT_iff]
  have hb := @badB_nil bs
  constructor
  · intro h
    grind
  · intro h
    grind

end Go.Proofs.Ythkgbgkijdeaoaa
