/- What this text holds: plain facts: worlds that part in two blocks alone; a row of taken bytes that grows beside the document's reader (no walk). What this text proves: a law for a walk: a call of a Go function of two arguments at a step of a region that draws, met by its contract (any program). -/
import Derived.Test.YtdjaemobfbbkoaaDoorJTX
import Derived.Test.YtdjaemobfbbkoaaDoorJRMNewV
import Derived.Test.YtdjaemobfbbkoaaDoorJOwn
import Derived.Deep.RegionLaw
namespace Go.Proofs.YtdjaemobfbbkoaaDoor
open Go.RowKit

/-- Nothing that was there is changed but blocks gs and gr. -/
def Two (gs gr : Nat) (w w' : World) : Prop := Below (min gs gr) w w' ∧ ∀ k, k < w.heap.size → k ≠ gs → k ≠ gr → w'.heap[k]? = w.heap[k]?

theorem Two.refl (gs gr : Nat) (w : World) : Two gs gr w w := ⟨Below.refl _ _, fun _ _ _ _ => rfl⟩
theorem Two.size {gs gr : Nat} {w w' : World} (t : Two gs gr w w') : w.heap.size ≤ w'.heap.size := t.1.size
theorem Two.below {gs gr B : Nat} {w w' : World} (t : Two gs gr w w') (h1 : B ≤ gs) (h2 : B ≤ gr) : Below B w w' := t.1.mono (by omega)
theorem Two.later {gs gr : Nat} {w w' w'' : World} (t : Two gs gr w w') (hb : Below w'.heap.size w' w'') (h : gs < w.heap.size) : Two gs gr w w'' :=
  ⟨t.1.trans (hb.mono (by have := t.size; omega)), fun k hk h1 h2 => (hb.block k (by have := t.size; omega)).trans (t.2 k hk h1 h2)⟩
theorem Two.only {gs gr : Nat} {w w' w'' : World} (t : Two gs gr w w') (ho : Only gr w' w'') : Two gs gr w w'' :=
  ⟨t.1.trans (ho.below (by omega)), fun k hk h1 h2 => (ho.block k h2 (by have := t.size; omega)).trans (t.2 k hk h1 h2)⟩

/-- A row stays where two blocks that are neither of bytes nor of rows change. -/
theorem RS.two {w w' : World} {gs gr base N : Nat} {v : Value} {sig : Nat → List UInt8} {cs cr : Array Value} {f f' : Nat × Nat} (r : RS w base v N sig) (hs : w.heap[gs]? = some (.cells cs 30 f)) (hr : w.heap[gr]? = some (.cells cr 86 f')) (t : Two gs gr w w') : RS w' base v N sig := by
  obtain ⟨vs, r1, r2⟩ := r
  have hty : ∀ (k : Nat) (cur : Array Value) (e : TypeId) (fr : Nat × Nat), w.heap[k]? = some (.cells cur e fr) → e ≠ 30 → e ≠ 86 → w'.heap[k]? = w.heap[k]? := by
    intro k cur e fr hk h1 h2
    refine t.2 k (Array.getElem?_eq_some_iff.1 hk).1 ?_ ?_
    · rintro rfl
      rw [hk] at hs
      simp at hs
      exact h1 hs.2.1
    · rintro rfl
      rw [hk] at hr
      simp at hr
      exact h2 hr.2.1
  refine ⟨vs, ⟨r1.1, ?_⟩, fun j u hu => ⟨?_, ?_⟩⟩
  · rcases r1.2 with hn | ⟨g', cap, cur, e1, hbg, e2, rest⟩
    · exact .inl hn
    · exact .inr ⟨g', cap, cur, e1, hbg, (hty g' cur 22 _ e2 (by decide) (by decide)).trans e2, rest⟩
  · obtain ⟨p, cap, e0, h1, h2, h3, h4⟩ := (r2 j u hu).1
    refine ⟨p, cap, e0, h1, h2, h3, fun hne => ?_⟩
    obtain ⟨b, o, hp, hc⟩ := h4 hne
    subst hp
    refine ⟨b, o, rfl, fun i x hx => ?_⟩
    obtain ⟨cur, fr, hb⟩ := (r2 j u hu).2 b o _ _ e0
    rw [World.cell?_of_block (w := w) (hty b cur 5 fr hb (by decide) (by decide))]
    exact hc i x hx
  · intro b o m d e
    obtain ⟨cur, fr, hb⟩ := (r2 j u hu).2 b o m d e
    exact ⟨cur, fr, (hty b cur 5 fr hb (by decide) (by decide)).trans hb⟩

/-- What is taken is put behind the row. -/
theorem take_put {W w5 w7 : World} {gr gs m i : Nat} {sig : Nat → List UInt8} {y x v7 : Value} {vs : List Value} {cs : Array Value} {R : List UInt8} {E : Int} (t5 : Two gs gr W w5) (gs5 : w5.heap[gs]? = some (.cells cs 30 (0, 0))) (hne : gr ≠ gs) (hgs : gs < W.heap.size) (hgr : gr < W.heap.size) (xr5 : XR w5 gr R E)
    (r1 : w5.ownsRow W.heap.size 22 1 y m vs) (r2 : ∀ (j : Nat) u, vs[j]? = some u → HB w5 u (sig j) ∧ TB w5 u) (hx : HB w5 x (sig m)) (tx : TB w5 x)
    (hg : (w5.alloc (.cells #[x] 22)).grownBy w7 y.ownBlock) (ho : w7.ownsRow W.heap.size 22 1 v7 (m + 1) (vs ++ [x])) :
    w7.heap[gs]? = some (.cells cs 30 (0, 0)) ∧ XR (w7.setCell ⟨gs, i, none⟩ v7) gr R E ∧ RS (w7.setCell ⟨gs, i, none⟩ v7) W.heap.size v7 (m + 1) sig ∧ Two gs gr W (w7.setCell ⟨gs, i, none⟩ v7) := by
  have s5 := t5.size
  have bA := (Below.refl _ w5).alloc (Nat.le_refl _) (.cells #[x] 22)
  have sA := bA.size
  have hfar : ∀ k, k < W.heap.size → some k ≠ y.ownBlock := fun k hk e => by have := (r1.lt k e.symm).1; omega
  have rA := owns_later r1 bA
  have g7 : w7.heap[gs]? = some (.cells cs 30 (0, 0)) := by
    rw [hg.block gs (by omega) (hfar gs hgs), bA.block gs (by omega)]
    exact gs5
  have O78 : Only gs w7 (w7.setCell ⟨gs, i, none⟩ v7) := (Only.refl gs w7).setCell i v7
  refine ⟨g7, ?_, (RS.snoc rA (fun j u hu => ⟨(r2 j u hu).1.later bA, (r2 j u hu).2.later bA⟩) (hx.later bA) (tx.later bA) hg ho).box g7 (by decide) O78 hgs, ?_⟩
  · obtain ⟨p, c, hd, hh, ht⟩ := xr5
    have hd7 : XD w7 gr (.slice p R.length c) E := by
      unfold XD
      rw [hg.block gr (by omega) (hfar gr hgr), bA.block gr (by omega)]
      exact hd
    obtain ⟨k1, k2⟩ := hb_grown rA hg (hh.1.later bA) (ht.later bA)
    obtain ⟨k3, k4⟩ := hb_box g7 (by decide) O78 k1 k2
    exact ⟨p, c, hd7.only O78 hne, ⟨k3, hh.2⟩, k4⟩
  · refine ⟨?_, fun k hk h1 h2 => ?_⟩
    · have b1 : Below (min gs gr) W (w5.alloc (.cells #[x] 22)) := t5.1.alloc (by omega) _
      exact (b1.grown hg (by omega) (fun k hk => by have := (r1.lt k hk).1; omega)).setCell (p := ⟨gs, i, none⟩) (by simp; omega) _
    · rw [O78.block k h1 (by have := hg.size; omega), hg.block k (by omega) (hfar k hk), bA.block k (by omega)]
      exact t5.2 k hk h1 h2

end Go.Proofs.YtdjaemobfbbkoaaDoor

namespace Go.Proofs.YtdjaemobfbbkoaaDoor
open Go.RowKit

theorem step_calls2 {P : Program} {w : World} {ops : Array Oper} {o : Oper} {a : Act} {K : Act → World → Prop} {Q : Exit → Act → World → Prop} {E : Prop} (hgd : o.guard = none) (f : FuncId) (x y : Operand) (tx ty : TypeId)
    (ho : o.op = .call { callee := .value (.func f), args := #[x, y], argTypes := #[tx, ty] }) (vx vy : Value) (hx : a.eval x = vx) (hy : a.eval y = vy) (hf : (callFunc f #[vx, vy]).run P w = .ok (.enter f #[vx, vy]) w) (R : Value → World → Prop)
    (hC : Calls P f #[vx, vy] w fun e w' => ∃ v, e = .returned v ∧ R v w') (h : ∀ v w', R v w' → K (a.put o.dst v) w') :
    if Region.wanted o (yielded ops a.tmps) = true then Oper.wp P o a w K Q else E := by
  have hw : Region.wanted o (yielded ops a.tmps) = true := by simp [Region.wanted, hgd]
  rw [if_pos hw]
  unfold Oper.wp
  have h0 : a.eval (.func f) = .func (.func f) #[] #[] := rfl
  have he : (execOp a.eval o).run P w = .ok (.enter f #[vx, vy]) w := by
    simp only [execOp, ho, resolve, invoke, h0, List.map_toArray, List.map_cons, List.map_nil, hx, hy, Sem.run_bind]
    simpa [Deferred.ofValue] using hf
  rw [he, Oper.upon_enter]
  refine hC.mono ?_
  rintro e w' ⟨v, rfl, hr⟩
  exact h v w' hr

end Go.Proofs.YtdjaemobfbbkoaaDoor
