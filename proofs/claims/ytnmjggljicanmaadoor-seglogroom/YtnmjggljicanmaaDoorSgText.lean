/- What this text proves: the walks of seglog's four and textOf over this program. -/
import Derived.Test.YtnmjggljicanmaaDoorSgSmall
import Derived.Test.YtnmjggljicanmaaDoorNumC
import Derived.Laws.CopyOwn
import Derived.Deep.RegionLaw
namespace Go.Proofs.YtnmjggljicanmaaDoor
open Go.RowKit

/-- A call of a Go function of one argument at a step of a region that draws. -/
theorem step_calls1 {P : Program} {w : World} {ops : Array Oper} {o : Oper} {a : Act} {K : Act → World → Prop} {Q : Exit → Act → World → Prop} {E : Prop} (hgd : o.guard = none) (f : FuncId) (x : Operand) (tx : TypeId)
    (ho : o.op = .call { callee := .value (.func f), args := #[x], argTypes := #[tx] }) (vx : Value) (hx : a.eval x = vx) (hf : (callFunc f #[vx]).run P w = .ok (.enter f #[vx]) w) (R : Value → World → Prop)
    (hC : Calls P f #[vx] w fun e w' => ∃ v, e = .returned v ∧ R v w') (h : ∀ v w', R v w' → K (a.put o.dst v) w') :
    if Region.wanted o (yielded ops a.tmps) = true then Oper.wp P o a w K Q else E := by
  have hw : Region.wanted o (yielded ops a.tmps) = true := by simp [Region.wanted, hgd]
  rw [if_pos hw]
  unfold Oper.wp
  have h0 : a.eval (.func f) = .func (.func f) #[] #[] := rfl
  have he : (execOp a.eval o).run P w = .ok (.enter f #[vx]) w := by
    simp only [execOp, ho, resolve, invoke, h0, List.map_toArray, List.map_cons, List.map_nil, hx, Sem.run_bind]
    simpa [Deferred.ofValue] using hf
  rw [he, Oper.upon_enter]
  refine hC.mono ?_
  rintro e w' ⟨v, rfl, hr⟩
  exact h v w' hr

/-- Block g is a row of bytes. -/
def TX (w : World) (g : Nat) (l : List UInt8) : Prop := w.heap[g]? = some (.cells (bcs l).toArray 5 (0, 0))

theorem TX.later {w w' : World} {g : Nat} {l : List UInt8} (h : TX w g l) (hb : Below w.heap.size w w') : TX w' g l := (hb.block g (Array.getElem?_eq_some_iff.1 h).1).trans h
theorem TX.hb {w : World} {g n : Nat} {l : List UInt8} (h : TX w g l) (hn : l.length = n) (hm : n ≤ maxLen) : HB w (.slice (some ⟨g, 0, none⟩) n n) l := by
  subst hn
  exact HB.block h hm
theorem TX.of_owns {w : World} {base g n : Nat} {l : List UInt8} (h : w.ownsRow base 5 1 (.slice (some ⟨g, 0, none⟩) n n) n (bcs l)) : TX w g l ∧ l.length = n ∧ base ≤ g := by
  have hl : l.length = n := by have := h.1; rw [bcs_length] at this; omega
  obtain ⟨_, q⟩ := h
  rcases q with ⟨h0, _⟩ | ⟨g', cap, cur, he, hb, hg, hle, hm, hsz, ht⟩
  · cases h0
  · simp only [Value.slice.injEq, Option.some.injEq, Addr.mk.injEq, and_true, true_and] at he
    obtain ⟨rfl, rfl⟩ := he
    refine ⟨?_, hl, hb⟩
    unfold TX
    rw [hg, ← ht, List.take_of_length_le (by simp; omega)]

theorem bcs_splice (x l : List UInt8) (k : Nat) : splice (bcs x) k (bcs l) = bcs (splice x k l) := by
  simp [splice, bcs, List.map_take, List.map_drop]
theorem splice_len (x l : List UInt8) (k : Nat) (h : k + l.length ≤ x.length) : (splice x k l).length = x.length := by
  simp [splice]
  omega
theorem HB.src {w : World} {p : Option Addr} {n c : Nat} {l : List UInt8} (h : HB w (.slice p n c) l) : 0 < (bcs l).length → ∃ ad, p = some ad ∧ ∀ j v, (bcs l)[j]? = some v → w.cell? (ad.add j) = some v := by
  intro h0
  rw [bcs_length] at h0
  obtain ⟨b, o, rfl, _⟩ := h.addr (by have := h.len.1; omega)
  exact ⟨_, rfl, h.cells⟩

theorem run_tail (g n k : Nat) (x : Int) (hx : x = (k : Int)) (hk : k < n) (W : World) : (Instr.slice 31 (.slice (some ⟨g, 0, none⟩) n n) (some (.int .i64 x)) none none).run Tryd.prog W = .ok (.slice (some ⟨g, k, none⟩) (n - k) (n - k)) W := by
  rw [run_cut (P := Tryd.prog) Tryd.underlying31 s_u8 (some ⟨g, 0, none⟩) n n k x hx (by omega) W]
  unfold cutP
  rw [if_neg (by omega)]
  simp [Addr.add_lit]

set_option maxRecDepth 100000 in
set_option maxHeartbeats 400000 in
theorem four_any (n : Int) (U : Nat) (hU : IntKind.u64.wrap n = (U : Int)) (w : World) : Calls Tryd.prog 48 #[.int .i64 n] w fun e w' => ∃ v, e = .returned v ∧ ∃ p c, v = .slice p 4 c ∧ HB w' (.slice p 4 c) ((be64 U).drop 4) ∧ Below w.heap.size w w' := by
  have hN := number_any n U hU w
  go_enter Tryd.func48, Tryd.ntmps48
  go_wp2_with (go_at_call 47; refine hN.mono ?_; rintro e w1 ⟨p, c, rfl, h1, hb1⟩; have k1 := fun W => run_cut (P := Tryd.prog) Tryd.underlying31 s_u8 p 8 c 4 4 rfl (by omega) W; have h2 := h1.behind 4 (by omega))
  go_ret
  exact ⟨_, rfl, _, _, rfl, h2, hb1⟩

end Go.Proofs.YtnmjggljicanmaaDoor
