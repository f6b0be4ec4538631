/- What this text proves: a law for a walk: a call through an interface at a step of a region that draws, met by what the method does, be it that it answers or that it panics (any program). -/
import Derived.Test.YtldmbfemoepfkaaFacts
import Derived.Deep.RegionLaw
namespace Go.Proofs.Ytldmbfemoepfkaa
open Go.RowKit

/-- The method of a value of type T behind an interface: the function f, the receiver u. -/
def Meth (P : Program) (T : TypeId) (v : Value) (name : String) (f : FuncId) (u : Value) : Prop :=
  (∀ w, (method (P.types.size + 100) T v name).run P w = .ok (f, u) w) ∧ (∀ w, (nilAhead (P.types.size + 100) T v name).run P w = .ok (some false) w) ∧ (∀ args w, (callFunc f args).run P w = .ok (.enter f args) w)

/-- A call that answers, and goes on with K, or that panics, and E. -/
def Then (P : Program) (f : FuncId) (args : Array Value) (w : World) (K : Value → World → Prop) (E : List PanicEntry → World → Prop) : Prop :=
  Calls P f args w fun e w' => (∃ r, e = .returned r ∧ K r w') ∨ (∃ ch, e = .panicked ch ∧ E ch w')

theorem Then.mono {P : Program} {f : FuncId} {args : Array Value} {w : World} {K K' : Value → World → Prop} {E E' : List PanicEntry → World → Prop} (h : Then P f args w K E) (hK : ∀ r w', K r w' → K' r w') (hE : ∀ ch w', E ch w' → E' ch w') : Then P f args w K' E' := by
  refine Calls.mono h ?_
  rintro e w' (⟨r, rfl, k⟩ | ⟨ch, rfl, k⟩)
  · exact .inl ⟨r, rfl, hK r w' k⟩
  · exact .inr ⟨ch, rfl, hE ch w' k⟩

theorem step_inv {P : Program} {w : World} {ops : Array Oper} {o : Oper} {a : Act} {K : Act → World → Prop} {Q : Exit → Act → World → Prop} {E : Prop} (hgd : o.guard = none) (recv : Operand) (name : String) (xs : Array Operand) (ts : Array TypeId)
    (ho : o.op = .call { callee := .invoke recv name, args := xs, argTypes := ts }) (T : TypeId) (v u : Value) (f : FuncId) (hr : a.eval recv = .iface T v) (hM : Meth P T v name f u) (args : Array Value) (hx : xs.map a.eval = args) (KK : Value → World → Prop) (EE : List PanicEntry → World → Prop)
    (hC : Then P f (#[u] ++ args) w KK EE) (hE : ∀ ch w', EE ch w' → Q (.panic ch) a w') (h : ∀ r w', KK r w' → K (a.put o.dst r) w') :
    if Region.wanted o (yielded ops a.tmps) = true then Oper.wp P o a w K Q else E := by
  have hw : Region.wanted o (yielded ops a.tmps) = true := by simp [Region.wanted, hgd]
  rw [if_pos hw]
  unfold Oper.wp
  have he : (execOp a.eval o).run P w = .ok (.enter f (#[u] ++ args)) w := by
    simp only [execOp, ho, resolve, hx, hr, Sem.run_bind, Sem.run_pure, Result.andThen_ok, invoke]
    have e0 : (#[Value.iface T v] ++ args)[0]? = some (.iface T v) := by rw [Array.getElem?_append_left (Nat.one_pos)]; rfl
    have e1 : (#[Value.iface T v] ++ args).extract 1 = args := by rw [← Array.toList_inj]; simp [List.extract_eq_take_drop]
    rw [e0, e1]
    have h1 := hM.1 w
    have h2 := hM.2.2 (#[u] ++ args) w
    simp [callMethod, go_sem, h1, h2]
  rw [he, Oper.upon_enter]
  refine Calls.mono hC ?_
  rintro e w' (⟨r, rfl, k⟩ | ⟨ch, rfl, k⟩)
  · exact h r w' k
  · exact hE ch w' k

theorem step_inv2 {P : Program} {w : World} {ops : Array Oper} {o : Oper} {a : Act} {K : Act → World → Prop} {Q : Exit → Act → World → Prop} {E : Prop} (hgd : o.guard = none) (recv x y : Operand) (name : String) (tx ty : TypeId)
    (ho : o.op = .call { callee := .invoke recv name, args := #[x, y], argTypes := #[tx, ty] }) (T : TypeId) (v u : Value) (f : FuncId) (hr : a.eval recv = .iface T v) (hM : Meth P T v name f u) (vx vy : Value) (hx : a.eval x = vx) (hy : a.eval y = vy) (KK : Value → World → Prop) (EE : List PanicEntry → World → Prop)
    (hC : Then P f #[u, vx, vy] w KK EE) (hE : ∀ ch w', EE ch w' → Q (.panic ch) a w') (h : ∀ r w', KK r w' → K (a.put o.dst r) w') :
    if Region.wanted o (yielded ops a.tmps) = true then Oper.wp P o a w K Q else E :=
  step_inv hgd recv name _ _ ho T v u f hr hM #[vx, vy] (by simp [hx, hy]) KK EE hC hE h

theorem step_inv1 {P : Program} {w : World} {ops : Array Oper} {o : Oper} {a : Act} {K : Act → World → Prop} {Q : Exit → Act → World → Prop} {E : Prop} (hgd : o.guard = none) (recv x : Operand) (name : String) (tx : TypeId)
    (ho : o.op = .call { callee := .invoke recv name, args := #[x], argTypes := #[tx] }) (T : TypeId) (v u : Value) (f : FuncId) (hr : a.eval recv = .iface T v) (hM : Meth P T v name f u) (vx : Value) (hx : a.eval x = vx) (KK : Value → World → Prop) (EE : List PanicEntry → World → Prop)
    (hC : Then P f #[u, vx] w KK EE) (hE : ∀ ch w', EE ch w' → Q (.panic ch) a w') (h : ∀ r w', KK r w' → K (a.put o.dst r) w') :
    if Region.wanted o (yielded ops a.tmps) = true then Oper.wp P o a w K Q else E :=
  step_inv hgd recv name _ _ ho T v u f hr hM #[vx] (by simp [hx]) KK EE hC hE h

theorem step_call1R {P : Program} {w : World} {ops : Array Oper} {o : Oper} {a : Act} {K : Act → World → Prop} {Q : Exit → Act → World → Prop} {E : Prop} (hgd : o.guard = none) (f : FuncId) (x : Operand) (tx : TypeId)
    (ho : o.op = .call { callee := .value (.func f), args := #[x], argTypes := #[tx] }) (vx : Value) (hx : a.eval x = vx) (hf : (callFunc f #[vx]).run P w = .ok (.enter f #[vx]) w) (R : Value → World → Prop)
    (hC : Calls P f #[vx] w fun e w' => ∃ v, e = .returned v ∧ R v w') (h : ∀ v w', R v w' → K (a.put o.dst v) w') :
    if Region.wanted o (yielded ops a.tmps) = true then Oper.wp P o a w K Q else E := by
  have hw : Region.wanted o (yielded ops a.tmps) = true := by simp [Region.wanted, hgd]
  rw [if_pos hw]
  unfold Oper.wp
  have h0 : a.eval (.func f) = .func (.func f) #[] #[] := rfl
  have he : (execOp a.eval o).run P w = .ok (.enter f #[vx]) w := by
    simp only [execOp, ho, resolve, invoke, h0, List.map_toArray, List.map_cons, List.map_nil, hx, Sem.run_bind]
    simpa [Deferred.ofValue] using hf
  rw [he, Oper.upon_enter]
  refine hC.mono ?_
  rintro e w' ⟨v, rfl, hr⟩
  exact h v w' hr

theorem step_call3T {P : Program} {w : World} {ops : Array Oper} {o : Oper} {a : Act} {K : Act → World → Prop} {Q : Exit → Act → World → Prop} {E : Prop} (hgd : o.guard = none) (f : FuncId) (x y z : Operand) (tx ty tz : TypeId)
    (ho : o.op = .call { callee := .value (.func f), args := #[x, y, z], argTypes := #[tx, ty, tz] }) (vx vy vz : Value) (hx : a.eval x = vx) (hy : a.eval y = vy) (hz : a.eval z = vz) (hf : (callFunc f #[vx, vy, vz]).run P w = .ok (.enter f #[vx, vy, vz]) w) (KK : Value → World → Prop) (EE : List PanicEntry → World → Prop)
    (hC : Then P f #[vx, vy, vz] w KK EE) (hE : ∀ ch w', EE ch w' → Q (.panic ch) a w') (h : ∀ r w', KK r w' → K (a.put o.dst r) w') :
    if Region.wanted o (yielded ops a.tmps) = true then Oper.wp P o a w K Q else E := by
  have hw : Region.wanted o (yielded ops a.tmps) = true := by simp [Region.wanted, hgd]
  rw [if_pos hw]
  unfold Oper.wp
  have h0 : a.eval (.func f) = .func (.func f) #[] #[] := rfl
  have he : (execOp a.eval o).run P w = .ok (.enter f #[vx, vy, vz]) w := by
    simp only [execOp, ho, resolve, invoke, h0, List.map_toArray, List.map_cons, List.map_nil, hx, hy, hz, Sem.run_bind]
    simpa [Deferred.ofValue] using hf
  rw [he, Oper.upon_enter]
  refine Calls.mono hC ?_
  rintro e w' (⟨r, rfl, k⟩ | ⟨ch, rfl, k⟩)
  · exact h r w' k
  · exact hE ch w' k

end Go.Proofs.Ytldmbfemoepfkaa
