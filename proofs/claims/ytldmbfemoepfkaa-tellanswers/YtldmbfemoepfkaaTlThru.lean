/- What this text proves: the walks of tell.throughAnswer, of throughState and of what is done at each item and event over this program, whoever shows the fields: by kinds. (By program: mktlthru.py.) -/
import Derived.Test.YtldmbfemoepfkaaFlNums
import Derived.Deep.RegionHeld3
namespace Go.Proofs.Ytldmbfemoepfkaa
open Go.RowKit

/-- What shows fields: the functions behind the three methods, and the receivers that they are called at. -/
structure Shows where
  T : TypeId
  v : Value
  fN : Nat
  uN : Value
  fT : Nat
  uT : Value
  fF : Nat
  uF : Value
  mN : Meth Try.prog T v "Number" fN uN
  mT : Meth Try.prog T v "Text" fT uT
  mF : Meth Try.prog T v "Flag" fF uF

theorem Meth.nil {P : Program} {T : TypeId} {v : Value} {n : String} {f : FuncId} {u : Value} (h : Meth P T v n f u) (N : Nat) (e : P.types.size + 100 = N) : ∀ w, (nilAhead N T v n).run P w = .ok (some false) w := fun w => (by have h := h.2.1 w; rwa [e] at h)
theorem Meth.at {P : Program} {T : TypeId} {v : Value} {n : String} {f : FuncId} {u : Value} (h : Meth P T v n f u) (N : Nat) (e : P.types.size + 100 = N) : ∀ w, (method N T v n).run P w = .ok (f, u) w := fun w => (by have h := h.1 w; rwa [e] at h)
theorem ntypes : Try.prog.types.size + 100 = 214 := by kernel_rfl

/-- The calls at one field. -/
def ShN (S : Shows) (g i : Nat) (most : Int) (w : World) (K : World → Prop) (E : List PanicEntry → World → Prop) : Prop := Then Try.prog S.fN #[S.uN, .pointer (some ⟨g, i, none⟩), .int .i64 most] w (fun _ => K) E
def ShT (S : Shows) (g i : Nat) (most : Int) (w : World) (K : World → Prop) (E : List PanicEntry → World → Prop) : Prop := Then Try.prog S.fT #[S.uT, .pointer (some ⟨g, i, none⟩), .int .i64 most] w (fun _ => K) E
def ShF (S : Shows) (g i : Nat) (w : World) (K : Value → World → Prop) (E : List PanicEntry → World → Prop) : Prop := Then Try.prog S.fF #[S.uF, .pointer (some ⟨g, i, none⟩)] w K E
/-- The calls at some numbers, one behind the other: the list of their addresses is made first. -/
def ShNs (S : Shows) (ds : List Addr) (most : Int) (w : World) (K : World → Prop) (E : List PanicEntry → World → Prop) : Prop := NumsT S.fN S.uN most w.heap.size (.cells (ptrs ds).toArray 67 (0, 0)) K E ds (w.alloc (.cells (ptrs ds).toArray 67 (0, 0)))

theorem ShNs.all {S : Shows} {ds : List Addr} {most : Int} {w : World} {K : World → Prop} {E : List PanicEntry → World → Prop} (h : ShNs S ds most w K E) (hn : ds.length ≤ 100) :
    Then Try.prog 35 #[.iface S.T S.v, .int .i64 most, .slice (some ⟨w.heap.size, 0, none⟩) ds.length ds.length] (w.alloc (.cells (ptrs ds).toArray 67 (0, 0))) (fun _ w' => K w') E :=
  nums_any S.T S.v S.uN S.fN S.mN most w.heap.size 67 ds K E _ hn (heap_alloc_new w _) h

/-- The box that holds who shows. -/
def BX (S : Shows) (b : Nat) (w : World) : Prop := w.cell? ⟨b, 0, none⟩ = some (.iface S.T S.v)

theorem step_callT {P : Program} {w : World} {ops : Array Oper} {o : Oper} {a : Act} {K : Act → World → Prop} {Q : Exit → Act → World → Prop} {E : Prop} (hgd : o.guard = none) (f : FuncId) (xs : Array Operand) (ts : Array TypeId)
    (ho : o.op = .call { callee := .value (.func f), args := xs, argTypes := ts }) (args : Array Value) (hx : xs.map a.eval = args) (hf : (callFunc f args).run P w = .ok (.enter f args) w) (KK : Value → World → Prop) (EE : List PanicEntry → World → Prop)
    (hC : Then P f args w KK EE) (hE : ∀ ch w', EE ch w' → Q (.panic ch) a w') (h : ∀ r w', KK r w' → K (a.put o.dst r) w') :
    if Region.wanted o (yielded ops a.tmps) = true then Oper.wp P o a w K Q else E := by
  have hw : Region.wanted o (yielded ops a.tmps) = true := by simp [Region.wanted, hgd]
  rw [if_pos hw]
  unfold Oper.wp
  have h0 : a.eval (.func f) = .func (.func f) #[] #[] := rfl
  have he : (execOp a.eval o).run P w = .ok (.enter f args) w := by
    simp only [execOp, ho, resolve, invoke, h0, hx, Sem.run_bind]
    simpa [Deferred.ofValue] using hf
  rw [he, Oper.upon_enter]
  refine Calls.mono hC ?_
  rintro e w' (⟨r, rfl, k⟩ | ⟨ch, rfl, k⟩)
  · exact h r w' k
  · exact hE ch w' k

/-- What throughState shows. -/
def StT (S : Shows) (g : Nat) (w : World) (K : World → Prop) (E : List PanicEntry → World → Prop) : Prop :=
  ShF S g 2 w.drew (fun r w1 => ∃ b, r = .bool b ∧ (b = true → ShT S g 4 300 w1.drew (fun w2 => ShN S g 5 2147483648 w2.drew K E) E) ∧ (b = false → K w1)) E

set_option maxHeartbeats 4000000 in
theorem state_any (S : Shows) (g : Nat) (w : World) (K : World → Prop) (E : List PanicEntry → World → Prop) (h : StT S g w K E) :
    Then Try.prog 30 #[.iface S.T S.v, .pointer (some ⟨g, 0, none⟩)] w (fun _ => K) E := by
  have nN := S.mN.nil _ ntypes
  have nT := S.mT.nil _ ntypes
  have nF := S.mF.nil _ ntypes
  unfold StT at h
  unfold Then
  go_enter Try.func30, Try.ntmps30
  go_wp2
  go_region_law (refine step_inv1 rfl (.tmp 10) _ "Flag" _ rfl S.T S.v S.uF S.fF rfl S.mF (.pointer (some ⟨g, 2, none⟩)) rfl _ _ h ?_ ?_; (· intro ch w' k; exact ⟨rfl, .inr ⟨_, rfl, k⟩⟩); intro r w1 ⟨b, hr, ht, hf⟩)
  subst hr
  cases b with
  | true =>
    have h1 := ht rfl
    clear ht hf
    go_wp2
    go_region_law (refine step_inv2 rfl (.tmp 18) _ _ "Text" _ _ rfl S.T S.v S.uT S.fT rfl S.mT (.pointer (some ⟨g, 4, none⟩)) (.int .i64 300) rfl rfl _ _ h1 ?_ ?_; (· intro ch w' k; exact ⟨rfl, .inr ⟨_, rfl, k⟩⟩); intro r w2 h2)
    go_wp2
    go_region_law (refine step_inv2 rfl (.tmp 26) _ _ "Number" _ _ rfl S.T S.v S.uN S.fN rfl S.mN (.pointer (some ⟨g, 5, none⟩)) (.int .i64 2147483648) rfl rfl _ _ h2 ?_ ?_; (· intro ch w' k; exact ⟨rfl, .inr ⟨_, rfl, k⟩⟩); intro r w3 h3)
    go_wp2
    go_end0
    exact .inl ⟨_, rfl, h3⟩
  | false =>
    have h1 := hf rfl
    clear ht hf
    go_wp2
    go_end0
    exact .inl ⟨_, rfl, h1⟩

/-- What is shown of an item, of an event. -/
def ItT (S : Shows) (gb b o : Nat) (w : World) (K : World → Prop) (E : List PanicEntry → World → Prop) : Prop :=
  BX S gb w ∧ ShT S b o 300 w.drew (fun w1 => BX S gb w1 ∧ ShT S b (o + 1) 300 w1.drew (fun w2 => BX S gb w2 ∧ ShN S b (o + 2) 2147483648 w2.drew K E) E) E
def EvT (S : Shows) (gb b o : Nat) (w : World) (K : World → Prop) (E : List PanicEntry → World → Prop) : Prop :=
  BX S gb w ∧ ShNs S [⟨b, o, none⟩, ⟨b, o + 1, none⟩] 2147483648 w.drew (fun w1 => BX S gb w1 ∧ ShT S b (o + 2) 300 w1.drew (fun w2 => BX S gb w2 ∧ ShT S b (o + 3) 300 w2.drew K E) E) E

set_option maxHeartbeats 4000000 in
theorem item_any (S : Shows) (gb b o : Nat) (w : World) (K : World → Prop) (E : List PanicEntry → World → Prop) (h : ItT S gb b o w K E) :
    Then Try.prog 32 #[.pointer (some ⟨b, o, none⟩), .pointer (some ⟨gb, 0, none⟩)] w (fun _ => K) E := by
  have nN := S.mN.nil _ ntypes
  have nT := S.mT.nil _ ntypes
  obtain ⟨c0, h⟩ := h
  unfold BX at c0
  unfold Then
  go_enter Try.func32, Try.ntmps32
  go_wp2
  go_region_law (refine step_inv2 rfl (.tmp 9) _ _ "Text" _ _ rfl S.T S.v S.uT S.fT rfl S.mT (.pointer (some ⟨b, o, none⟩)) (.int .i64 300) rfl rfl _ _ h ?_ ?_; (· intro ch w' k; exact ⟨rfl, .inr ⟨_, rfl, k⟩⟩); intro r w1 ⟨c1, h1⟩)
  unfold BX at c1
  go_wp2
  go_region_law (refine step_inv2 rfl (.tmp 17) _ _ "Text" _ _ rfl S.T S.v S.uT S.fT rfl S.mT (.pointer (some ⟨b, o + 1, none⟩)) (.int .i64 300) rfl rfl _ _ h1 ?_ ?_; (· intro ch w' k; exact ⟨rfl, .inr ⟨_, rfl, k⟩⟩); intro r w2 ⟨c2, h2⟩)
  unfold BX at c2
  go_wp2
  go_region_law (refine step_inv2 rfl (.tmp 25) _ _ "Number" _ _ rfl S.T S.v S.uN S.fN rfl S.mN (.pointer (some ⟨b, o + 2, none⟩)) (.int .i64 2147483648) rfl rfl _ _ h2 ?_ ?_; (· intro ch w' k; exact ⟨rfl, .inr ⟨_, rfl, k⟩⟩); intro r w3 h3)
  go_wp2
  go_end0
  exact .inl ⟨_, rfl, h3⟩

set_option maxHeartbeats 4000000 in
theorem event_any (S : Shows) (gb b o : Nat) (w : World) (K : World → Prop) (E : List PanicEntry → World → Prop) (h : EvT S gb b o w K E) :
    Then Try.prog 34 #[.pointer (some ⟨b, o, none⟩), .pointer (some ⟨gb, 0, none⟩)] w (fun _ => K) E := by
  have nT := S.mT.nil _ ntypes
  obtain ⟨c0, h⟩ := h
  unfold BX at c0
  unfold Then
  have c0D : w.drew.cell? ⟨gb, 0, none⟩ = some (.iface S.T S.v) := c0
  have c0A := cell_later ((Below.refl w.heap.size w).alloc (Nat.le_refl _) (.cells #[.pointer (some ⟨b, o, none⟩), .pointer (some ⟨b, o + 1, none⟩)] 67)) c0
  go_enter Try.func34, Try.ntmps34
  go_wp2
  go_region_law (refine step_call3T rfl 35 _ _ _ _ _ _ rfl (.iface S.T S.v) (.int .i64 2147483648) (.slice (some ⟨w.heap.size, 0, none⟩) 2 2) rfl rfl rfl rfl _ _ (h.all (by simp)) ?_ ?_; (· intro ch w' k; exact ⟨rfl, .inr ⟨_, rfl, k⟩⟩); intro r w1 ⟨c1, h1⟩)
  all_goals
    unfold BX at c1
    go_wp2
    go_region_law (refine step_inv2 rfl (.tmp 18) _ _ "Text" _ _ rfl S.T S.v S.uT S.fT rfl S.mT (.pointer (some ⟨b, o + 2, none⟩)) (.int .i64 300) rfl rfl _ _ h1 ?_ ?_; (· intro ch w' k; exact ⟨rfl, .inr ⟨_, rfl, k⟩⟩); intro r w2 ⟨c2, h2⟩)
    unfold BX at c2
    go_wp2
    go_region_law (refine step_inv2 rfl (.tmp 26) _ _ "Text" _ _ rfl S.T S.v S.uT S.fT rfl S.mT (.pointer (some ⟨b, o + 3, none⟩)) (.int .i64 300) rfl rfl _ _ h2 ?_ ?_; (· intro ch w' k; exact ⟨rfl, .inr ⟨_, rfl, k⟩⟩); intro r w3 h3)
    go_wp2
    go_end0
    exact .inl ⟨_, rfl, h3⟩

/-- The code is shown: what follows it, by the code. -/
def Coded (S : Shows) (g b : Nat) (Z Q : World → Prop) (w1 : World) : Prop :=
  BX S b w1 ∧ ∃ c : Int, w1.cell? ⟨b + 1, 0, none⟩ = some (.int .i64 c) ∧ (∃ u, w1.cell? ⟨g, 0, none⟩ = some u) ∧ w1.frozen? ⟨g, 0, none⟩ = false ∧ (c ≠ 0 → Q (w1.setCell ⟨g, 0, none⟩ (.int .i64 c))) ∧ (c = 0 → Z (w1.setCell ⟨g, 0, none⟩ (.int .i64 0)))
/-- The world that the code is shown in. -/
def codeW (S : Shows) (code : Int) (w : World) : World := (w.alloc (.cells #[.iface S.T S.v] 65)).alloc (.cells #[.int .i64 code] 3)

theorem cell_set_self {w : World} {a : Addr} {u v : Value} (h : w.cell? a = some u) : (w.setCell a v).cell? a = some v := by
  go_simp
theorem cell_set_other {w : World} {g g' i j : Nat} {v : Value} (h : g ≠ g') : (w.setCell ⟨g, i, none⟩ v).cell? ⟨g', j, none⟩ = w.cell? ⟨g', j, none⟩ := by
  go_simp

set_option maxHeartbeats 4000000 in
theorem thr1 (S : Shows) (g : Nat) (code : Int) (w : World) (Q : Ending → World → Prop) (E : List PanicEntry → World → Prop) (hEQ : ∀ ch w', E ch w' → Q (.panicked ch) w') (b : Nat) (hb : b = w.heap.size) (hg : g < w.heap.size) (hc : w.cell? ⟨g, 0, none⟩ = some (.int .i64 code))
    (h : ShN S (b + 1) 0 2147483648 (codeW S code w) (Coded S g b (fun w2 => ShN S g 1 2147483648 w2.drew (fun w3 => Q (.returned (.tuple #[])) w3) E) (fun w2 => Q (.returned (.tuple #[])) w2)) E) :
    Calls Try.prog 15 #[.iface S.T S.v, .int .i64 1, .pointer (some ⟨g, 0, none⟩)] w Q := by
  have nN := S.mN.nil _ ntypes
  have aN := S.mN.at _ ntypes
  have fN : ∀ x y w, (callFunc S.fN #[S.uN, x, y]).run Try.prog w = .ok (.enter S.fN #[S.uN, x, y]) w := fun x y w => S.mN.2.2 _ w
  have nT := S.mT.nil _ ntypes
  have nF := S.mF.nil _ ntypes
  have hmf : ∀ (fn : Fn) (first cap : Array Value) (w : World), (Instr.makeFunc fn first cap).run Try.prog w = .ok (.func fn first cap) w := fun _ _ _ _ => rfl
  subst hb
  unfold ShN codeW Then at h
  go_enter Try.func15, Try.ntmps15
  go_wp2
  refine h.mono ?_
  clear h
  rintro e w1 (⟨r, rfl, c1, c, hcc, ⟨u, hu⟩, hfz, hn, hz⟩ | ⟨ch, rfl, k⟩)
  rotate_left
  · go_wp2
    exact ⟨rfl, hEQ _ _ k⟩
  unfold BX at c1
  have hne : ¬ g = w.heap.size := by omega
  have hne2 : ¬ w.heap.size = g := by omega
  by_cases h0 : c = 0
  rotate_left
  · have h2 := hn h0
    have h0' : (c != 0) = true := by simpa using h0
    clear hn hz
    go_wp2
    go_end0
    exact h2
  subst h0
  have h2 := hz rfl
  clear hn hz
  generalize hW2 : w1.setCell ⟨g, 0, none⟩ (.int .i64 0) = w2 at h2
  have cA : w2.cell? ⟨g, 0, none⟩ = some (.int .i64 0) := by rw [← hW2]; exact cell_set_self hu
  have cB : w2.cell? ⟨w.heap.size, 0, none⟩ = some (.iface S.T S.v) := by rw [← hW2]; exact (cell_set_other hne).trans c1
  have cBD : w2.drew.cell? ⟨w.heap.size, 0, none⟩ = some (.iface S.T S.v) := cB
  go_wp2
  go_region_law (refine step_inv2 rfl (.tmp 31) _ _ "Number" _ _ rfl S.T S.v S.uN S.fN rfl S.mN (.pointer (some ⟨g, 1, none⟩)) (.int .i64 2147483648) rfl rfl _ _ h2 ?_ ?_; (· intro ch w' k; exact ⟨rfl, hEQ _ _ k⟩); intro r w3 h3)
  go_wp2
  go_end0
  exact h3

set_option maxHeartbeats 4000000 in
theorem thr3 (S : Shows) (g : Nat) (code : Int) (w : World) (Q : Ending → World → Prop) (E : List PanicEntry → World → Prop) (hEQ : ∀ ch w', E ch w' → Q (.panicked ch) w') (b : Nat) (hb : b = w.heap.size) (hg : g < w.heap.size) (hc : w.cell? ⟨g, 0, none⟩ = some (.int .i64 code))
    (h : ShN S (b + 1) 0 2147483648 (codeW S code w) (Coded S g b (fun w2 => StT S g w2 (fun w3 => Q (.returned (.tuple #[])) w3) E) (fun w2 => Q (.returned (.tuple #[])) w2)) E) :
    Calls Try.prog 15 #[.iface S.T S.v, .int .i64 3, .pointer (some ⟨g, 0, none⟩)] w Q := by
  have nN := S.mN.nil _ ntypes
  have aN := S.mN.at _ ntypes
  have fN : ∀ x y w, (callFunc S.fN #[S.uN, x, y]).run Try.prog w = .ok (.enter S.fN #[S.uN, x, y]) w := fun x y w => S.mN.2.2 _ w
  have nT := S.mT.nil _ ntypes
  have nF := S.mF.nil _ ntypes
  have hmf : ∀ (fn : Fn) (first cap : Array Value) (w : World), (Instr.makeFunc fn first cap).run Try.prog w = .ok (.func fn first cap) w := fun _ _ _ _ => rfl
  subst hb
  unfold ShN codeW Then at h
  go_enter Try.func15, Try.ntmps15
  go_wp2
  refine h.mono ?_
  clear h
  rintro e w1 (⟨r, rfl, c1, c, hcc, ⟨u, hu⟩, hfz, hn, hz⟩ | ⟨ch, rfl, k⟩)
  rotate_left
  · go_wp2
    exact ⟨rfl, hEQ _ _ k⟩
  unfold BX at c1
  have hne : ¬ g = w.heap.size := by omega
  have hne2 : ¬ w.heap.size = g := by omega
  by_cases h0 : c = 0
  rotate_left
  · have h2 := hn h0
    have h0' : (c != 0) = true := by simpa using h0
    clear hn hz
    go_wp2
    go_end0
    exact h2
  subst h0
  have h2 := hz rfl
  clear hn hz
  generalize hW2 : w1.setCell ⟨g, 0, none⟩ (.int .i64 0) = w2 at h2
  have cA : w2.cell? ⟨g, 0, none⟩ = some (.int .i64 0) := by rw [← hW2]; exact cell_set_self hu
  have cB : w2.cell? ⟨w.heap.size, 0, none⟩ = some (.iface S.T S.v) := by rw [← hW2]; exact (cell_set_other hne).trans c1
  have cBD : w2.drew.cell? ⟨w.heap.size, 0, none⟩ = some (.iface S.T S.v) := cB
  have hS := state_any S g _ _ _ h2
  unfold Then at hS
  clear h2
  go_wp2_with fail
  refine hS.mono ?_
  clear hS
  rintro e w3 (⟨r, rfl, h3⟩ | ⟨ch, rfl, k⟩)
  rotate_left
  · go_wp2
    exact ⟨rfl, hEQ _ _ k⟩
  go_wp2
  go_end0
  exact h3

set_option maxHeartbeats 4000000 in
theorem thr4 (S : Shows) (g : Nat) (code : Int) (w : World) (Q : Ending → World → Prop) (E : List PanicEntry → World → Prop) (hEQ : ∀ ch w', E ch w' → Q (.panicked ch) w') (b : Nat) (hb : b = w.heap.size) (hg : g < w.heap.size) (hc : w.cell? ⟨g, 0, none⟩ = some (.int .i64 code))
    (h : ShN S (b + 1) 0 2147483648 (codeW S code w) (Coded S g b (fun w2 => ShN S g 1 2147483648 w2.drew (fun w3 => BX S b w3 ∧ StT S g w3 (fun w4 => Q (.returned (.tuple #[])) w4) E) E) (fun w2 => Q (.returned (.tuple #[])) w2)) E) :
    Calls Try.prog 15 #[.iface S.T S.v, .int .i64 4, .pointer (some ⟨g, 0, none⟩)] w Q := by
  have nN := S.mN.nil _ ntypes
  have aN := S.mN.at _ ntypes
  have fN : ∀ x y w, (callFunc S.fN #[S.uN, x, y]).run Try.prog w = .ok (.enter S.fN #[S.uN, x, y]) w := fun x y w => S.mN.2.2 _ w
  have nT := S.mT.nil _ ntypes
  have nF := S.mF.nil _ ntypes
  have hmf : ∀ (fn : Fn) (first cap : Array Value) (w : World), (Instr.makeFunc fn first cap).run Try.prog w = .ok (.func fn first cap) w := fun _ _ _ _ => rfl
  subst hb
  unfold ShN codeW Then at h
  go_enter Try.func15, Try.ntmps15
  go_wp2
  refine h.mono ?_
  clear h
  rintro e w1 (⟨r, rfl, c1, c, hcc, ⟨u, hu⟩, hfz, hn, hz⟩ | ⟨ch, rfl, k⟩)
  rotate_left
  · go_wp2
    exact ⟨rfl, hEQ _ _ k⟩
  unfold BX at c1
  have hne : ¬ g = w.heap.size := by omega
  have hne2 : ¬ w.heap.size = g := by omega
  by_cases h0 : c = 0
  rotate_left
  · have h2 := hn h0
    have h0' : (c != 0) = true := by simpa using h0
    clear hn hz
    go_wp2
    go_end0
    exact h2
  subst h0
  have h2 := hz rfl
  clear hn hz
  generalize hW2 : w1.setCell ⟨g, 0, none⟩ (.int .i64 0) = w2 at h2
  have cA : w2.cell? ⟨g, 0, none⟩ = some (.int .i64 0) := by rw [← hW2]; exact cell_set_self hu
  have cB : w2.cell? ⟨w.heap.size, 0, none⟩ = some (.iface S.T S.v) := by rw [← hW2]; exact (cell_set_other hne).trans c1
  have cBD : w2.drew.cell? ⟨w.heap.size, 0, none⟩ = some (.iface S.T S.v) := cB
  go_wp2
  go_region_law (refine step_inv2 rfl (.tmp 46) _ _ "Number" _ _ rfl S.T S.v S.uN S.fN rfl S.mN (.pointer (some ⟨g, 1, none⟩)) (.int .i64 2147483648) rfl rfl _ _ h2 ?_ ?_; (· intro ch w' k; exact ⟨rfl, hEQ _ _ k⟩); intro r w3 ⟨c3, h3⟩)
  unfold BX at c3
  have hS := state_any S g _ _ _ h3
  unfold Then at hS
  clear h3
  go_wp2_with fail
  refine hS.mono ?_
  clear hS
  rintro e w4 (⟨r, rfl, h4⟩ | ⟨ch, rfl, k⟩)
  rotate_left
  · go_wp2
    exact ⟨rfl, hEQ _ _ k⟩
  go_wp2
  go_end0
  exact h4

set_option maxHeartbeats 4000000 in
theorem thr5 (S : Shows) (g : Nat) (code : Int) (w : World) (Q : Ending → World → Prop) (E : List PanicEntry → World → Prop) (hEQ : ∀ ch w', E ch w' → Q (.panicked ch) w') (b : Nat) (hb : b = w.heap.size) (hg : g < w.heap.size) (hc : w.cell? ⟨g, 0, none⟩ = some (.int .i64 code))
    (h : ShN S (b + 1) 0 2147483648 (codeW S code w) (Coded S g b (fun w2 => ShF S g 3 w2.drew (fun _ w3 => BX S b w3 ∧ StT S g w3 (fun w4 => Q (.returned (.tuple #[])) w4) E) E) (fun w2 => Q (.returned (.tuple #[])) w2)) E) :
    Calls Try.prog 15 #[.iface S.T S.v, .int .i64 5, .pointer (some ⟨g, 0, none⟩)] w Q := by
  have nN := S.mN.nil _ ntypes
  have aN := S.mN.at _ ntypes
  have fN : ∀ x y w, (callFunc S.fN #[S.uN, x, y]).run Try.prog w = .ok (.enter S.fN #[S.uN, x, y]) w := fun x y w => S.mN.2.2 _ w
  have nT := S.mT.nil _ ntypes
  have nF := S.mF.nil _ ntypes
  have hmf : ∀ (fn : Fn) (first cap : Array Value) (w : World), (Instr.makeFunc fn first cap).run Try.prog w = .ok (.func fn first cap) w := fun _ _ _ _ => rfl
  subst hb
  unfold ShN codeW Then at h
  go_enter Try.func15, Try.ntmps15
  go_wp2
  refine h.mono ?_
  clear h
  rintro e w1 (⟨r, rfl, c1, c, hcc, ⟨u, hu⟩, hfz, hn, hz⟩ | ⟨ch, rfl, k⟩)
  rotate_left
  · go_wp2
    exact ⟨rfl, hEQ _ _ k⟩
  unfold BX at c1
  have hne : ¬ g = w.heap.size := by omega
  have hne2 : ¬ w.heap.size = g := by omega
  by_cases h0 : c = 0
  rotate_left
  · have h2 := hn h0
    have h0' : (c != 0) = true := by simpa using h0
    clear hn hz
    go_wp2
    go_end0
    exact h2
  subst h0
  have h2 := hz rfl
  clear hn hz
  generalize hW2 : w1.setCell ⟨g, 0, none⟩ (.int .i64 0) = w2 at h2
  have cA : w2.cell? ⟨g, 0, none⟩ = some (.int .i64 0) := by rw [← hW2]; exact cell_set_self hu
  have cB : w2.cell? ⟨w.heap.size, 0, none⟩ = some (.iface S.T S.v) := by rw [← hW2]; exact (cell_set_other hne).trans c1
  have cBD : w2.drew.cell? ⟨w.heap.size, 0, none⟩ = some (.iface S.T S.v) := cB
  go_wp2
  go_region_law (refine step_inv1 rfl (.tmp 59) _ "Flag" _ rfl S.T S.v S.uF S.fF rfl S.mF (.pointer (some ⟨g, 3, none⟩)) rfl _ _ h2 ?_ ?_; (· intro ch w' k; exact ⟨rfl, hEQ _ _ k⟩); intro r w3 ⟨c3, h3⟩)
  unfold BX at c3
  have hS := state_any S g _ _ _ h3
  unfold Then at hS
  clear h3
  go_wp2_with fail
  refine hS.mono ?_
  clear hS
  rintro e w4 (⟨r, rfl, h4⟩ | ⟨ch, rfl, k⟩)
  rotate_left
  · go_wp2
    exact ⟨rfl, hEQ _ _ k⟩
  go_wp2
  go_end0
  exact h4

set_option maxHeartbeats 4000000 in
theorem thr6 (S : Shows) (g : Nat) (code : Int) (w : World) (Q : Ending → World → Prop) (E : List PanicEntry → World → Prop) (hEQ : ∀ ch w', E ch w' → Q (.panicked ch) w') (b : Nat) (hb : b = w.heap.size) (hg : g < w.heap.size) (hc : w.cell? ⟨g, 0, none⟩ = some (.int .i64 code))
    (h : ShN S (b + 1) 0 2147483648 (codeW S code w) (Coded S g b (fun w2 => Then Try.prog 31 #[.iface S.T S.v, .pointer (some ⟨g, 6, none⟩), .int .i64 32, .func (.func 32) #[] #[.pointer (some ⟨b, 0, none⟩)]] w2.drew (fun _ w3 => BX S b w3 ∧ ShF S g 8 w3.drew (fun _ w4 => Q (.returned (.tuple #[])) w4) E) E) (fun w2 => Q (.returned (.tuple #[])) w2)) E) :
    Calls Try.prog 15 #[.iface S.T S.v, .int .i64 6, .pointer (some ⟨g, 0, none⟩)] w Q := by
  have nN := S.mN.nil _ ntypes
  have aN := S.mN.at _ ntypes
  have fN : ∀ x y w, (callFunc S.fN #[S.uN, x, y]).run Try.prog w = .ok (.enter S.fN #[S.uN, x, y]) w := fun x y w => S.mN.2.2 _ w
  have nT := S.mT.nil _ ntypes
  have nF := S.mF.nil _ ntypes
  have hmf : ∀ (fn : Fn) (first cap : Array Value) (w : World), (Instr.makeFunc fn first cap).run Try.prog w = .ok (.func fn first cap) w := fun _ _ _ _ => rfl
  subst hb
  unfold ShN codeW Then at h
  go_enter Try.func15, Try.ntmps15
  go_wp2
  refine h.mono ?_
  clear h
  rintro e w1 (⟨r, rfl, c1, c, hcc, ⟨u, hu⟩, hfz, hn, hz⟩ | ⟨ch, rfl, k⟩)
  rotate_left
  · go_wp2
    exact ⟨rfl, hEQ _ _ k⟩
  unfold BX at c1
  have hne : ¬ g = w.heap.size := by omega
  have hne2 : ¬ w.heap.size = g := by omega
  by_cases h0 : c = 0
  rotate_left
  · have h2 := hn h0
    have h0' : (c != 0) = true := by simpa using h0
    clear hn hz
    go_wp2
    go_end0
    exact h2
  subst h0
  have h2 := hz rfl
  clear hn hz
  generalize hW2 : w1.setCell ⟨g, 0, none⟩ (.int .i64 0) = w2 at h2
  have cA : w2.cell? ⟨g, 0, none⟩ = some (.int .i64 0) := by rw [← hW2]; exact cell_set_self hu
  have cB : w2.cell? ⟨w.heap.size, 0, none⟩ = some (.iface S.T S.v) := by rw [← hW2]; exact (cell_set_other hne).trans c1
  have cBD : w2.drew.cell? ⟨w.heap.size, 0, none⟩ = some (.iface S.T S.v) := cB
  go_wp2
  go_region_with (go_at_call 31; refine Calls.mono h2 ?_; rintro e w3 (⟨r, rfl, c3, h3⟩ | ⟨ch, rfl, k⟩); rotate_left; (· exact ⟨rfl, hEQ _ _ k⟩))
  all_goals
    unfold BX at c3
    go_wp2
    go_region_law (refine step_inv1 rfl (.tmp 79) _ "Flag" _ rfl S.T S.v S.uF S.fF rfl S.mF (.pointer (some ⟨g, 8, none⟩)) rfl _ _ h3 ?_ ?_; (· intro ch w' k; exact ⟨rfl, hEQ _ _ k⟩); intro r w4 h4)
    go_wp2
    go_end0
    exact h4

set_option maxHeartbeats 4000000 in
theorem thr10 (S : Shows) (g : Nat) (code : Int) (w : World) (Q : Ending → World → Prop) (E : List PanicEntry → World → Prop) (hEQ : ∀ ch w', E ch w' → Q (.panicked ch) w') (b : Nat) (hb : b = w.heap.size) (hg : g < w.heap.size) (hc : w.cell? ⟨g, 0, none⟩ = some (.int .i64 code))
    (h : ShN S (b + 1) 0 2147483648 (codeW S code w) (Coded S g b (fun w2 => Then Try.prog 31 #[.iface S.T S.v, .pointer (some ⟨g, 6, none⟩), .int .i64 32, .func (.func 32) #[] #[.pointer (some ⟨b, 0, none⟩)]] w2.drew (fun _ w3 => BX S b w3 ∧ ShF S g 8 w3.drew (fun _ w4 => Q (.returned (.tuple #[])) w4) E) E) (fun w2 => Q (.returned (.tuple #[])) w2)) E) :
    Calls Try.prog 15 #[.iface S.T S.v, .int .i64 10, .pointer (some ⟨g, 0, none⟩)] w Q := by
  have nN := S.mN.nil _ ntypes
  have aN := S.mN.at _ ntypes
  have fN : ∀ x y w, (callFunc S.fN #[S.uN, x, y]).run Try.prog w = .ok (.enter S.fN #[S.uN, x, y]) w := fun x y w => S.mN.2.2 _ w
  have nT := S.mT.nil _ ntypes
  have nF := S.mF.nil _ ntypes
  have hmf : ∀ (fn : Fn) (first cap : Array Value) (w : World), (Instr.makeFunc fn first cap).run Try.prog w = .ok (.func fn first cap) w := fun _ _ _ _ => rfl
  subst hb
  unfold ShN codeW Then at h
  go_enter Try.func15, Try.ntmps15
  go_wp2
  refine h.mono ?_
  clear h
  rintro e w1 (⟨r, rfl, c1, c, hcc, ⟨u, hu⟩, hfz, hn, hz⟩ | ⟨ch, rfl, k⟩)
  rotate_left
  · go_wp2
    exact ⟨rfl, hEQ _ _ k⟩
  unfold BX at c1
  have hne : ¬ g = w.heap.size := by omega
  have hne2 : ¬ w.heap.size = g := by omega
  by_cases h0 : c = 0
  rotate_left
  · have h2 := hn h0
    have h0' : (c != 0) = true := by simpa using h0
    clear hn hz
    go_wp2
    go_end0
    exact h2
  subst h0
  have h2 := hz rfl
  clear hn hz
  generalize hW2 : w1.setCell ⟨g, 0, none⟩ (.int .i64 0) = w2 at h2
  have cA : w2.cell? ⟨g, 0, none⟩ = some (.int .i64 0) := by rw [← hW2]; exact cell_set_self hu
  have cB : w2.cell? ⟨w.heap.size, 0, none⟩ = some (.iface S.T S.v) := by rw [← hW2]; exact (cell_set_other hne).trans c1
  have cBD : w2.drew.cell? ⟨w.heap.size, 0, none⟩ = some (.iface S.T S.v) := cB
  go_wp2
  go_region_with (go_at_call 31; refine Calls.mono h2 ?_; rintro e w3 (⟨r, rfl, c3, h3⟩ | ⟨ch, rfl, k⟩); rotate_left; (· exact ⟨rfl, hEQ _ _ k⟩))
  all_goals
    unfold BX at c3
    go_wp2
    go_region_law (refine step_inv1 rfl (.tmp 79) _ "Flag" _ rfl S.T S.v S.uF S.fF rfl S.mF (.pointer (some ⟨g, 8, none⟩)) rfl _ _ h3 ?_ ?_; (· intro ch w' k; exact ⟨rfl, hEQ _ _ k⟩); intro r w4 h4)
    go_wp2
    go_end0
    exact h4

set_option maxHeartbeats 4000000 in
theorem thr7 (S : Shows) (g : Nat) (code : Int) (w : World) (Q : Ending → World → Prop) (E : List PanicEntry → World → Prop) (hEQ : ∀ ch w', E ch w' → Q (.panicked ch) w') (b : Nat) (hb : b = w.heap.size) (hg : g < w.heap.size) (hc : w.cell? ⟨g, 0, none⟩ = some (.int .i64 code))
    (h : ShN S (b + 1) 0 2147483648 (codeW S code w) (Coded S g b (fun w2 => Then Try.prog 33 #[.iface S.T S.v, .pointer (some ⟨g, 7, none⟩), .int .i64 32, .func (.func 34) #[] #[.pointer (some ⟨b, 0, none⟩)]] w2.drew (fun _ w3 => BX S b w3 ∧ ShF S g 8 w3.drew (fun r w4 => ∃ y, r = .bool y ∧ (y = true → BX S b w4 ∧ ShNs S [⟨g, 1, none⟩, ⟨g, 5, none⟩] 2147483648 w4.drew (fun w5 => Q (.returned (.tuple #[])) w5) E) ∧ (y = false → Q (.returned (.tuple #[])) w4)) E) E) (fun w2 => Q (.returned (.tuple #[])) w2)) E) :
    Calls Try.prog 15 #[.iface S.T S.v, .int .i64 7, .pointer (some ⟨g, 0, none⟩)] w Q := by
  have nN := S.mN.nil _ ntypes
  have aN := S.mN.at _ ntypes
  have fN : ∀ x y w, (callFunc S.fN #[S.uN, x, y]).run Try.prog w = .ok (.enter S.fN #[S.uN, x, y]) w := fun x y w => S.mN.2.2 _ w
  have nT := S.mT.nil _ ntypes
  have nF := S.mF.nil _ ntypes
  have hmf : ∀ (fn : Fn) (first cap : Array Value) (w : World), (Instr.makeFunc fn first cap).run Try.prog w = .ok (.func fn first cap) w := fun _ _ _ _ => rfl
  subst hb
  unfold ShN codeW Then at h
  go_enter Try.func15, Try.ntmps15
  go_wp2
  refine h.mono ?_
  clear h
  rintro e w1 (⟨r, rfl, c1, c, hcc, ⟨u, hu⟩, hfz, hn, hz⟩ | ⟨ch, rfl, k⟩)
  rotate_left
  · go_wp2
    exact ⟨rfl, hEQ _ _ k⟩
  unfold BX at c1
  have hne : ¬ g = w.heap.size := by omega
  have hne2 : ¬ w.heap.size = g := by omega
  by_cases h0 : c = 0
  rotate_left
  · have h2 := hn h0
    have h0' : (c != 0) = true := by simpa using h0
    clear hn hz
    go_wp2
    go_end0
    exact h2
  subst h0
  have h2 := hz rfl
  clear hn hz
  generalize hW2 : w1.setCell ⟨g, 0, none⟩ (.int .i64 0) = w2 at h2
  have cA : w2.cell? ⟨g, 0, none⟩ = some (.int .i64 0) := by rw [← hW2]; exact cell_set_self hu
  have cB : w2.cell? ⟨w.heap.size, 0, none⟩ = some (.iface S.T S.v) := by rw [← hW2]; exact (cell_set_other hne).trans c1
  have cBD : w2.drew.cell? ⟨w.heap.size, 0, none⟩ = some (.iface S.T S.v) := cB
  go_wp2
  go_region_with (go_at_call 33; refine Calls.mono h2 ?_; rintro e w3 (⟨r, rfl, c3, h3⟩ | ⟨ch, rfl, k⟩); rotate_left; (· exact ⟨rfl, hEQ _ _ k⟩))
  all_goals
    unfold BX at c3
    go_wp2
    go_region_law (refine step_inv1 rfl (.tmp 95) _ "Flag" _ rfl S.T S.v S.uF S.fF rfl S.mF (.pointer (some ⟨g, 8, none⟩)) rfl _ _ h3 ?_ ?_; (· intro ch w' k; exact ⟨rfl, hEQ _ _ k⟩); intro r w4 ⟨y, hr, hy, hn⟩)
    subst hr
    cases y with
    | true =>
      obtain ⟨c4, h4⟩ := hy rfl
      clear hy hn
      unfold BX at c4
      have c4D : w4.drew.cell? ⟨w.heap.size, 0, none⟩ = some (.iface S.T S.v) := c4
      have c4A := cell_later ((Below.refl w4.heap.size w4).alloc (Nat.le_refl _) (.cells #[.pointer (some ⟨g, 1, none⟩), .pointer (some ⟨g, 5, none⟩)] 67)) c4
      go_wp2
      go_region_law (refine step_call3T rfl 35 _ _ _ _ _ _ rfl (.iface S.T S.v) (.int .i64 2147483648) (.slice (some ⟨w4.heap.size, 0, none⟩) 2 2) rfl rfl rfl rfl _ _ (h4.all (by simp)) ?_ ?_; (· intro ch w' k; exact ⟨rfl, hEQ _ _ k⟩); intro r w5 h5)
      all_goals
        go_wp2
        go_end0
        exact h5
    | false =>
      have h4 := hn rfl
      clear hy hn
      go_wp2
      go_end0
      exact h4

set_option maxHeartbeats 4000000 in
theorem thr0 (S : Shows) (g : Nat) (code : Int) (kind : Int) (hk : ¬ (kind = 1 ∨ kind = 3 ∨ kind = 4 ∨ kind = 5 ∨ kind = 6 ∨ kind = 7 ∨ kind = 10)) (w : World) (Q : Ending → World → Prop) (E : List PanicEntry → World → Prop) (hEQ : ∀ ch w', E ch w' → Q (.panicked ch) w') (b : Nat) (hb : b = w.heap.size) (hg : g < w.heap.size) (hc : w.cell? ⟨g, 0, none⟩ = some (.int .i64 code))
    (h : ShN S (b + 1) 0 2147483648 (codeW S code w) (Coded S g b (fun w2 => Q (.returned (.tuple #[])) w2) (fun w2 => Q (.returned (.tuple #[])) w2)) E) :
    Calls Try.prog 15 #[.iface S.T S.v, .int .i64 kind, .pointer (some ⟨g, 0, none⟩)] w Q := by
  have nN := S.mN.nil _ ntypes
  have aN := S.mN.at _ ntypes
  have fN : ∀ x y w, (callFunc S.fN #[S.uN, x, y]).run Try.prog w = .ok (.enter S.fN #[S.uN, x, y]) w := fun x y w => S.mN.2.2 _ w
  have nT := S.mT.nil _ ntypes
  have nF := S.mF.nil _ ntypes
  have hmf : ∀ (fn : Fn) (first cap : Array Value) (w : World), (Instr.makeFunc fn first cap).run Try.prog w = .ok (.func fn first cap) w := fun _ _ _ _ => rfl
  subst hb
  unfold ShN codeW Then at h
  go_enter Try.func15, Try.ntmps15
  go_wp2
  refine h.mono ?_
  clear h
  rintro e w1 (⟨r, rfl, c1, c, hcc, ⟨u, hu⟩, hfz, hn, hz⟩ | ⟨ch, rfl, k⟩)
  rotate_left
  · go_wp2
    exact ⟨rfl, hEQ _ _ k⟩
  unfold BX at c1
  have hne : ¬ g = w.heap.size := by omega
  have hne2 : ¬ w.heap.size = g := by omega
  by_cases h0 : c = 0
  rotate_left
  · have h2 := hn h0
    have h0' : (c != 0) = true := by simpa using h0
    clear hn hz
    go_wp2
    go_end0
    exact h2
  subst h0
  have h2 := hz rfl
  clear hn hz
  generalize hW2 : w1.setCell ⟨g, 0, none⟩ (.int .i64 0) = w2 at h2
  have cA : w2.cell? ⟨g, 0, none⟩ = some (.int .i64 0) := by rw [← hW2]; exact cell_set_self hu
  have cB : w2.cell? ⟨w.heap.size, 0, none⟩ = some (.iface S.T S.v) := by rw [← hW2]; exact (cell_set_other hne).trans c1
  have cBD : w2.drew.cell? ⟨w.heap.size, 0, none⟩ = some (.iface S.T S.v) := cB
  have q1 : (kind == 1) = false := by simpa using fun h => hk (by omega)
  have q3 : (kind == 3) = false := by simpa using fun h => hk (by omega)
  have q4 : (kind == 4) = false := by simpa using fun h => hk (by omega)
  have q5 : (kind == 5) = false := by simpa using fun h => hk (by omega)
  have q6 : (kind == 6) = false := by simpa using fun h => hk (by omega)
  have q7 : (kind == 7) = false := by simpa using fun h => hk (by omega)
  have q10 : (kind == 10) = false := by simpa using fun h => hk (by omega)
  go_wp2
  go_end0
  exact h2

end Go.Proofs.Ytldmbfemoepfkaa
