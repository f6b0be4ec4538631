/- What this text proves: the walk of ask.through over this program, whatever shows the fields: by kinds. (By program: mkakthru.py.) -/
import Derived.Test.YthkgbgkijdeaoaaFlNums
import Derived.Test.YthkgbgkijdeaoaaJF1
namespace Go.Proofs.Ythkgbgkijdeaoaa
open Go.RowKit

/-- What shows fields: the functions behind the four methods, and the receivers that they are called at. -/
structure Shows where
  T : TypeId
  v : Value
  fN : Nat
  uN : Value
  fT : Nat
  uT : Value
  fF : Nat
  uF : Value
  fB : Nat
  uB : Value
  mN : Meth Try.prog T v "Number" fN uN
  mT : Meth Try.prog T v "Text" fT uT
  mF : Meth Try.prog T v "Flag" fF uF
  mB : Meth Try.prog T v "annals/ask.batch" fB uB

theorem Meth.nil {P : Program} {T : TypeId} {v : Value} {n : String} {f : FuncId} {u : Value} (h : Meth P T v n f u) (N : Nat) (e : P.types.size + 100 = N) : ∀ w, (nilAhead N T v n).run P w = .ok (some false) w := fun w => (by have h := h.2.1 w; rwa [e] at h)
theorem ntypes : Try.prog.types.size + 100 = 231 := by kernel_rfl

/-- The calls at one field. -/
def ShN (S : Shows) (g i : Nat) (most : Int) (w : World) (K : World → Prop) (E : List PanicEntry → World → Prop) : Prop := Then Try.prog S.fN #[S.uN, .pointer (some ⟨g, i, none⟩), .int .i64 most] w (fun _ => K) E
def ShT (S : Shows) (g i : Nat) (most : Int) (w : World) (K : World → Prop) (E : List PanicEntry → World → Prop) : Prop := Then Try.prog S.fT #[S.uT, .pointer (some ⟨g, i, none⟩), .int .i64 most] w (fun _ => K) E
def ShF (S : Shows) (g i : Nat) (w : World) (K : Value → World → Prop) (E : List PanicEntry → World → Prop) : Prop := Then Try.prog S.fF #[S.uF, .pointer (some ⟨g, i, none⟩)] w K E
def ShB (S : Shows) (g i : Nat) (w : World) (K : World → Prop) (E : List PanicEntry → World → Prop) : Prop := Then Try.prog S.fB #[S.uB, .pointer (some ⟨g, i, none⟩)] w (fun _ => K) E
/-- The calls at some numbers, one behind the other: the list of their addresses is made first. -/
def ShNs (S : Shows) (ds : List Addr) (most : Int) (w : World) (K : World → Prop) (E : List PanicEntry → World → Prop) : Prop := NumsT S.fN S.uN most w.heap.size (.cells (ptrs ds).toArray 51 (0, 0)) K E ds (w.alloc (.cells (ptrs ds).toArray 51 (0, 0)))

theorem ShNs.all {S : Shows} {ds : List Addr} {most : Int} {w : World} {K : World → Prop} {E : List PanicEntry → World → Prop} (h : ShNs S ds most w K E) (hn : ds.length ≤ 100) :
    Then Try.prog 37 #[.iface S.T S.v, .int .i64 most, .slice (some ⟨w.heap.size, 0, none⟩) ds.length ds.length] (w.alloc (.cells (ptrs ds).toArray 51 (0, 0))) (fun _ w' => K w') E :=
  nums_any S.T S.v S.uN S.fN S.mN most w.heap.size 51 ds K E _ hn (heap_alloc_new w _) h

set_option maxRecDepth 100000 in
set_option maxHeartbeats 4000000 in
theorem thru1 (S : Shows) (g : Nat) (w : World) (Q : Ending → World → Prop) (hc : w.cell? ⟨g, 0, none⟩ = some (.int .i64 1))
    (h : ShB S g 9 w.drew (fun w1 => Q (.returned (.bool true)) w1) (fun ch w' => Q (.panicked ch) w')) :
    Calls Try.prog 17 #[.iface S.T S.v, .pointer (some ⟨g, 0, none⟩)] w Q := by
  have nB := S.mB.nil _ ntypes
  go_enter Try.func17, Try.ntmps17
  go_wp2
  go_region_law (refine step_inv1 rfl (.tmp 17) _ "annals/ask.batch" _ rfl S.T S.v S.uB S.fB rfl S.mB (.pointer (some ⟨g, 9, none⟩)) rfl _ _ h ?_ ?_; (· intro ch w' k; exact ⟨rfl, k⟩); intro r w1 h1)
  go_wp2
  exact h1

set_option maxRecDepth 100000 in
set_option maxHeartbeats 4000000 in
theorem thru2 (S : Shows) (g : Nat) (w : World) (Q : Ending → World → Prop) (hc : w.cell? ⟨g, 0, none⟩ = some (.int .i64 2))
    (h : ShN S g 4 1125899906842624 w.drew (fun w1 => Q (.returned (.bool true)) w1) (fun ch w' => Q (.panicked ch) w')) :
    Calls Try.prog 17 #[.iface S.T S.v, .pointer (some ⟨g, 0, none⟩)] w Q := by
  have nN := S.mN.nil _ ntypes
  go_enter Try.func17, Try.ntmps17
  go_wp2
  go_region_law (refine step_inv2 rfl (.tmp 27) _ _ "Number" _ _ rfl S.T S.v S.uN S.fN rfl S.mN (.pointer (some ⟨g, 4, none⟩)) (.int .i64 1125899906842624) rfl rfl _ _ h ?_ ?_; (· intro ch w' k; exact ⟨rfl, k⟩); intro r w1 h1)
  go_wp2
  exact h1

set_option maxRecDepth 100000 in
set_option maxHeartbeats 4000000 in
theorem thru3 (S : Shows) (g : Nat) (w : World) (Q : Ending → World → Prop) (hc : w.cell? ⟨g, 0, none⟩ = some (.int .i64 3))
    (h : ShT S g 1 24 w.drew (fun w1 => ShN S g 3 2147483648 w1.drew (fun w2 => Q (.returned (.bool true)) w2) (fun ch w' => Q (.panicked ch) w')) (fun ch w' => Q (.panicked ch) w')) :
    Calls Try.prog 17 #[.iface S.T S.v, .pointer (some ⟨g, 0, none⟩)] w Q := by
  have nN := S.mN.nil _ ntypes
  have nT := S.mT.nil _ ntypes
  go_enter Try.func17, Try.ntmps17
  go_wp2
  go_region_law (refine step_inv2 rfl (.tmp 37) _ _ "Text" _ _ rfl S.T S.v S.uT S.fT rfl S.mT (.pointer (some ⟨g, 1, none⟩)) (.int .i64 24) rfl rfl _ _ h ?_ ?_; (· intro ch w' k; exact ⟨rfl, k⟩); intro r w1 h1)
  go_wp2
  go_region_law (refine step_inv2 rfl (.tmp 45) _ _ "Number" _ _ rfl S.T S.v S.uN S.fN rfl S.mN (.pointer (some ⟨g, 3, none⟩)) (.int .i64 2147483648) rfl rfl _ _ h1 ?_ ?_; (· intro ch w' k; exact ⟨rfl, k⟩); intro r w2 h2)
  go_wp2
  exact h2

set_option maxRecDepth 100000 in
set_option maxHeartbeats 4000000 in
theorem thru4 (S : Shows) (g : Nat) (w : World) (Q : Ending → World → Prop) (hc : w.cell? ⟨g, 0, none⟩ = some (.int .i64 4))
    (h : ShT S g 1 24 w.drew (fun w1 => ShN S g 4 1125899906842624 w1.drew (fun w2 => ShN S g 3 2147483648 w2.drew (fun w3 => Q (.returned (.bool true)) w3) (fun ch w' => Q (.panicked ch) w')) (fun ch w' => Q (.panicked ch) w')) (fun ch w' => Q (.panicked ch) w')) :
    Calls Try.prog 17 #[.iface S.T S.v, .pointer (some ⟨g, 0, none⟩)] w Q := by
  have nN := S.mN.nil _ ntypes
  have nT := S.mT.nil _ ntypes
  go_enter Try.func17, Try.ntmps17
  go_wp2
  go_region_law (refine step_inv2 rfl (.tmp 55) _ _ "Text" _ _ rfl S.T S.v S.uT S.fT rfl S.mT (.pointer (some ⟨g, 1, none⟩)) (.int .i64 24) rfl rfl _ _ h ?_ ?_; (· intro ch w' k; exact ⟨rfl, k⟩); intro r w1 h1)
  go_wp2
  go_region_law (refine step_inv2 rfl (.tmp 63) _ _ "Number" _ _ rfl S.T S.v S.uN S.fN rfl S.mN (.pointer (some ⟨g, 4, none⟩)) (.int .i64 1125899906842624) rfl rfl _ _ h1 ?_ ?_; (· intro ch w' k; exact ⟨rfl, k⟩); intro r w2 h2)
  go_wp2
  go_region_law (refine step_inv2 rfl (.tmp 71) _ _ "Number" _ _ rfl S.T S.v S.uN S.fN rfl S.mN (.pointer (some ⟨g, 3, none⟩)) (.int .i64 2147483648) rfl rfl _ _ h2 ?_ ?_; (· intro ch w' k; exact ⟨rfl, k⟩); intro r w3 h3)
  go_wp2
  exact h3

set_option maxRecDepth 100000 in
set_option maxHeartbeats 4000000 in
theorem thru5 (S : Shows) (g : Nat) (w : World) (Q : Ending → World → Prop) (hc : w.cell? ⟨g, 0, none⟩ = some (.int .i64 5))
    (h : ShT S g 1 24 w.drew (fun w1 => ShNs S [⟨g, 2, none⟩, ⟨g, 3, none⟩] 2147483648 w1.drew (fun w2 => Q (.returned (.bool true)) w2) (fun ch w' => Q (.panicked ch) w')) (fun ch w' => Q (.panicked ch) w')) :
    Calls Try.prog 17 #[.iface S.T S.v, .pointer (some ⟨g, 0, none⟩)] w Q := by
  have nT := S.mT.nil _ ntypes
  go_enter Try.func17, Try.ntmps17
  go_wp2
  go_region_law (refine step_inv2 rfl (.tmp 81) _ _ "Text" _ _ rfl S.T S.v S.uT S.fT rfl S.mT (.pointer (some ⟨g, 1, none⟩)) (.int .i64 24) rfl rfl _ _ h ?_ ?_; (· intro ch w' k; exact ⟨rfl, k⟩); intro r w1 h1)
  go_wp2
  go_region_law (refine step_call3T rfl 37 _ _ _ _ _ _ rfl (.iface S.T S.v) (.int .i64 2147483648) (.slice (some ⟨w1.heap.size, 0, none⟩) 2 2) rfl rfl rfl rfl _ _ (h1.all (by simp)) ?_ ?_; (· intro ch w' k; exact ⟨rfl, k⟩); intro r w2 h2)
  go_wp2
  exact h2

set_option maxRecDepth 100000 in
set_option maxHeartbeats 4000000 in
theorem thru6 (S : Shows) (g : Nat) (w : World) (Q : Ending → World → Prop) (hc : w.cell? ⟨g, 0, none⟩ = some (.int .i64 6))
    (h : ShNs S [⟨g, 2, none⟩, ⟨g, 3, none⟩] 2147483648 w.drew (fun w1 => ShF S g 5 w1.drew (fun r w2 => ∃ b, r = .bool b ∧ (b = true → ShT S g 1 24 w2.drew (fun w3 => ShN S g 8 2147483648 w3.drew (fun w4 => Q (.returned (.bool true)) w4) (fun ch w' => Q (.panicked ch) w')) (fun ch w' => Q (.panicked ch) w')) ∧ (b = false → ShN S g 8 2147483648 w2.drew (fun w3 => Q (.returned (.bool true)) w3) (fun ch w' => Q (.panicked ch) w'))) (fun ch w' => Q (.panicked ch) w')) (fun ch w' => Q (.panicked ch) w')) :
    Calls Try.prog 17 #[.iface S.T S.v, .pointer (some ⟨g, 0, none⟩)] w Q := by
  have nN := S.mN.nil _ ntypes
  have nT := S.mT.nil _ ntypes
  have nF := S.mF.nil _ ntypes
  go_enter Try.func17, Try.ntmps17
  go_wp2
  go_region_law (refine step_call3T rfl 37 _ _ _ _ _ _ rfl (.iface S.T S.v) (.int .i64 2147483648) (.slice (some ⟨w.heap.size, 0, none⟩) 2 2) rfl rfl rfl rfl _ _ (h.all (by simp)) ?_ ?_; (· intro ch w' k; exact ⟨rfl, k⟩); intro r w1 h1)
  go_wp2
  go_region_law (refine step_inv1 rfl (.tmp 109) _ "Flag" _ rfl S.T S.v S.uF S.fF rfl S.mF (.pointer (some ⟨g, 5, none⟩)) rfl _ _ h1 ?_ ?_; (· intro ch w' k; exact ⟨rfl, k⟩); intro r w2 ⟨b, hr, ht, hf⟩)
  subst hr
  cases b with
  | true =>
    have h2 := ht rfl
    clear ht hf
    go_wp2
    go_region_law (refine step_inv2 rfl (.tmp 117) _ _ "Text" _ _ rfl S.T S.v S.uT S.fT rfl S.mT (.pointer (some ⟨g, 1, none⟩)) (.int .i64 24) rfl rfl _ _ h2 ?_ ?_; (· intro ch w' k; exact ⟨rfl, k⟩); intro r w3 h3)
    go_wp2
    go_region_law (refine step_inv2 rfl (.tmp 125) _ _ "Number" _ _ rfl S.T S.v S.uN S.fN rfl S.mN (.pointer (some ⟨g, 8, none⟩)) (.int .i64 2147483648) rfl rfl _ _ h3 ?_ ?_; (· intro ch w' k; exact ⟨rfl, k⟩); intro r w4 h4)
    go_wp2
    exact h4
  | false =>
    have h2 := hf rfl
    clear ht hf
    go_wp2
    go_region_law (refine step_inv2 rfl (.tmp 125) _ _ "Number" _ _ rfl S.T S.v S.uN S.fN rfl S.mN (.pointer (some ⟨g, 8, none⟩)) (.int .i64 2147483648) rfl rfl _ _ h2 ?_ ?_; (· intro ch w' k; exact ⟨rfl, k⟩); intro r w3 h3)
    go_wp2
    exact h3

set_option maxRecDepth 100000 in
set_option maxHeartbeats 4000000 in
theorem thru7 (S : Shows) (g : Nat) (w : World) (Q : Ending → World → Prop) (hc : w.cell? ⟨g, 0, none⟩ = some (.int .i64 7))
    (h : ShNs S [⟨g, 2, none⟩, ⟨g, 3, none⟩, ⟨g, 6, none⟩, ⟨g, 7, none⟩, ⟨g, 8, none⟩] 2147483648 w.drew (fun w1 => Q (.returned (.bool true)) w1) (fun ch w' => Q (.panicked ch) w')) :
    Calls Try.prog 17 #[.iface S.T S.v, .pointer (some ⟨g, 0, none⟩)] w Q := by
  go_enter Try.func17, Try.ntmps17
  go_wp2
  go_region_law (refine step_call3T rfl 37 _ _ _ _ _ _ rfl (.iface S.T S.v) (.int .i64 2147483648) (.slice (some ⟨w.heap.size, 0, none⟩) 5 5) rfl rfl rfl rfl _ _ (h.all (by simp)) ?_ ?_; (· intro ch w' k; exact ⟨rfl, k⟩); intro r w1 h1)
  go_wp2
  exact h1

set_option maxRecDepth 100000 in
set_option maxHeartbeats 4000000 in
theorem thru10 (S : Shows) (g : Nat) (w : World) (Q : Ending → World → Prop) (hc : w.cell? ⟨g, 0, none⟩ = some (.int .i64 10))
    (h : ShT S g 1 24 w.drew (fun w1 => ShNs S [⟨g, 2, none⟩, ⟨g, 3, none⟩, ⟨g, 8, none⟩] 2147483648 w1.drew (fun w2 => Q (.returned (.bool true)) w2) (fun ch w' => Q (.panicked ch) w')) (fun ch w' => Q (.panicked ch) w')) :
    Calls Try.prog 17 #[.iface S.T S.v, .pointer (some ⟨g, 0, none⟩)] w Q := by
  have nT := S.mT.nil _ ntypes
  go_enter Try.func17, Try.ntmps17
  go_wp2
  go_region_law (refine step_inv2 rfl (.tmp 155) _ _ "Text" _ _ rfl S.T S.v S.uT S.fT rfl S.mT (.pointer (some ⟨g, 1, none⟩)) (.int .i64 24) rfl rfl _ _ h ?_ ?_; (· intro ch w' k; exact ⟨rfl, k⟩); intro r w1 h1)
  go_wp2
  go_region_law (refine step_call3T rfl 37 _ _ _ _ _ _ rfl (.iface S.T S.v) (.int .i64 2147483648) (.slice (some ⟨w1.heap.size, 0, none⟩) 3 3) rfl rfl rfl rfl _ _ (h1.all (by simp)) ?_ ?_; (· intro ch w' k; exact ⟨rfl, k⟩); intro r w2 h2)
  go_wp2
  exact h2

end Go.Proofs.Ythkgbgkijdeaoaa
