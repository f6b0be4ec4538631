/- What this text proves: the walk of ideal's publish over this program, where a batch is taken: a new epoch. -/
import Derived.Test.YtbnfaeafkkagcaaIdBase
import Derived.Test.YtbnfaeafkkagcaaBCheck
import Derived.Test.YtbnfaeafkkagcaaRegSplit
import Derived.Test.YtbnfaeafkkagcaaStepApp
namespace Go.Proofs.Ytbnfaeafkkagcaa
open Go.RowKit

/-- What a publishing keeps: what lies below base, and all blocks but those of numbers, of batches, of maps. -/
def KP (base : Nat) (w W : World) : Prop := Below base w W ∧ ∀ (k : Nat) cur t fr, w.heap[k]? = some (.cells cur t fr) → t ≠ 3 → t ≠ 23 → t ≠ 32 → W.heap[k]? = some (.cells cur t fr)

theorem KP.refl (base : Nat) (w : World) : KP base w w := ⟨Below.refl _ _, fun _ _ _ _ h _ _ _ => h⟩
theorem KP.trans {base : Nat} {a b c : World} (h1 : KP base a b) (h2 : KP base b c) : KP base a c := ⟨h1.1.trans h2.1, fun k cur t fr h i j l => h2.2 k cur t fr (h1.2 k cur t fr h i j l) i j l⟩
theorem KP.of_below {base : Nat} {w w' : World} (hb : Below w.heap.size w w') (h : base ≤ w.heap.size) : KP base w w' := ⟨hb.mono h, fun k _ _ _ hk _ _ _ => (hb.block k (Array.getElem?_eq_some_iff.1 hk).1).trans hk⟩
theorem KP.of_ints {base n : Nat} {w w' : World} {v : Value} {xs : List Value} (h : w.ownsRow base 3 1 v n xs) (hg : w.grownBy w' v.ownBlock) (hb : base ≤ w.heap.size) : KP base w w' := ⟨(Below.refl base w).grown hg hb (fun k hk => (h.lt k hk).1), fun k cur t fr hk i _ _ => TK.of_grown h hg k cur t fr hk i⟩
theorem KP.of_rows {base n : Nat} {w w' : World} {v : Value} {xs : List Value} (h : w.ownsRow base 23 1 v n xs) (hg : w.grownBy w' v.ownBlock) (hb : base ≤ w.heap.size) : KP base w w' := ⟨(Below.refl base w).grown hg hb (fun k hk => (h.lt k hk).1), fun k cur t fr hk _ j _ => TK.of_grown h hg k cur t fr hk j⟩
theorem KP.of_map {base g i : Nat} {w : World} {cs : Array Value} {fr : Nat × Nat} {u : Value} (h : w.heap[g]? = some (.cells cs 32 fr)) (hb : base ≤ g) : KP base w (w.setCell ⟨g, i, none⟩ u) := by
  have ho : Only g w (w.setCell ⟨g, i, none⟩ u) := (Only.refl g w).setCell _ _
  exact ⟨ho.below hb, fun k cur t fr hk _ _ l => TK.of_only ho h k cur t fr hk l⟩

theorem IM.later {w w' : World} {base g : Nat} {s h mi mk ch ar ca pg ck : Int} {ts : List Int} {us : List Value} {pt pb : Option Addr} {ct cb : Nat} (H : IM w base g s h mi mk ch ar ca pg ts us ck pt ct pb cb) (hb : Below w.heap.size w w') : IM w' base g s h mi mk ch ar ca pg ts us ck pt ct pb cb :=
  ⟨(hb.block _ (Array.getElem?_eq_some_iff.1 H.1).1).trans H.1, owns_later H.2.1 hb, owns_later H.2.2.1 hb, H.2.2.2⟩

theorem i_int8 : (Try.prog.info? 3).map (fun i => (i.zero, i.size, i.bytes)) = some (some (.int .i64 0), 1, 8) := by kernel_rfl
theorem i_binds : (Try.prog.info? 23).map (fun i => (i.zero, i.size, i.bytes)) = some (some (.slice none 0 0), 1, 24) := by kernel_rfl

set_option maxRecDepth 100000 in
set_option maxHeartbeats 2000000 in
theorem publish_ok (base g : Nat) (s h mi mk ch ar ca pg ck : Int) (ts : List Int) (us : List Value) (pt pb : Option Addr) (ct cb : Nat) (k fr to ti ep ix li : Int) (so : Bool) (id v : Value) (bs : List (List UInt8 × List UInt8)) (w : World)
    (H : IM w base g s h mi mk ch ar ca pg ts us ck pt ct pb cb) (hbase : base ≤ w.heap.size) (ht0 : 0 < ts.length) (ht1 : ts.length ≤ 300) (hu : us.length ≤ 300) (hs : ∀ u ∈ us, ∃ p n c, u = Value.slice p n c ∧ n ≤ 100)
    (hBA : ∀ W, KP base w W → BA W v bs) (hchk : ChkIs mi mk bs 0) (hn : bs.length ≤ 32) (hlen : ∀ x ∈ bs, x.1.length ≤ 140737488355328 ∧ x.2.length ≤ 140737488355328)
    (hep : (ts.length : Int) < epochsV s h mi mk ch ca pg) (hch : (((us.map lenS).sum : Nat) : Int) + (bs.length : Int) ≤ ch) :
    Calls Try.prog 23 #[.pointer (some ⟨g, 0, none⟩), .agg #[.int .i64 k, id, .int .i64 fr, .int .i64 to, .int .i64 ti, .bool so, .int .i64 ep, .int .i64 ix, .int .i64 li, v]] w fun x w' => ∃ gR pt' ct' pb' cb', x = .returned (.agg #[.int .i64 0, .int .i64 (ts.length : Int), .bool false, .bool false, .slice none 0 0, .int .i64 0, .slice none 0 0, .slice none 0 0, .bool false]) ∧ IM w' base g s h mi mk ch ar ca pg (ts ++ [ck]) (us ++ [.slice (some ⟨gR, 0, none⟩) bs.length bs.length]) ck pt' ct' pb' cb' ∧ BR w' gR gR bs.length bs ∧ KP base w w' := by
  obtain ⟨pv, cv, hv⟩ := (hBA w (KP.refl _ _)).shape
  subst hv
  have b0 := (Below.refl w.heap.size w).alloc (Nat.le_refl _) (.cells #[.int .i64 k, id, .int .i64 fr, .int .i64 to, .int .i64 ti, .bool so, .int .i64 ep, .int .i64 ix, .int .i64 li, .slice pv bs.length cv] 25)
  have gA := heap_alloc_new w (.cells #[.int .i64 k, id, .int .i64 fr, .int .i64 to, .int .i64 ti, .bool so, .int .i64 ep, .int .i64 ix, .int .i64 li, .slice pv bs.length cv] 25)
  obtain ⟨V0, hV0⟩ : ∃ V0, w.alloc (.cells #[.int .i64 k, id, .int .i64 fr, .int .i64 to, .int .i64 ti, .bool so, .int .i64 ep, .int .i64 ix, .int .i64 li, .slice pv bs.length cv] 25) = V0 := ⟨_, rfl⟩
  rw [hV0] at b0 gA
  have sV0 : V0.heap.size = w.heap.size + 1 := by rw [← hV0]; simp
  have b1 := (Below.refl V0.heap.size V0).alloc (Nat.le_refl _) (.cells #[.int .i64 0, .int .i64 0, .bool false, .bool false, .slice none 0 0, .int .i64 0, .slice none 0 0, .slice none 0 0, .bool false] 38)
  have gN := heap_alloc_new V0 (.cells #[.int .i64 0, .int .i64 0, .bool false, .bool false, .slice none 0 0, .int .i64 0, .slice none 0 0, .slice none 0 0, .bool false] 38)
  obtain ⟨V, hV⟩ : ∃ V, V0.alloc (.cells #[.int .i64 0, .int .i64 0, .bool false, .bool false, .slice none 0 0, .int .i64 0, .slice none 0 0, .slice none 0 0, .bool false] 38) = V := ⟨_, rfl⟩
  rw [hV] at b1 gN
  have gA1 := (b1.block _ (Array.getElem?_eq_some_iff.1 gA).1).trans gA
  rw [sV0] at gN
  have bV := b0.trans (b1.mono b0.size)
  have HV := H.later bV
  obtain ⟨ga, hga⟩ : ∃ ga, w.heap.size = ga := ⟨_, rfl⟩
  have hS : ∀ W, Below V.heap.size V W → (W.cell? ⟨g, 0, none⟩ = some (.int .i64 s) ∧ W.cell? ⟨g, 1, none⟩ = some (.int .i64 h) ∧ W.cell? ⟨g, 2, none⟩ = some (.int .i64 mi) ∧ W.cell? ⟨g, 3, none⟩ = some (.int .i64 mk) ∧ W.cell? ⟨g, 4, none⟩ = some (.int .i64 ch) ∧ W.cell? ⟨g, 5, none⟩ = some (.int .i64 ar) ∧ W.cell? ⟨g, 6, none⟩ = some (.int .i64 ca) ∧ W.cell? ⟨g, 7, none⟩ = some (.int .i64 pg) ∧ W.cell? ⟨g, 8, none⟩ = some (.slice pt ts.length ct) ∧ W.cell? ⟨g, 9, none⟩ = some (.slice pb us.length cb) ∧ W.cell? ⟨g, 10, none⟩ = some (.int .i64 ck) ∧ W.cell? ⟨ga, 9, none⟩ = some (.slice pv bs.length cv)) := by
    intro W hb
    obtain ⟨q0, q1, q2, q3, q4, q5, q6, q7, q8, q9, q10⟩ := map_cells (HV.later hb).1
    refine ⟨q0, q1, q2, q3, q4, q5, q6, q7, q8, q9, q10, ?_⟩
    rw [← hga, cell_of_row _ _ 9 _ _ _ ((hb.block _ (Array.getElem?_eq_some_iff.1 gA1).1).trans gA1)]
    rfl
  have bD : Below V.heap.size V V.drew := (Below.refl _ _).drew
  have kV := KP.of_below bV hbase
  have hsz : base ≤ V.heap.size := Nat.le_trans hbase bV.size
  have hS0 := hS V (Below.refl _ _)
  have hS1 := hS _ bD
  have hC := check_any s h mi mk ch ar ca pg _ bs V.drew (hBA _ (kV.trans (KP.of_below bD hsz)))
  clear H b0 b1 gA
  have HE := fun W => epochs_any s h mi mk ch ar ca pg W
  obtain ⟨EV, hEV⟩ : ∃ EV, epochsV s h mi mk ch ca pg = EV := ⟨_, rfl⟩
  rw [hEV] at HE hep
  obtain ⟨SM, hSM⟩ : ∃ SM, (us.map lenS).sum = SM := ⟨_, rfl⟩
  have hsm := sum_small us hs
  have HC := fun W hb => changes_ok base g s h mi mk ch ar ca pg ts us ck pt ct pb cb W (HV.later hb) ht0 (by omega) hs
  rw [hSM] at HC hch hsm
  have HP := fun W (hc : W.cell? ⟨g, 8, none⟩ = some (.slice pt ts.length ct)) => epoch_ok g pt ts.length ct W hc ht0 (by omega)
  obtain ⟨E1, hE1⟩ : ∃ E1 : Int, (ts.length : Int) - 1 = E1 := ⟨_, rfl⟩
  rw [hE1] at HP
  obtain ⟨E2, hE2⟩ : ∃ E2 : Int, IntKind.i64.wrap (E1 + 1) = E2 := ⟨_, rfl⟩
  obtain ⟨X, hX⟩ : ∃ X : Int, IntKind.i64.wrap ((SM : Int) + (bs.length : Int)) = X := ⟨_, rfl⟩
  have f1 : E2 < EV := by rw [← hE2, wrapZ _ (by omega) (by omega)]; omega
  have f2 : decide (EV ≤ E2) = false := by simp; omega
  have f3 : X ≤ ch := by rw [← hX, wrapZ _ (by omega) (by omega)]; omega
  have f4 : decide (ch < X) = false := by simp; omega
  clear hEV hSM hsm hE1 hep hch
  go_enter Try.func23, Try.ntmps23
  go_wp2
  go_region_held3 (fun w' => w'.cell? ⟨g, 0, none⟩ = some (.int .i64 s) ∧ w'.cell? ⟨g, 1, none⟩ = some (.int .i64 h) ∧ w'.cell? ⟨g, 2, none⟩ = some (.int .i64 mi) ∧ w'.cell? ⟨g, 3, none⟩ = some (.int .i64 mk) ∧ w'.cell? ⟨g, 4, none⟩ = some (.int .i64 ch) ∧ w'.cell? ⟨g, 5, none⟩ = some (.int .i64 ar) ∧ w'.cell? ⟨g, 6, none⟩ = some (.int .i64 ca) ∧ w'.cell? ⟨g, 7, none⟩ = some (.int .i64 pg) ∧ w'.cell? ⟨g, 8, none⟩ = some (.slice pt ts.length ct) ∧ w'.cell? ⟨g, 9, none⟩ = some (.slice pb us.length cb) ∧ w'.cell? ⟨g, 10, none⟩ = some (.int .i64 ck) ∧ w'.cell? ⟨ga, 9, none⟩ = some (.slice pv bs.length cv)) (first | with_reducible exact hS0 | with_reducible exact hS1 | with_reducible exact hS2) (first
    | (go_at_call 37; refine hC.mono ?_; rintro e w1 ⟨e1, rfl, hk1, c1⟩; obtain rfl := chk_one hk1 hchk; have b1 : Below V.heap.size V w1 := bD.trans (c1.mono bD.size); have hS2 := hS w1 b1))
  have bD1 := b1.drew
  have hS3 := hS _ bD1
  have HP1 := HP _ hS3.2.2.2.2.2.2.2.2.1
  clear hC hS0 hS1
  go_wp2
  go_region_held3 (fun w' => w'.cell? ⟨g, 0, none⟩ = some (.int .i64 s) ∧ w'.cell? ⟨g, 1, none⟩ = some (.int .i64 h) ∧ w'.cell? ⟨g, 2, none⟩ = some (.int .i64 mi) ∧ w'.cell? ⟨g, 3, none⟩ = some (.int .i64 mk) ∧ w'.cell? ⟨g, 4, none⟩ = some (.int .i64 ch) ∧ w'.cell? ⟨g, 5, none⟩ = some (.int .i64 ar) ∧ w'.cell? ⟨g, 6, none⟩ = some (.int .i64 ca) ∧ w'.cell? ⟨g, 7, none⟩ = some (.int .i64 pg) ∧ w'.cell? ⟨g, 8, none⟩ = some (.slice pt ts.length ct) ∧ w'.cell? ⟨g, 9, none⟩ = some (.slice pb us.length cb) ∧ w'.cell? ⟨g, 10, none⟩ = some (.int .i64 ck) ∧ w'.cell? ⟨ga, 9, none⟩ = some (.slice pv bs.length cv)) (first | with_reducible exact hS2 | with_reducible exact hS3 | with_reducible exact hS4) (first
    | (go_at_call 6; refine HP1.mono ?_; rintro e w2 ⟨rfl, hw⟩; subst hw)
    | (go_at_call 38; refine (HE _).mono ?_; rintro e w3 ⟨rfl, c3⟩; have b3 : Below V.heap.size V w3 := bD1.trans (c3.mono bD1.size); have hS4 := hS w3 b3)
    | (go_at_call 7; refine (HC _ b3).mono ?_; rintro e w4 ⟨rfl, hw⟩; have hw2 := hw.symm; clear hw; subst hw2))
  go_wp2
  have H6w := (HV.later b3)
  have hb3s : base ≤ w3.heap.size := Nat.le_trans hsz b3.size
  have kW3 := kV.trans (KP.of_below b3 hsz)
  obtain ⟨i0, hi, hz0, hz1, hz2⟩ := info_parts i_int8
  have hHeld : w3.drew.cell? ⟨g, 8, none⟩ = some (.slice pt ts.length ct) ∧ w3.drew.cell? ⟨g, 10, none⟩ = some (.int .i64 ck) := ⟨drewC hS4.2.2.2.2.2.2.2.2.1, drewC hS4.2.2.2.2.2.2.2.2.2.2.1⟩
  have bD3 : Below w3.heap.size w3 w3.drew := (Below.refl _ _).drew
  have H6 := H6w.later bD3
  have kW6 := kW3.trans (KP.of_below bD3 hb3s)
  have hb6 : base ≤ w3.drew.heap.size := hb3s
  have gA6 := ((b3.drew).block _ (Array.getElem?_eq_some_iff.1 gA1).1).trans gA1
  have gN6 := ((b3.drew).block _ (Array.getElem?_eq_some_iff.1 gN).1).trans gN
  clear hS2 hS3 hS4 HP1 HP HC HE hS bD bD1 c1 c3 b1 b3 HV gA1 gN H6w hb3s kW3 bD3 kV hsz bV hV hV0 sV0 hE2 hX f1 f2 f3 f4 hk1 hchk
  refine wp_region_split (by kernel_rfl) (fun W => W.cell? ⟨g, 8, none⟩ = some (.slice pt ts.length ct) ∧ W.cell? ⟨g, 10, none⟩ = some (.int .i64 ck)) 11 3 #[{ dst := some 41, op := Go.Op.move (Go.Operand.tmp 0), type := 26, pos := "ideal.go:151", after := #[], guard := none },
    { dst := some 42, op := Go.Op.move (Go.Operand.tmp 0), type := 26, pos := "ideal.go:151", after := #[], guard := none },
    { dst := some 43, op := Go.Op.nilCheck (Go.Operand.tmp 42), type := 0, pos := "ideal.go:151", after := #[{ on := 1, ground := Go.Ground.data }], guard := none },
    { dst := some 44, op := Go.Op.fieldAddr 32 (Go.Operand.tmp 43) 1, type := 0, pos := "ideal.go:151", after := #[{ on := 2, ground := Go.Ground.data }], guard := none },
    { dst := some 45, op := Go.Op.load 29 (Go.Operand.tmp 44), type := 29, pos := "ideal.go:151", after := #[{ on := 3, ground := Go.Ground.data }], guard := none },
    { dst := some 46, op := Go.Op.move (Go.Operand.tmp 0), type := 26, pos := "ideal.go:151", after := #[], guard := none },
    { dst := some 47, op := Go.Op.nilCheck (Go.Operand.tmp 46), type := 0, pos := "ideal.go:151", after := #[{ on := 5, ground := Go.Ground.data }], guard := none },
    { dst := some 48, op := Go.Op.fieldAddr 32 (Go.Operand.tmp 47) 3, type := 0, pos := "ideal.go:151", after := #[{ on := 6, ground := Go.Ground.data }], guard := none },
    { dst := some 49, op := Go.Op.load 3 (Go.Operand.tmp 48), type := 3, pos := "ideal.go:151", after := #[{ on := 7, ground := Go.Ground.data }], guard := none },
    { dst := some 50, op := Go.Op.buildSlice 29 1 #[(0, Go.Operand.tmp 49)], type := 29, pos := "ideal.go:151", after := #[{ on := 8, ground := Go.Ground.data }], guard := none },
    { dst := some 51, op := Go.Op.call { callee := Go.Callee.builtin Go.Builtin.append, args := #[Go.Operand.tmp 45, Go.Operand.tmp 50], argTypes := #[29, 29] }, type := 29, pos := "ideal.go:151", after := #[{ on := 4, ground := Go.Ground.data }, { on := 9, ground := Go.Ground.data }], guard := none }] (by kernel_rfl) (by kernel_rfl) ?_
  generalize w3.drew = W6 at *
  refine tkY 0 ⟨some 41, .move (.tmp 0), 26, "ideal.go:151", #[], none⟩ ?v0z8 hHeld ?y0z8 ?r0z8
  case y0z8 => (intro w hSw; (try dsimp only at hSw); go_simp) <;> with_reducible rfl
  try simp only [Act.put, List.setIfInBounds_toArray, List.set_cons_zero, List.set_cons_succ]
  refine tkY 1 ⟨some 42, .move (.tmp 0), 26, "ideal.go:151", #[], none⟩ ?v1z9 hHeld ?y1z9 ?r1z9
  case y1z9 => (intro w hSw; (try dsimp only at hSw); go_simp) <;> with_reducible rfl
  try simp only [Act.put, List.setIfInBounds_toArray, List.set_cons_zero, List.set_cons_succ]
  refine tkY 2 ⟨some 43, .nilCheck (.tmp 42), 0, "ideal.go:151", #[⟨1, .data⟩], none⟩ ?v2z10 hHeld ?y2z10 ?r2z10
  case y2z10 => (intro w hSw; (try dsimp only at hSw); go_simp) <;> with_reducible rfl
  try simp only [Act.put, List.setIfInBounds_toArray, List.set_cons_zero, List.set_cons_succ]
  refine tkY 3 ⟨some 44, .fieldAddr 32 (.tmp 43) 1, 0, "ideal.go:151", #[⟨2, .data⟩], none⟩ ?v3z11 hHeld ?y3z11 ?r3z11
  case y3z11 => (intro w hSw; (try dsimp only at hSw); go_simp) <;> with_reducible rfl
  try simp only [Act.put, List.setIfInBounds_toArray, List.set_cons_zero, List.set_cons_succ]
  refine tkY 4 ⟨some 45, .load 29 (.tmp 44), 29, "ideal.go:151", #[⟨3, .data⟩], none⟩ ?v4z12 hHeld ?y4z12 ?r4z12
  case y4z12 => (intro w hSw; (try dsimp only at hSw); go_simp) <;> with_reducible rfl
  try simp only [Act.put, List.setIfInBounds_toArray, List.set_cons_zero, List.set_cons_succ]
  refine tkY 5 ⟨some 46, .move (.tmp 0), 26, "ideal.go:151", #[], none⟩ ?v5z13 hHeld ?y5z13 ?r5z13
  case y5z13 => (intro w hSw; (try dsimp only at hSw); go_simp) <;> with_reducible rfl
  try simp only [Act.put, List.setIfInBounds_toArray, List.set_cons_zero, List.set_cons_succ]
  refine tkY 6 ⟨some 47, .nilCheck (.tmp 46), 0, "ideal.go:151", #[⟨5, .data⟩], none⟩ ?v6z14 hHeld ?y6z14 ?r6z14
  case y6z14 => (intro w hSw; (try dsimp only at hSw); go_simp) <;> with_reducible rfl
  try simp only [Act.put, List.setIfInBounds_toArray, List.set_cons_zero, List.set_cons_succ]
  refine tkY 7 ⟨some 48, .fieldAddr 32 (.tmp 47) 3, 0, "ideal.go:151", #[⟨6, .data⟩], none⟩ ?v7z15 hHeld ?y7z15 ?r7z15
  case y7z15 => (intro w hSw; (try dsimp only at hSw); go_simp) <;> with_reducible rfl
  try simp only [Act.put, List.setIfInBounds_toArray, List.set_cons_zero, List.set_cons_succ]
  refine tkY 8 ⟨some 49, .load 3 (.tmp 48), 3, "ideal.go:151", #[⟨7, .data⟩], none⟩ ?v8z16 hHeld ?y8z16 ?r8z16
  case y8z16 => (intro w hSw; (try dsimp only at hSw); go_simp) <;> with_reducible rfl
  try simp only [Act.put, List.setIfInBounds_toArray, List.set_cons_zero, List.set_cons_succ]
  refine wpAnyH_ready (rs := [9]) (by kernel_rfl) (by simp) ?_
  refine AllReadyH.cons (o := ⟨some 50, .buildSlice 29 1 #[(0, .tmp 49)], 29, "ideal.go:151", #[⟨8, .data⟩], none⟩) rfl (fun K hK => ?_) AllReadyH.nil
  go_simp
  have bB := (Below.refl W6.heap.size W6).alloc (Nat.le_refl _) (.cells #[.int .i64 ck] 3)
  have gB := heap_alloc_new W6 (.cells #[.int .i64 ck] 3)
  replace hHeld := (show _ ∧ _ from ⟨cell_later bB hHeld.1, cell_later bB hHeld.2⟩)
  have I6 := H6.later bB
  refine hK.out _ _ ?_ (fun _ => ?_)
  · exact hHeld
  clear hK K
  try simp only [Act.put, List.setIfInBounds_toArray, List.set_cons_zero, List.set_cons_succ]
  refine wpAnyH_ready (rs := [10]) (by kernel_rfl) (by simp) ?_
  refine AllReadyH.cons (o := ⟨some 51, .call { callee := .builtin .append, args := #[.tmp 45, .tmp 50], argTypes := #[29, 29] }, 29, "ideal.go:151", #[⟨4, .data⟩, ⟨9, .data⟩], none⟩) rfl (fun K hK => ?_) AllReadyH.nil
  refine step_append_lies _ (by rfl) _ _ _ (by rfl) base 3 i0 _ 1 8 Try.underlying29 hi hz0 hz1 hz2 rfl (by decide) _ ts.length (ts.map fun n => Value.int .i64 n) (by rfl) I6.2.1 ⟨W6.heap.size, 0, none⟩ 1 1 [.int .i64 ck] (by rfl) (by rfl) (World.news_of_block (cs := #[.int .i64 ck]) (t := 3) (fr := (0, 0)) gB) (by simp [Value.oneCell']) (by omega) (by unfold maxLen; omega) (by omega) (Nat.le_trans hb6 bB.size) _ rfl ?_
  intro g7 cap7 w7 ow7 gr7 hat7 hlt7
  have k7 : KP base W6 w7 := (KP.of_below bB hb6).trans (KP.of_ints I6.2.1 gr7 (Nat.le_trans hb6 bB.size))
  have t7 := TK.of_grown I6.2.1 gr7
  have m7 := t7 _ _ _ _ I6.1 (by decide)
  obtain ⟨_, _, _, _, _, _, _, _, u8, u9, u10⟩ := map_cells m7
  replace hHeld := (show _ ∧ _ from ⟨u8, u10⟩)
  refine hK.out _ _ ?_ (fun _ => ?_)
  · exact hHeld
  clear hK K
  try simp only [Act.put, List.setIfInBounds_toArray, List.set_cons_zero, List.set_cons_succ]
  refine wpAnyH_done (by kernel_rfl) ?_ _
  refine headPost_rest [{ dst := some 52, op := Go.Op.nilCheck (Go.Operand.tmp 41), type := 0, pos := "ideal.go:151", after := #[{ on := 0, ground := Go.Ground.data }, { on := 0, ground := Go.Ground.phase }, { on := 1, ground := Go.Ground.phase }, { on := 2, ground := Go.Ground.phase }, { on := 3, ground := Go.Ground.phase }, { on := 4, ground := Go.Ground.phase }, { on := 5, ground := Go.Ground.phase }, { on := 6, ground := Go.Ground.phase }, { on := 7, ground := Go.Ground.phase }, { on := 8, ground := Go.Ground.phase }, { on := 9, ground := Go.Ground.phase }, { on := 10, ground := Go.Ground.phase }], guard := none },
    { dst := some 53, op := Go.Op.fieldAddr 32 (Go.Operand.tmp 52) 1, type := 0, pos := "ideal.go:151", after := #[{ on := 11, ground := Go.Ground.data }, { on := 0, ground := Go.Ground.phase }, { on := 1, ground := Go.Ground.phase }, { on := 2, ground := Go.Ground.phase }, { on := 3, ground := Go.Ground.phase }, { on := 4, ground := Go.Ground.phase }, { on := 5, ground := Go.Ground.phase }, { on := 6, ground := Go.Ground.phase }, { on := 7, ground := Go.Ground.phase }, { on := 8, ground := Go.Ground.phase }, { on := 9, ground := Go.Ground.phase }, { on := 10, ground := Go.Ground.phase }], guard := none },
    { dst := none, op := Go.Op.store 29 (Go.Operand.tmp 53) (Go.Operand.tmp 51), type := 0, pos := "ideal.go:151", after := #[{ on := 12, ground := Go.Ground.data }, { on := 10, ground := Go.Ground.data }, { on := 10, ground := Go.Ground.chain }, { on := 0, ground := Go.Ground.phase }, { on := 1, ground := Go.Ground.phase }, { on := 2, ground := Go.Ground.phase }, { on := 3, ground := Go.Ground.phase }, { on := 4, ground := Go.Ground.phase }, { on := 5, ground := Go.Ground.phase }, { on := 6, ground := Go.Ground.phase }, { on := 7, ground := Go.Ground.phase }, { on := 8, ground := Go.Ground.phase }, { on := 9, ground := Go.Ground.phase }, { on := 10, ground := Go.Ground.phase }], guard := none }] (by kernel_rfl) rfl (by kernel_rfl) ?_
  have fz8 : w7.frozen? ⟨g, 8, none⟩ = false := by simp [World.frozen?, m7]
  have m8 := heap_setCell_same w7 g 8 _ _ (.slice (some ⟨g7, 0, none⟩) (ts.length + 1) cap7) m7
  have k8 : KP base w7 (w7.setCell ⟨g, 8, none⟩ (.slice (some ⟨g7, 0, none⟩) (ts.length + 1) cap7)) := KP.of_map m7 H6.2.2.2
  have r8 : w7.ownsRow base 23 1 (.slice pb us.length cb) us.length us := owns_tk I6.2.2.1 t7 (by decide)
  have t8 : TK 32 w7 (w7.setCell ⟨g, 8, none⟩ (.slice (some ⟨g7, 0, none⟩) (ts.length + 1) cap7)) := TK.of_only ((Only.refl g w7).setCell _ _) m7
  have HU : IM (w7.setCell ⟨g, 8, none⟩ (.slice (some ⟨g7, 0, none⟩) (ts.length + 1) cap7)) base g s h mi mk ch ar ca pg (ts ++ [ck]) us ck (some ⟨g7, 0, none⟩) cap7 pb cb := by
    refine ⟨?_, ?_, owns_tk r8 t8 (by decide), H6.2.2.2⟩
    · rw [m8]
      simp [mapC]
    · have := owns_tk ow7 t8 (by decide)
      simpa using this
  have kU := kW6.trans (k7.trans k8)
  have gAU := (k7.trans k8).2 _ _ _ _ gA6 (by decide) (by decide) (by decide)
  have gNU := (k7.trans k8).2 _ _ _ _ gN6 (by decide) (by decide) (by decide)
  have hbU : base ≤ (w7.setCell ⟨g, 8, none⟩ (.slice (some ⟨g7, 0, none⟩) (ts.length + 1) cap7)).heap.size := Nat.le_trans hb6 (k7.trans k8).1.size
  clear hHeld m8 r8 t8 k7 k8 ow7 gr7 hat7 hlt7 t7 m7 I6 bB gB H6 kW6 gA6 gN6 hb6 u9 u10
  go_wp2
  generalize w7.setCell ⟨g, 8, none⟩ (.slice (some ⟨g7, 0, none⟩) (ts.length + 1) cap7) = U at *
  obtain ⟨i1, hi1, hy0, hy1, hy2⟩ := info_parts i_binds
  obtain ⟨_, _, _, _, _, _, _, _, u8, u9, u10⟩ := map_cells HU.1
  have v9 : U.cell? ⟨ga, 9, none⟩ = some (.slice pv bs.length cv) := by rw [← hga, cell_of_row _ _ 9 _ _ _ gAU]; rfl
  have hHeld : U.drew.cell? ⟨g, 9, none⟩ = some (.slice pb us.length cb) ∧ U.drew.cell? ⟨ga, 9, none⟩ = some (.slice pv bs.length cv) := ⟨drewC u9, drewC v9⟩
  have bDU : Below U.heap.size U U.drew := (Below.refl _ _).drew
  have H7 := HU.later bDU
  have k7 := kU.trans (KP.of_below bDU hbU)
  have hb7 : base ≤ U.drew.heap.size := hbU
  have gA7 := (bDU.block _ (Array.getElem?_eq_some_iff.1 gAU).1).trans gAU
  have gN7 := (bDU.block _ (Array.getElem?_eq_some_iff.1 gNU).1).trans gNU
  have hB7 := hBA _ k7
  clear u8 u9 u10 v9 HU kU gAU gNU bDU hbU hBA
  refine wp_region_split (by kernel_rfl) (fun W => W.cell? ⟨g, 9, none⟩ = some (.slice pb us.length cb) ∧ W.cell? ⟨ga, 9, none⟩ = some (.slice pv bs.length cv)) 10 3 #[{ dst := some 54, op := Go.Op.move (Go.Operand.tmp 0), type := 26, pos := "ideal.go:152", after := #[], guard := none },
    { dst := some 55, op := Go.Op.move (Go.Operand.tmp 0), type := 26, pos := "ideal.go:152", after := #[], guard := none },
    { dst := some 56, op := Go.Op.nilCheck (Go.Operand.tmp 55), type := 0, pos := "ideal.go:152", after := #[{ on := 1, ground := Go.Ground.data }], guard := none },
    { dst := some 57, op := Go.Op.fieldAddr 32 (Go.Operand.tmp 56) 2, type := 0, pos := "ideal.go:152", after := #[{ on := 2, ground := Go.Ground.data }], guard := none },
    { dst := some 58, op := Go.Op.load 30 (Go.Operand.tmp 57), type := 30, pos := "ideal.go:152", after := #[{ on := 3, ground := Go.Ground.data }], guard := none },
    { dst := some 59, op := Go.Op.fieldAddr 25 (Go.Operand.tmp 3) 9, type := 0, pos := "ideal.go:152", after := #[], guard := none },
    { dst := some 60, op := Go.Op.load 23 (Go.Operand.tmp 59), type := 23, pos := "ideal.go:152", after := #[{ on := 5, ground := Go.Ground.data }], guard := none },
    { dst := some 61, op := Go.Op.call { callee := Go.Callee.value (Go.Operand.func 18), args := #[Go.Operand.tmp 60], argTypes := #[23] }, type := 23, pos := "ideal.go:152", after := #[{ on := 6, ground := Go.Ground.data }], guard := none },
    { dst := some 62, op := Go.Op.buildSlice 30 1 #[(0, Go.Operand.tmp 61)], type := 30, pos := "ideal.go:152", after := #[{ on := 7, ground := Go.Ground.data }], guard := none },
    { dst := some 63, op := Go.Op.call { callee := Go.Callee.builtin Go.Builtin.append, args := #[Go.Operand.tmp 58, Go.Operand.tmp 62], argTypes := #[30, 30] }, type := 30, pos := "ideal.go:152", after := #[{ on := 4, ground := Go.Ground.data }, { on := 8, ground := Go.Ground.data }, { on := 7, ground := Go.Ground.chain }], guard := none }] (by kernel_rfl) (by kernel_rfl) ?_
  generalize U.drew = W7 at *
  refine tkY 0 ⟨some 54, .move (.tmp 0), 26, "ideal.go:152", #[], none⟩ ?v0z1 hHeld ?y0z1 ?r0z1
  case y0z1 => (intro w hSw; (try dsimp only at hSw); go_simp) <;> with_reducible rfl
  try simp only [Act.put, List.setIfInBounds_toArray, List.set_cons_zero, List.set_cons_succ]
  refine tkY 1 ⟨some 55, .move (.tmp 0), 26, "ideal.go:152", #[], none⟩ ?v1z2 hHeld ?y1z2 ?r1z2
  case y1z2 => (intro w hSw; (try dsimp only at hSw); go_simp) <;> with_reducible rfl
  try simp only [Act.put, List.setIfInBounds_toArray, List.set_cons_zero, List.set_cons_succ]
  refine tkY 2 ⟨some 56, .nilCheck (.tmp 55), 0, "ideal.go:152", #[⟨1, .data⟩], none⟩ ?v2z3 hHeld ?y2z3 ?r2z3
  case y2z3 => (intro w hSw; (try dsimp only at hSw); go_simp) <;> with_reducible rfl
  try simp only [Act.put, List.setIfInBounds_toArray, List.set_cons_zero, List.set_cons_succ]
  refine tkY 3 ⟨some 57, .fieldAddr 32 (.tmp 56) 2, 0, "ideal.go:152", #[⟨2, .data⟩], none⟩ ?v3z4 hHeld ?y3z4 ?r3z4
  case y3z4 => (intro w hSw; (try dsimp only at hSw); go_simp) <;> with_reducible rfl
  try simp only [Act.put, List.setIfInBounds_toArray, List.set_cons_zero, List.set_cons_succ]
  refine tkY 4 ⟨some 58, .load 30 (.tmp 57), 30, "ideal.go:152", #[⟨3, .data⟩], none⟩ ?v4z5 hHeld ?y4z5 ?r4z5
  case y4z5 => (intro w hSw; (try dsimp only at hSw); go_simp) <;> with_reducible rfl
  try simp only [Act.put, List.setIfInBounds_toArray, List.set_cons_zero, List.set_cons_succ]
  refine tkY 5 ⟨some 59, .fieldAddr 25 (.tmp 3) 9, 0, "ideal.go:152", #[], none⟩ ?v5z6 hHeld ?y5z6 ?r5z6
  case y5z6 => (intro w hSw; (try dsimp only at hSw); go_simp) <;> with_reducible rfl
  try simp only [Act.put, List.setIfInBounds_toArray, List.set_cons_zero, List.set_cons_succ]
  refine tkY 6 ⟨some 60, .load 23 (.tmp 59), 23, "ideal.go:152", #[⟨5, .data⟩], none⟩ ?v6z7 hHeld ?y6z7 ?r6z7
  case y6z7 => (intro w hSw; (try dsimp only at hSw); go_simp) <;> with_reducible rfl
  try simp only [Act.put, List.setIfInBounds_toArray, List.set_cons_zero, List.set_cons_succ]
  refine wpAnyH_ready (rs := [7]) (by kernel_rfl) (by simp) ?_
  refine AllReadyH.cons (o := ⟨some 61, .call { callee := .value (.func 18), args := #[.tmp 60], argTypes := #[23] }, 23, "ideal.go:152", #[⟨6, .data⟩], none⟩) rfl (fun K hK => ?_) AllReadyH.nil
  go_simp
  refine (copiedB_any _ bs _ hB7 (by omega) hlen).mono ?_
  rintro e w9 ⟨gR, rfl, hgR, br9, c9⟩
  replace hHeld := (show _ ∧ _ from ⟨cell_later c9 hHeld.1, cell_later c9 hHeld.2⟩)
  have H9 := H7.later c9
  have k9 := k7.trans (KP.of_below c9 hb7)
  have hb9 := Nat.le_trans hb7 c9.size
  have gA9 := (c9.block _ (Array.getElem?_eq_some_iff.1 gA7).1).trans gA7
  have gN9 := (c9.block _ (Array.getElem?_eq_some_iff.1 gN7).1).trans gN7
  clear H7 k7 hb7 gA7 gN7 hB7 c9 hgR
  refine hK.out _ _ ?_ (fun _ => ?_)
  · exact hHeld
  clear hK K
  try simp only [Act.put, List.setIfInBounds_toArray, List.set_cons_zero, List.set_cons_succ]
  refine wpAnyH_ready (rs := [8]) (by kernel_rfl) (by simp) ?_
  refine AllReadyH.cons (o := ⟨some 62, .buildSlice 30 1 #[(0, .tmp 61)], 30, "ideal.go:152", #[⟨7, .data⟩], none⟩) rfl (fun K hK => ?_) AllReadyH.nil
  go_simp
  have bB := (Below.refl w9.heap.size w9).alloc (Nat.le_refl _) (.cells #[.slice (some ⟨gR, 0, none⟩) bs.length bs.length] 23)
  have gB := heap_alloc_new w9 (.cells #[.slice (some ⟨gR, 0, none⟩) bs.length bs.length] 23)
  replace hHeld := (show _ ∧ _ from ⟨cell_later bB hHeld.1, cell_later bB hHeld.2⟩)
  have I9 := H9.later bB
  have brB := br9.tk (TK.of_below (T := 3) bB) (by decide) (by decide)
  refine hK.out _ _ ?_ (fun _ => ?_)
  · exact hHeld
  clear hK K
  try simp only [Act.put, List.setIfInBounds_toArray, List.set_cons_zero, List.set_cons_succ]
  refine wpAnyH_ready (rs := [9]) (by kernel_rfl) (by simp) ?_
  refine AllReadyH.cons (o := ⟨some 63, .call { callee := .builtin .append, args := #[.tmp 58, .tmp 62], argTypes := #[30, 30] }, 30, "ideal.go:152", #[⟨4, .data⟩, ⟨8, .data⟩, ⟨7, .chain⟩], none⟩) rfl (fun K hK => ?_) AllReadyH.nil
  refine step_append_lies _ (by rfl) _ _ _ (by rfl) base 23 i1 _ 1 24 Try.underlying30 hi1 hy0 hy1 hy2 rfl (by decide) _ us.length us (by rfl) I9.2.2.1 ⟨w9.heap.size, 0, none⟩ 1 1 [.slice (some ⟨gR, 0, none⟩) bs.length bs.length] (by rfl) (by rfl) (World.news_of_block (cs := #[.slice (some ⟨gR, 0, none⟩) bs.length bs.length]) (t := 23) (fr := (0, 0)) gB) (by simp [Value.oneCell']) (by omega) (by unfold maxLen; omega) (by omega) (Nat.le_trans hb9 bB.size) _ rfl ?_
  intro g10 cap10 w10 ow10 gr10 hat10 hlt10
  have k10 : KP base w9 w10 := (KP.of_below bB hb9).trans (KP.of_rows I9.2.2.1 gr10 (Nat.le_trans hb9 bB.size))
  have t10 := TK.of_grown I9.2.2.1 gr10
  have m10 := t10 _ _ _ _ I9.1 (by decide)
  have br10 := brB.tk t10 (by decide) (by decide)
  have gA10 := k10.2 _ _ _ _ gA9 (by decide) (by decide) (by decide)
  obtain ⟨_, _, _, _, _, _, _, _, u8, u9, u10⟩ := map_cells m10
  have v10 : w10.cell? ⟨ga, 9, none⟩ = some (.slice pv bs.length cv) := by rw [← hga, cell_of_row _ _ 9 _ _ _ gA10]; rfl
  replace hHeld := (show _ ∧ _ from ⟨u9, v10⟩)
  refine hK.out _ _ ?_ (fun _ => ?_)
  · exact hHeld
  clear hK K
  try simp only [Act.put, List.setIfInBounds_toArray, List.set_cons_zero, List.set_cons_succ]
  refine wpAnyH_done (by kernel_rfl) ?_ _
  refine headPost_rest [{ dst := some 64, op := Go.Op.nilCheck (Go.Operand.tmp 54), type := 0, pos := "ideal.go:152", after := #[{ on := 0, ground := Go.Ground.data }, { on := 0, ground := Go.Ground.phase }, { on := 1, ground := Go.Ground.phase }, { on := 2, ground := Go.Ground.phase }, { on := 3, ground := Go.Ground.phase }, { on := 4, ground := Go.Ground.phase }, { on := 5, ground := Go.Ground.phase }, { on := 6, ground := Go.Ground.phase }, { on := 7, ground := Go.Ground.phase }, { on := 8, ground := Go.Ground.phase }, { on := 9, ground := Go.Ground.phase }], guard := none },
    { dst := some 65, op := Go.Op.fieldAddr 32 (Go.Operand.tmp 64) 2, type := 0, pos := "ideal.go:152", after := #[{ on := 10, ground := Go.Ground.data }, { on := 0, ground := Go.Ground.phase }, { on := 1, ground := Go.Ground.phase }, { on := 2, ground := Go.Ground.phase }, { on := 3, ground := Go.Ground.phase }, { on := 4, ground := Go.Ground.phase }, { on := 5, ground := Go.Ground.phase }, { on := 6, ground := Go.Ground.phase }, { on := 7, ground := Go.Ground.phase }, { on := 8, ground := Go.Ground.phase }, { on := 9, ground := Go.Ground.phase }], guard := none },
    { dst := none, op := Go.Op.store 30 (Go.Operand.tmp 65) (Go.Operand.tmp 63), type := 0, pos := "ideal.go:152", after := #[{ on := 11, ground := Go.Ground.data }, { on := 9, ground := Go.Ground.data }, { on := 9, ground := Go.Ground.chain }, { on := 0, ground := Go.Ground.phase }, { on := 1, ground := Go.Ground.phase }, { on := 2, ground := Go.Ground.phase }, { on := 3, ground := Go.Ground.phase }, { on := 4, ground := Go.Ground.phase }, { on := 5, ground := Go.Ground.phase }, { on := 6, ground := Go.Ground.phase }, { on := 7, ground := Go.Ground.phase }, { on := 8, ground := Go.Ground.phase }, { on := 9, ground := Go.Ground.phase }], guard := none }] (by kernel_rfl) rfl (by kernel_rfl) ?_
  have fz9 : w10.frozen? ⟨g, 9, none⟩ = false := by simp [World.frozen?, m10]
  have m11 := heap_setCell_same w10 g 9 _ _ (.slice (some ⟨g10, 0, none⟩) (us.length + 1) cap10) m10
  have k11 : KP base w10 (w10.setCell ⟨g, 9, none⟩ (.slice (some ⟨g10, 0, none⟩) (us.length + 1) cap10)) := KP.of_map m10 H9.2.2.2
  have r11 : w10.ownsRow base 3 1 (.slice (some ⟨g7, 0, none⟩) (ts ++ [ck]).length cap7) (ts ++ [ck]).length ((ts ++ [ck]).map fun n => Value.int .i64 n) := owns_tk I9.2.1 t10 (by decide)
  have t11 : TK 32 w10 (w10.setCell ⟨g, 9, none⟩ (.slice (some ⟨g10, 0, none⟩) (us.length + 1) cap10)) := TK.of_only ((Only.refl g w10).setCell _ _) m10
  have HF : IM (w10.setCell ⟨g, 9, none⟩ (.slice (some ⟨g10, 0, none⟩) (us.length + 1) cap10)) base g s h mi mk ch ar ca pg (ts ++ [ck]) (us ++ [.slice (some ⟨gR, 0, none⟩) bs.length bs.length]) ck (some ⟨g7, 0, none⟩) cap7 (some ⟨g10, 0, none⟩) cap10 := by
    refine ⟨?_, owns_tk r11 t11 (by decide), ?_, H9.2.2.2⟩
    · rw [m11]
      simp [mapC]
    · have := owns_tk ow10 t11 (by decide)
      simpa using this
  have kF := k9.trans (k10.trans k11)
  have gNF := (k10.trans k11).2 _ _ _ _ gN9 (by decide) (by decide) (by decide)
  have brF := br10.tk t11 (by decide) (by decide)
  have hbF : base ≤ ((w10.setCell ⟨g, 9, none⟩ (.slice (some ⟨g10, 0, none⟩) (us.length + 1) cap10))).heap.size := Nat.le_trans hb9 (k10.trans k11).1.size
  clear hHeld m11 r11 t11 k10 k11 ow10 gr10 hat10 hlt10 t10 m10 I9 bB gB H9 k9 gA9 gN9 hb9 u8 u10 br9 brB br10 gA10
  have E8 := fun W hc => epoch_ok g (some ⟨g7, 0, none⟩) (ts.length + 1) cap7 W hc (by omega) (by omega)
  rw [show ((ts.length + 1 : Nat) : Int) - 1 = (ts.length : Int) by omega] at E8
  obtain ⟨_, _, _, _, _, _, _, _, y8, _, _⟩ := map_cells HF.1
  have E9 := E8 (w10.setCell ⟨g, 9, none⟩ (.slice (some ⟨g10, 0, none⟩) (us.length + 1) cap10)) (by simpa using y8)
  clear E8 y8
  generalize hUF : (w10.setCell ⟨g, 9, none⟩ (.slice (some ⟨g10, 0, none⟩) (us.length + 1) cap10)) = UF at *
  rw [hga] at gNF
  obtain ⟨⟨x0, x1, x2, x3, x4, x5, x6, x7, x8⟩, fx⟩ := ans_cells gNF
  have f0 := fx 0
  have f1 := fx 1
  have f2 := fx 2
  have f3 := fx 3
  have f4 := fx 4
  have f5 := fx 5
  have f6 := fx 6
  have f7 := fx 7
  have f8 := fx 8
  have hon : Only (ga + 1) UF (((((((((UF.setCell ⟨ga + 1, 0, none⟩ (.int .i64 0)).setCell ⟨ga + 1, 1, none⟩ (.int .i64 (ts.length : Int))).setCell ⟨ga + 1, 2, none⟩ (.bool false)).setCell ⟨ga + 1, 3, none⟩ (.bool false)).setCell ⟨ga + 1, 4, none⟩ (.slice none 0 0)).setCell ⟨ga + 1, 5, none⟩ (.int .i64 0)).setCell ⟨ga + 1, 6, none⟩ (.slice none 0 0)).setCell ⟨ga + 1, 7, none⟩ (.slice none 0 0)).setCell ⟨ga + 1, 8, none⟩ (.bool false)) := ((((((((((Only.refl (ga + 1) UF).setCell 0 _).setCell 1 _).setCell 2 _).setCell 3 _).setCell 4 _).setCell 5 _).setCell 6 _).setCell 7 _).setCell 8 _)
  have kE : KP base w (((((((((UF.setCell ⟨ga + 1, 0, none⟩ (.int .i64 0)).setCell ⟨ga + 1, 1, none⟩ (.int .i64 (ts.length : Int))).setCell ⟨ga + 1, 2, none⟩ (.bool false)).setCell ⟨ga + 1, 3, none⟩ (.bool false)).setCell ⟨ga + 1, 4, none⟩ (.slice none 0 0)).setCell ⟨ga + 1, 5, none⟩ (.int .i64 0)).setCell ⟨ga + 1, 6, none⟩ (.slice none 0 0)).setCell ⟨ga + 1, 7, none⟩ (.slice none 0 0)).setCell ⟨ga + 1, 8, none⟩ (.bool false)) := ⟨kF.1.trans (hon.below (by omega)), fun k cur t fr hk a b c => (hon.block k (by have := (Array.getElem?_eq_some_iff.1 hk).1; omega) (Array.getElem?_eq_some_iff.1 (kF.2 k cur t fr hk a b c)).1).trans (kF.2 k cur t fr hk a b c)⟩
  have t12 : TK 38 UF (((((((((UF.setCell ⟨ga + 1, 0, none⟩ (.int .i64 0)).setCell ⟨ga + 1, 1, none⟩ (.int .i64 (ts.length : Int))).setCell ⟨ga + 1, 2, none⟩ (.bool false)).setCell ⟨ga + 1, 3, none⟩ (.bool false)).setCell ⟨ga + 1, 4, none⟩ (.slice none 0 0)).setCell ⟨ga + 1, 5, none⟩ (.int .i64 0)).setCell ⟨ga + 1, 6, none⟩ (.slice none 0 0)).setCell ⟨ga + 1, 7, none⟩ (.slice none 0 0)).setCell ⟨ga + 1, 8, none⟩ (.bool false)) := TK.of_only hon gNF
  have HE : IM (((((((((UF.setCell ⟨ga + 1, 0, none⟩ (.int .i64 0)).setCell ⟨ga + 1, 1, none⟩ (.int .i64 (ts.length : Int))).setCell ⟨ga + 1, 2, none⟩ (.bool false)).setCell ⟨ga + 1, 3, none⟩ (.bool false)).setCell ⟨ga + 1, 4, none⟩ (.slice none 0 0)).setCell ⟨ga + 1, 5, none⟩ (.int .i64 0)).setCell ⟨ga + 1, 6, none⟩ (.slice none 0 0)).setCell ⟨ga + 1, 7, none⟩ (.slice none 0 0)).setCell ⟨ga + 1, 8, none⟩ (.bool false)) base g s h mi mk ch ar ca pg (ts ++ [ck]) (us ++ [.slice (some ⟨gR, 0, none⟩) bs.length bs.length]) ck (some ⟨g7, 0, none⟩) cap7 (some ⟨g10, 0, none⟩) cap10 := ⟨t12 _ _ _ _ HF.1 (by decide), owns_tk HF.2.1 t12 (by decide), owns_tk HF.2.2.1 t12 (by decide), HF.2.2.2⟩
  have brE := brF.tk t12 (by decide) (by decide)
  clear hon t12 HF kF brF gNF fx hbF
  go_wp2_with (first | (go_at_call 6; refine E9.mono ?_; rintro e w12 ⟨rfl, hw⟩; have hw2 := hw.symm; clear hw; subst hw2))
  refine bodyPost_ret (v := .agg #[.int .i64 0, .int .i64 (ts.length : Int), .bool false, .bool false, .slice none 0 0, .int .i64 0, .slice none 0 0, .slice none 0 0, .bool false]) ?_ rfl ?_
  · simp only [results, Try.results23]
    go_simp
  · exact ⟨gR, _, _, _, _, rfl, HE, brE, kE⟩

end Go.Proofs.Ytbnfaeafkkagcaa
