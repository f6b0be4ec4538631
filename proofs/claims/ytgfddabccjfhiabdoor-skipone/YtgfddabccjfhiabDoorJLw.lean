/- What this text proves: the walk of annalslaw14.awake over this program: it answers true. What this text proves: the walk of the statement SkipOne over this program: it answers true for any records. (By program: held.py, mkskone.py.) -/
import Derived.Test.YtgfddabccjfhiabDoorJSk
import Derived.Test.YtgfddabccjfhiabDoorJFoFollow
import Derived.Test.YtgfddabccjfhiabDoorJSm
namespace Go.Proofs.YtgfddabccjfhiabDoor
open Go.RowKit

theorem way70 : wayI 7 0 = [6, 4, 0] := by decide +kernel
theorem next60 : nextI 6 0 = 4 := by decide +kernel

set_option maxRecDepth 100000 in
set_option maxHeartbeats 1000000 in
theorem skAwake_any (w : World) (hT : TD w) :
    Calls Tryd.prog 9 #[] w fun x w' => x = .returned (.bool true) ∧ Below w.heap.size w w' := by
  have hW := way_any 7 0 w hT
  rw [way70] at hW
  have hN := fun w (h : TD w) => next_any 6 0 w (by omega) h
  rw [next60] at hN
  obtain ⟨L, hL⟩ : ∃ L : List Nat, L = [6, 4, 0] := ⟨_, rfl⟩
  rw [← hL] at hW
  have HL : Hid (L = [6, 4, 0]) := hL
  clear hL
  go_enter Tryd.func9, Tryd.ntmps9
  go_wp2_with fail
  refine hW.mono ?_
  rintro x w1 ⟨v1, rfl, hown, hb1⟩
  clear hW
  obtain ⟨p1, c1, rfl⟩ := owns_shape hown
  have hA := (Below.refl w1.heap.size w1).alloc (Nat.le_refl _) (.cells #[.int .i64 6, .int .i64 4, .int .i64 0] 3)
  have hI := (IA.of_owns hown).later hA
  have hJ : IA (w1.alloc (.cells #[.int .i64 6, .int .i64 4, .int .i64 0] 3)) (.slice (some ⟨w1.heap.size, 0, none⟩) 3 3) L := IA.litF w1 3 L _ 3 (0, 0) (by rw [HL.out]; rfl) (by rw [HL.out]; rfl) (by decide)
  have hE := slequal_same _ _ L _ hI hJ
  have hbA := hb1.trans (hA.mono hb1.size)
  have hTA := hT.later hbA
  clear hI hJ hown hA hT
  go_wp2_with fail
  refine hE.mono ?_
  rintro x w2 ⟨rfl, hb2⟩
  have hbB := hbA.trans (hb2.mono hbA.size)
  have hTB := hTA.later hb2
  clear hE hbA hb2 hTA
  go_wp2_with fail
  refine (hN _ hTB).mono ?_
  rintro x w3 ⟨rfl, hb3⟩
  have hbC := hbB.trans (hb3.mono hbB.size)
  clear hN
  go_wp2
  go_ret
  exact ⟨rfl, hbC⟩

end Go.Proofs.YtgfddabccjfhiabDoor

namespace Go.Proofs.YtgfddabccjfhiabDoor
open Go.RowKit

theorem s_rec : (Tryd.prog.info? 33).map (·.size) = some 6 := by kernel_rfl

theorem run_rfew {P : Program} {t e : TypeId} (ht : P.underlying t = some (.slice e)) (hsz : (P.info? e).map (·.size) = some 6) (p : Option Addr) (n c h : Nat) (y : Int) (hy : y = (h : Int)) (hh : h ≤ c) (w : World) :
    (Instr.slice t (.slice p n c) none (some (.int .i64 y)) none).run P w = .ok (.slice p h c) w := by
  subst hy
  obtain ⟨i, hi, hs⟩ := Option.map_eq_some_iff.1 hsz
  have he : P.elem t = e := by simp [Program.elem, ht]
  rw [run_slice_h w t p n c (by rw [he]; exact ht) .i64 (h : Int) (by omega) (by omega), he]
  cases p <;> simp [Go.sizeOf, typeInfo, hi, hs, sliced, Result.andThen, Addr.add]

/-- What Follow answers, be it a record or none. -/
theorem follow_gen (size : Int) (hd : Rc) (tv lv kv vv : Value) (way : List Rc) (to : Int) (w : World) (h1 : HB w tv hd.tr) (h2 : HB w lv hd.li) (h3 : PA w kv hd.lk) (hW : RA w vv way) (hTD : TD w) (hT : Tabs w) :
    Calls Tryd.prog 10 #[.int .i64 size, .agg #[.int .i64 hd.e, .int .i64 hd.t, tv, .int .i64 hd.c, lv, kv], vv, .int .i64 to] w fun x w' => ∃ (r : Rc) (ok : Bool) (rtp : Option Addr) (rtc : Nat) (rlp : Option Addr) (rlc : Nat) (rkp : Option Addr) (rkc : Nat), x = .returned (.tuple #[.agg #[.int .i64 r.e, .int .i64 r.t, .slice rtp r.tr.length rtc, .int .i64 r.c, .slice rlp r.li.length rlc, .slice rkp r.lk.length rkc], .bool ok]) ∧ Hid (ok = true → folR size hd way to = some r) ∧ HB w' (.slice rtp r.tr.length rtc) r.tr ∧ HB w' (.slice rlp r.li.length rlc) r.li ∧ PA w' (.slice rkp r.lk.length rkc) r.lk ∧ Below w.heap.size w w' := by
  refine (follow_any size hd tv lv kv vv way to w h1 h2 h3 hW hTD hT).mono ?_
  rintro x w' ⟨f1, f2, f3⟩
  cases hR : folR size hd way to with
  | none => exact ⟨⟨0, 0, 0, [], [], []⟩, false, none, 0, none, 0, none, 0, f1 hR, fun h => (by cases h), HB.nil _, HB.nil _, PA.nil _, f3⟩
  | some r =>
    obtain ⟨tp, tc, lp, lc, kp, kc, e, g1, g2, g3⟩ := f2 r hR
    exact ⟨r, true, tp, tc, lp, lc, kp, kc, e, fun _ => rfl, g1, g2, g3, f3⟩

theorem ex_step {O P : List Rc} {k : Nat} {F : Rc → List UInt8} {x y : Rc} (h : ∃ (i : Nat) (a b : Rc), k ≤ i ∧ O[i]? = some a ∧ P[i]? = some b ∧ ¬ a = b ∧ F a = F b) (hx : O[k]? = some x) (hy : P[k]? = some y) (hn : ¬ (¬ x = y ∧ F x = F y)) : ∃ (i : Nat) (a b : Rc), k + 1 ≤ i ∧ O[i]? = some a ∧ P[i]? = some b ∧ ¬ a = b ∧ F a = F b := by
  obtain ⟨i, a, b, h1, h2, h3, h4, h5⟩ := h
  refine ⟨i, a, b, ?_, h2, h3, h4, h5⟩
  rcases Nat.lt_or_ge k i with h | h
  · exact h
  · obtain rfl : i = k := by omega
    rw [hx] at h2
    rw [hy] at h3
    cases h2
    cases h3
    exact absurd ⟨h4, h5⟩ hn

theorem fol_len {size : Int} {hd r : Rc} {O : List Rc} {to : Int} (h : folR size hd O to = some r) : O.length = (wayI hd.e to).length := by
  unfold folR at h
  split at h
  · rcases Nat.decEq O.length (wayI hd.e to).length with hn | hn
    · rw [folP_len size O _ hd hn] at h
      cases h
    · exact hn
  · cases h

/-- Two ways that are followed lead to one record, or part in two with one hash. -/
theorem fol_one {size : Int} {hd r s : Rc} {O P : List Rc} {to : Int} (h1 : folR size hd O to = some r) (h2 : folR size hd P to = some s) (hn : ¬ r = s) : ∃ (i : Nat) (a b : Rc), 0 ≤ i ∧ O[i]? = some a ∧ P[i]? = some b ∧ ¬ a = b ∧ hshF size a = hshF size b := by
  unfold folR at h1 h2
  split at h1
  · rename_i hc
    rw [if_pos hc] at h2
    rcases folP_one size _ O P hd r s h1 h2 with h | ⟨i, a, b, q1, q2, q3, q4⟩
    · exact absurd h hn
    · exact ⟨i, a, b, Nat.zero_le _, q1, q2, q3, q4⟩
  · cases h1

set_option maxRecDepth 100000 in
set_option maxHeartbeats 8000000 in
theorem skOneWalk (size : Int) (hd : Rc) (tv lv kv v1 v2 : Value) (one other : List Rc) (to : Int) (w : World) (h1 : HB w tv hd.tr) (h2 : HB w lv hd.li) (h3 : PA w kv hd.lk) (hO : RA w v1 one) (hP : RA w v2 other) (hTD : TD w) (hT : Tabs w) :
    Calls Tryd.prog 4 #[.int .i64 size, .agg #[.int .i64 hd.e, .int .i64 hd.t, tv, .int .i64 hd.c, lv, kv], v1, v2, .int .i64 to] w fun x w' => x = .returned (.bool true) ∧ Below w.heap.size w w' := by
  obtain ⟨htp, htc, rfl⟩ := h1.shape
  obtain ⟨hlp, hlc, rfl⟩ := h2.shape
  obtain ⟨hkp, hkc, rfl⟩ := h3.shape
  obtain ⟨op, oc, rfl⟩ := hO.shape
  obtain ⟨pp, pc, rfl⟩ := hP.shape
  have hol := hO.len.2
  have hpl := hP.len.2
  unfold maxLen at hol hpl
  obtain ⟨n1, hn1⟩ : ∃ n1 : Nat, n1 = min one.length 40 := ⟨_, rfl⟩
  obtain ⟨n2, hn2⟩ : ∃ n2 : Nat, n2 = min other.length 40 := ⟨_, rfl⟩
  have hm1 : min (one.length : Int) 40 = (n1 : Int) := by omega
  have hm2 : min (other.length : Int) 40 = (n2 : Int) := by omega
  have k1 := fun w => run_rfew (P := Tryd.prog) Tryd.underlying34 s_rec op one.length oc n1 (n1 : Int) rfl (by omega) w
  have k2 := fun w => run_rfew (P := Tryd.prog) Tryd.underlying34 s_rec pp other.length pc n2 (n2 : Int) rfl (by omega) w
  have hO1 := hO.take n1 (by omega)
  have hP1 := hP.take n2 (by omega)
  have l1 : n1 ≤ 40 := by omega
  have l2 : n2 ≤ 40 := by omega
  generalize one.take n1 = O at *
  generalize other.take n2 = P at *
  clear hn1 hn2 hO hP
  have bA := (Below.refl w.heap.size w).alloc (Nat.le_refl _) (.cells #[.int .i64 hd.e, .int .i64 hd.t, .slice htp hd.tr.length htc, .int .i64 hd.c, .slice hlp hd.li.length hlc, .slice hkp hd.lk.length hkc] 33)
  have gA := heap_alloc_new w (.cells #[.int .i64 hd.e, .int .i64 hd.t, .slice htp hd.tr.length htc, .int .i64 hd.c, .slice hlp hd.li.length hlc, .slice hkp hd.lk.length hkc] 33)
  obtain ⟨X, hX⟩ : ∃ X, X = w.alloc (.cells #[.int .i64 hd.e, .int .i64 hd.t, .slice htp hd.tr.length htc, .int .i64 hd.c, .slice hlp hd.li.length hlc, .slice hkp hd.lk.length hkc] 33) := ⟨_, rfl⟩
  rw [← hX] at bA gA
  have g0 : w.heap.size < X.heap.size := (Array.getElem?_eq_some_iff.1 gA).1
  have HTr : Hid True := trivial
  go_enter Tryd.func4, Tryd.ntmps4
  go_wp2_with fail
  rw [← hX]
  have hHeld : True := trivial
  refine wp_region_heldN (by kernel_rfl) (fun _ => True) 12 rfl ?_
  refine wpAnyH_take (i := 0) (oi := { dst := some 16, op := Go.Op.move (Go.Operand.tmp 2), type := 34, pos := "law.go:46", after := #[], guard := none }) (v := ?v0z1) rfl (by kernel_rfl) (by kernel_rfl) (by kernel_rfl) (fun _ _ _ h => h) (Or.inl ⟨by rfl, ?y0z1⟩) hHeld ?r0z1
  case y0z1 => (intro w hSw; (try dsimp only at hSw); go_simp) <;> with_reducible rfl
  try simp only [Act.put, List.setIfInBounds_toArray, List.set_cons_zero, List.set_cons_succ]
  refine wpAnyH_take (i := 1) (oi := { dst := some 17, op := Go.Op.move (Go.Operand.tmp 2), type := 34, pos := "law.go:46", after := #[], guard := none }) (v := ?v1z2) rfl (by kernel_rfl) (by kernel_rfl) (by kernel_rfl) (fun _ _ _ h => h) (Or.inl ⟨by rfl, ?y1z2⟩) hHeld ?r1z2
  case y1z2 => (intro w hSw; (try dsimp only at hSw); go_simp) <;> with_reducible rfl
  try simp only [Act.put, List.setIfInBounds_toArray, List.set_cons_zero, List.set_cons_succ]
  refine wpAnyH_take (i := 2) (oi := { dst := some 18, op := Go.Op.call { callee := Go.Callee.builtin Go.Builtin.len, args := #[Go.Operand.tmp 17], argTypes := #[34] }, type := 3, pos := "law.go:46", after := #[{ on := 1, ground := Go.Ground.data }], guard := none }) (v := ?v2z3) rfl (by kernel_rfl) (by kernel_rfl) (by kernel_rfl) (fun _ _ _ h => h) (Or.inl ⟨by rfl, ?y2z3⟩) hHeld ?r2z3
  case y2z3 => (intro w hSw; (try dsimp only at hSw); go_simp) <;> with_reducible rfl
  try simp only [Act.put, List.setIfInBounds_toArray, List.set_cons_zero, List.set_cons_succ]
  refine wpAnyH_take (i := 3) (oi := { dst := some 19, op := Go.Op.call { callee := Go.Callee.builtin Go.Builtin.min, args := #[Go.Operand.tmp 18, Go.Operand.const (Go.Value.int Go.IntKind.i64 40)], argTypes := #[3, 3] }, type := 3, pos := "law.go:46", after := #[{ on := 2, ground := Go.Ground.data }], guard := none }) (v := ?v3z4) rfl (by kernel_rfl) (by kernel_rfl) (by kernel_rfl) (fun _ _ _ h => h) (Or.inl ⟨by rfl, ?y3z4⟩) hHeld ?r3z4
  case y3z4 => (intro w hSw; (try dsimp only at hSw); go_simp) <;> with_reducible rfl
  try simp only [Act.put, List.setIfInBounds_toArray, List.set_cons_zero, List.set_cons_succ]
  refine wpAnyH_take (i := 4) (oi := { dst := some 20, op := Go.Op.slice 34 (Go.Operand.tmp 16) none (some (Go.Operand.tmp 19)) none, type := 34, pos := "law.go:46", after := #[{ on := 0, ground := Go.Ground.data }, { on := 3, ground := Go.Ground.data }], guard := none }) (v := ?v4z5) rfl (by kernel_rfl) (by kernel_rfl) (by kernel_rfl) (fun _ _ _ h => h) (Or.inl ⟨by rfl, ?y4z5⟩) hHeld ?r4z5
  case y4z5 => (intro w hSw; (try dsimp only at hSw); go_simp) <;> with_reducible rfl
  try simp only [Act.put, List.setIfInBounds_toArray, List.set_cons_zero, List.set_cons_succ]
  refine wpAnyH_take (i := 5) (oi := { dst := some 21, op := Go.Op.move (Go.Operand.tmp 3), type := 34, pos := "law.go:46", after := #[], guard := none }) (v := ?v5z6) rfl (by kernel_rfl) (by kernel_rfl) (by kernel_rfl) (fun _ _ _ h => h) (Or.inl ⟨by rfl, ?y5z6⟩) hHeld ?r5z6
  case y5z6 => (intro w hSw; (try dsimp only at hSw); go_simp) <;> with_reducible rfl
  try simp only [Act.put, List.setIfInBounds_toArray, List.set_cons_zero, List.set_cons_succ]
  refine wpAnyH_take (i := 6) (oi := { dst := some 22, op := Go.Op.move (Go.Operand.tmp 3), type := 34, pos := "law.go:46", after := #[], guard := none }) (v := ?v6z7) rfl (by kernel_rfl) (by kernel_rfl) (by kernel_rfl) (fun _ _ _ h => h) (Or.inl ⟨by rfl, ?y6z7⟩) hHeld ?r6z7
  case y6z7 => (intro w hSw; (try dsimp only at hSw); go_simp) <;> with_reducible rfl
  try simp only [Act.put, List.setIfInBounds_toArray, List.set_cons_zero, List.set_cons_succ]
  refine wpAnyH_take (i := 7) (oi := { dst := some 23, op := Go.Op.call { callee := Go.Callee.builtin Go.Builtin.len, args := #[Go.Operand.tmp 22], argTypes := #[34] }, type := 3, pos := "law.go:46", after := #[{ on := 6, ground := Go.Ground.data }], guard := none }) (v := ?v7z8) rfl (by kernel_rfl) (by kernel_rfl) (by kernel_rfl) (fun _ _ _ h => h) (Or.inl ⟨by rfl, ?y7z8⟩) hHeld ?r7z8
  case y7z8 => (intro w hSw; (try dsimp only at hSw); go_simp) <;> with_reducible rfl
  try simp only [Act.put, List.setIfInBounds_toArray, List.set_cons_zero, List.set_cons_succ]
  refine wpAnyH_take (i := 8) (oi := { dst := some 24, op := Go.Op.call { callee := Go.Callee.builtin Go.Builtin.min, args := #[Go.Operand.tmp 23, Go.Operand.const (Go.Value.int Go.IntKind.i64 40)], argTypes := #[3, 3] }, type := 3, pos := "law.go:46", after := #[{ on := 7, ground := Go.Ground.data }], guard := none }) (v := ?v8z9) rfl (by kernel_rfl) (by kernel_rfl) (by kernel_rfl) (fun _ _ _ h => h) (Or.inl ⟨by rfl, ?y8z9⟩) hHeld ?r8z9
  case y8z9 => (intro w hSw; (try dsimp only at hSw); go_simp) <;> with_reducible rfl
  try simp only [Act.put, List.setIfInBounds_toArray, List.set_cons_zero, List.set_cons_succ]
  refine wpAnyH_take (i := 9) (oi := { dst := some 25, op := Go.Op.slice 34 (Go.Operand.tmp 21) none (some (Go.Operand.tmp 24)) none, type := 34, pos := "law.go:46", after := #[{ on := 5, ground := Go.Ground.data }, { on := 8, ground := Go.Ground.data }], guard := none }) (v := ?v9z10) rfl (by kernel_rfl) (by kernel_rfl) (by kernel_rfl) (fun _ _ _ h => h) (Or.inl ⟨by rfl, ?y9z10⟩) hHeld ?r9z10
  case y9z10 => (intro w hSw; (try dsimp only at hSw); go_simp) <;> with_reducible rfl
  try simp only [Act.put, List.setIfInBounds_toArray, List.set_cons_zero, List.set_cons_succ]
  refine wpAnyH_take (i := 10) (oi := { dst := some 2, op := Go.Op.assign (Go.Operand.tmp 20), type := 34, pos := "law.go:46", after := #[{ on := 4, ground := Go.Ground.data }, { on := 0, ground := Go.Ground.phase }, { on := 1, ground := Go.Ground.phase }, { on := 2, ground := Go.Ground.phase }, { on := 3, ground := Go.Ground.phase }, { on := 4, ground := Go.Ground.phase }, { on := 5, ground := Go.Ground.textOnly Go.Departure.lateStores }, { on := 6, ground := Go.Ground.textOnly Go.Departure.lateStores }, { on := 7, ground := Go.Ground.textOnly Go.Departure.lateStoresUnsure }, { on := 8, ground := Go.Ground.textOnly Go.Departure.lateStoresUnsure }, { on := 9, ground := Go.Ground.textOnly Go.Departure.lateStoresUnsure }], guard := none }) (v := ?v10z11) rfl (by kernel_rfl) (by kernel_rfl) (by kernel_rfl) (fun _ _ _ h => h) (Or.inl ⟨by rfl, ?y10z11⟩) hHeld ?r10z11
  case y10z11 => (intro w hSw; (try dsimp only at hSw); go_simp) <;> with_reducible rfl
  try simp only [Act.put, List.setIfInBounds_toArray, List.set_cons_zero, List.set_cons_succ]
  refine wpAnyH_take (i := 11) (oi := { dst := some 3, op := Go.Op.assign (Go.Operand.tmp 25), type := 34, pos := "law.go:46", after := #[{ on := 9, ground := Go.Ground.data }, { on := 10, ground := Go.Ground.chain }, { on := 0, ground := Go.Ground.phase }, { on := 1, ground := Go.Ground.phase }, { on := 2, ground := Go.Ground.phase }, { on := 3, ground := Go.Ground.phase }, { on := 4, ground := Go.Ground.phase }, { on := 5, ground := Go.Ground.phase }, { on := 6, ground := Go.Ground.phase }, { on := 7, ground := Go.Ground.phase }, { on := 8, ground := Go.Ground.phase }, { on := 9, ground := Go.Ground.phase }, { on := 10, ground := Go.Ground.phase }], guard := none }) (v := ?v11z12) rfl (by kernel_rfl) (by kernel_rfl) (by kernel_rfl) (fun _ _ _ h => h) (Or.inl ⟨by rfl, ?y11z12⟩) hHeld ?r11z12
  case y11z12 => (intro w hSw; (try dsimp only at hSw); go_simp) <;> with_reducible rfl
  try simp only [Act.put, List.setIfInBounds_toArray, List.set_cons_zero, List.set_cons_succ]
  refine wpAnyH_done (by kernel_rfl) ?_ _
  clear hHeld k1 k2 hm1 hm2 hX
  obtain ⟨Y, hY⟩ : ∃ Y, Y = X.drew := ⟨_, rfl⟩
  rw [← hY]
  have bY0 : Below X.heap.size X Y := by rw [hY]; exact (Below.refl _ X).drew
  have bY := bA.trans (bY0.mono bA.size)
  have gY := (bY0.block _ g0).trans gA
  have gy0 : w.heap.size < Y.heap.size := (Array.getElem?_eq_some_iff.1 gY).1
  clear hY bY0 gA bA g0
  have y0 : Y.cell? ⟨w.heap.size, 0, none⟩ = some (.int .i64 hd.e) := by rw [cell_of_row _ _ _ _ _ _ gY]; rfl
  have y1 : Y.cell? ⟨w.heap.size, 1, none⟩ = some (.int .i64 hd.t) := by rw [cell_of_row _ _ _ _ _ _ gY]; rfl
  have y2 : Y.cell? ⟨w.heap.size, 2, none⟩ = some (.slice htp hd.tr.length htc) := by rw [cell_of_row _ _ _ _ _ _ gY]; rfl
  have y3 : Y.cell? ⟨w.heap.size, 3, none⟩ = some (.int .i64 hd.c) := by rw [cell_of_row _ _ _ _ _ _ gY]; rfl
  have y4 : Y.cell? ⟨w.heap.size, 4, none⟩ = some (.slice hlp hd.li.length hlc) := by rw [cell_of_row _ _ _ _ _ _ gY]; rfl
  have y5 : Y.cell? ⟨w.heap.size, 5, none⟩ = some (.slice hkp hd.lk.length hkc) := by rw [cell_of_row _ _ _ _ _ _ gY]; rfl
  have hF1 := follow_gen size hd _ _ _ _ O to Y (h1.later bY) (h2.later bY) (h3.later bY) (hO1.later bY) (hTD.later bY) (hT.later bY)
  go_wp2_with fail
  refine hF1.mono ?_
  rintro e1 w1 ⟨r, ok1, rtp, rtc, rlp, rlc, rkp, rkc, rfl, HK1, r1, r2, r3, b1⟩
  have bw1 := bY.trans (b1.mono bY.size)
  have gB := (b1.block _ gy0).trans gY
  have bX1 := (Below.refl w1.heap.size w1).alloc (Nat.le_refl _) (.cells #[.int .i64 r.e, .int .i64 r.t, .slice rtp r.tr.length rtc, .int .i64 r.c, .slice rlp r.li.length rlc, .slice rkp r.lk.length rkc] 33)
  have gR := heap_alloc_new w1 (.cells #[.int .i64 r.e, .int .i64 r.t, .slice rtp r.tr.length rtc, .int .i64 r.c, .slice rlp r.li.length rlc, .slice rkp r.lk.length rkc] 33)
  obtain ⟨X1, hX1⟩ : ∃ X1, X1 = w1.alloc (.cells #[.int .i64 r.e, .int .i64 r.t, .slice rtp r.tr.length rtc, .int .i64 r.c, .slice rlp r.li.length rlc, .slice rkp r.lk.length rkc] 33) := ⟨_, rfl⟩
  rw [← hX1] at bX1 gR
  have bw2 := bw1.trans (bX1.mono bw1.size)
  have gC := (bX1.block _ (Array.getElem?_eq_some_iff.1 gB).1).trans gB
  have gr1 : w1.heap.size < X1.heap.size := (Array.getElem?_eq_some_iff.1 gR).1
  have gc1 : w.heap.size < X1.heap.size := (Array.getElem?_eq_some_iff.1 gC).1
  clear hF1 b1 gB y0 y1 y2 y3 y4 y5
  have z0 : X1.cell? ⟨w.heap.size, 0, none⟩ = some (.int .i64 hd.e) := by rw [cell_of_row _ _ _ _ _ _ gC]; rfl
  have z1 : X1.cell? ⟨w.heap.size, 1, none⟩ = some (.int .i64 hd.t) := by rw [cell_of_row _ _ _ _ _ _ gC]; rfl
  have z2 : X1.cell? ⟨w.heap.size, 2, none⟩ = some (.slice htp hd.tr.length htc) := by rw [cell_of_row _ _ _ _ _ _ gC]; rfl
  have z3 : X1.cell? ⟨w.heap.size, 3, none⟩ = some (.int .i64 hd.c) := by rw [cell_of_row _ _ _ _ _ _ gC]; rfl
  have z4 : X1.cell? ⟨w.heap.size, 4, none⟩ = some (.slice hlp hd.li.length hlc) := by rw [cell_of_row _ _ _ _ _ _ gC]; rfl
  have z5 : X1.cell? ⟨w.heap.size, 5, none⟩ = some (.slice hkp hd.lk.length hkc) := by rw [cell_of_row _ _ _ _ _ _ gC]; rfl
  rw [hX1] at z0 z1 z2 z3 z4 z5
  have hF2 := follow_gen size hd _ _ _ _ P to X1 (h1.later bw2) (h2.later bw2) (h3.later bw2) (hP1.later bw2) (hTD.later bw2) (hT.later bw2)
  go_wp2_with fail
  rw [← hX1]
  refine hF2.mono ?_
  rintro e2 w2 ⟨s, ok2, stp, stc, slp, slc, skp, skc, rfl, HK2, s1, s2, s3, b2⟩
  have bw3 := bw2.trans (b2.mono bw2.size)
  have gR2 := (b2.block _ gr1).trans gR
  have bX2 := (Below.refl w2.heap.size w2).alloc (Nat.le_refl _) (.cells #[.int .i64 s.e, .int .i64 s.t, .slice stp s.tr.length stc, .int .i64 s.c, .slice slp s.li.length slc, .slice skp s.lk.length skc] 33)
  have gS := heap_alloc_new w2 (.cells #[.int .i64 s.e, .int .i64 s.t, .slice stp s.tr.length stc, .int .i64 s.c, .slice slp s.li.length slc, .slice skp s.lk.length skc] 33)
  obtain ⟨X2, hX2⟩ : ∃ X2, X2 = w2.alloc (.cells #[.int .i64 s.e, .int .i64 s.t, .slice stp s.tr.length stc, .int .i64 s.c, .slice slp s.li.length slc, .slice skp s.lk.length skc] 33) := ⟨_, rfl⟩
  rw [← hX2] at bX2 gS
  have BB := bw3.trans (bX2.mono bw3.size)
  have gR3 := (bX2.block _ (Array.getElem?_eq_some_iff.1 gR2).1).trans gR2
  have hSa := same13_any r s _ _ _ _ _ _ X2 (((r1.later bX1).later b2).later bX2) (s1.later bX2) (((r2.later bX1).later b2).later bX2) (s2.later bX2) (((r3.later bX1).later b2).later bX2) (s3.later bX2)
  clear hF2 gR2 z0 z1 z2 z3 z4 z5 r1 r2 r3 s1 s2 s3 gR gC hX1 bX1 b2 bX2
  have a0 : X2.cell? ⟨w1.heap.size, 0, none⟩ = some (.int .i64 r.e) := by rw [cell_of_row _ _ _ _ _ _ gR3]; rfl
  have a1 : X2.cell? ⟨w1.heap.size, 1, none⟩ = some (.int .i64 r.t) := by rw [cell_of_row _ _ _ _ _ _ gR3]; rfl
  have a2 : X2.cell? ⟨w1.heap.size, 2, none⟩ = some (.slice rtp r.tr.length rtc) := by rw [cell_of_row _ _ _ _ _ _ gR3]; rfl
  have a3 : X2.cell? ⟨w1.heap.size, 3, none⟩ = some (.int .i64 r.c) := by rw [cell_of_row _ _ _ _ _ _ gR3]; rfl
  have a4 : X2.cell? ⟨w1.heap.size, 4, none⟩ = some (.slice rlp r.li.length rlc) := by rw [cell_of_row _ _ _ _ _ _ gR3]; rfl
  have a5 : X2.cell? ⟨w1.heap.size, 5, none⟩ = some (.slice rkp r.lk.length rkc) := by rw [cell_of_row _ _ _ _ _ _ gR3]; rfl
  have bb0 : X2.cell? ⟨w2.heap.size, 0, none⟩ = some (.int .i64 s.e) := by rw [cell_of_row _ _ _ _ _ _ gS]; rfl
  have bb1 : X2.cell? ⟨w2.heap.size, 1, none⟩ = some (.int .i64 s.t) := by rw [cell_of_row _ _ _ _ _ _ gS]; rfl
  have bb2 : X2.cell? ⟨w2.heap.size, 2, none⟩ = some (.slice stp s.tr.length stc) := by rw [cell_of_row _ _ _ _ _ _ gS]; rfl
  have bb3 : X2.cell? ⟨w2.heap.size, 3, none⟩ = some (.int .i64 s.c) := by rw [cell_of_row _ _ _ _ _ _ gS]; rfl
  have bb4 : X2.cell? ⟨w2.heap.size, 4, none⟩ = some (.slice slp s.li.length slc) := by rw [cell_of_row _ _ _ _ _ _ gS]; rfl
  have bb5 : X2.cell? ⟨w2.heap.size, 5, none⟩ = some (.slice skp s.lk.length skc) := by rw [cell_of_row _ _ _ _ _ _ gS]; rfl
  rw [hX2] at a0 a1 a2 a3 a4 a5 bb0 bb1 bb2 bb3 bb4 bb5
  cases ok1 with
  | false =>
    go_wp2_with fail
    rw [← hX2]
    clear hSa
    refine (skAwake_any _ (hTD.later BB)).mono ?_
    rintro e9 w9 ⟨rfl, b9⟩
    have bf := BB.trans (b9.mono BB.size)
    go_wp2
    go_ret
    exact ⟨rfl, bf⟩
  | true =>
    cases ok2 with
    | false =>
      go_wp2_with fail
      rw [← hX2]
      clear hSa
      refine (skAwake_any _ (hTD.later BB)).mono ?_
      rintro e9 w9 ⟨rfl, b9⟩
      have bf := BB.trans (b9.mono BB.size)
      go_wp2
      go_ret
      exact ⟨rfl, bf⟩
    | true =>
      have HA := HK1.out rfl
      have HB' := HK2.out rfl
      have HN : Hid (n1 = n2) := by
        have e1 := fol_len HA
        have e2 := fol_len HB'
        have e3 := hO1.len.1
        have e4 := hP1.len.1
        show n1 = n2
        omega
      have HF : Hid (¬ r = s → ∃ (i : Nat) (a b : Rc), 0 ≤ i ∧ O[i]? = some a ∧ P[i]? = some b ∧ ¬ a = b ∧ hshF size a = hshF size b) := fun hn => fol_one HA HB' hn
      clear HA HB' HK1 HK2
      go_wp2_with fail
      rw [← hX2]
      refine hSa.mono ?_
      rintro e3 w3 ⟨SB, rfl, hsb, b3⟩
      have bw := BB.trans (b3.mono BB.size)
      clear hSa BB b3 a0 a1 a2 a3 a4 a5 bb0 bb1 bb2 bb3 bb4 bb5 hX2 gR3 gS
      cases SB with
      | true =>
        go_wp2_with fail
        refine (skAwake_any _ (hTD.later bw)).mono ?_
        rintro e9 w9 ⟨rfl, b9⟩
        have bf := bw.trans (b9.mono bw.size)
        go_wp2
        go_ret
        exact ⟨rfl, bf⟩
      | false =>
        have HEx0 := HF.out (fun h => by have := hsb.2 h; cases this)
        have HI : Hid (∃ (i : Nat) (a b : Rc), 0 ≤ i ∧ O[i]? = some a ∧ P[i]? = some b ∧ ¬ a = b ∧ hshF size a = hshF size b) := HEx0
        clear HEx0 HF hsb
        have hnn := HN.out
        subst hnn
        clear HN
        have hmn : min (n1 : Int) (n1 : Int) = (n1 : Int) := by omega
        have HO := hO1
        go_wp2
        go_loopw [59] (fun i wr => ∃ k : Nat, k ≤ n1 ∧ i = .int .i64 k ∧ Hid (∃ (i : Nat) (a b : Rc), k ≤ i ∧ O[i]? = some a ∧ P[i]? = some b ∧ ¬ a = b ∧ hshF size a = hshF size b) ∧ Below w3.heap.size w3 wr) (fun i _ => n1 - (intOf i).toNat)
        case atStart => exact ⟨0, Nat.zero_le _, rfl, HI, Below.refl _ _⟩
        case round =>
          obtain ⟨k, hk, rfl, HEx, hbw⟩ := hrel
          clear HI
          have bwr := bw.trans (hbw.mono bw.size)
          by_cases hlt : k < n1
          · obtain ⟨ob, oo, rfl⟩ := hO1.addr (by omega)
            obtain ⟨pb, po, rfl⟩ := hP1.addr (by omega)
            obtain ⟨x, xtp, xtc, xlp, xlc, xkp, xkc, HOK, hx⟩ := hO1.get k hlt
            obtain ⟨y, ytp, ytc, ylp, ylc, ykp, ykc, HPK, hy⟩ := hP1.get k hlt
            have hxr := hx.later bwr
            have hyr := hy.later bwr
            obtain ⟨⟨i0, i1, i2, i3, i4, i5⟩, x1, x2, x3⟩ := hxr
            obtain ⟨⟨j0, j1, j2, j3, j4, j5⟩, y1, y2, y3⟩ := hyr
            clear hx hy
            have hlt2 : (k : Int) < (n1 : Int) := by omega
            have bD : Below wr.heap.size wr wr.drew := (Below.refl _ wr).drew
            have HSm : Hid (∀ W, Below wr.heap.size wr W → Calls Tryd.prog 11 #[.agg #[.int .i64 x.e, .int .i64 x.t, .slice xtp x.tr.length xtc, .int .i64 x.c, .slice xlp x.li.length xlc, .slice xkp x.lk.length xkc], .agg #[.int .i64 y.e, .int .i64 y.t, .slice ytp y.tr.length ytc, .int .i64 y.c, .slice ylp y.li.length ylc, .slice ykp y.lk.length ykc]] W fun e w' => ∃ B, e = .returned (.bool B) ∧ (B = true ↔ x = y) ∧ Below W.heap.size W w') := fun W hB => same13_any x y _ _ _ _ _ _ W (x1.later hB) (y1.later hB) (x2.later hB) (y2.later hB) (x3.later hB) (y3.later hB)
            have HHx : Hid (∀ W, Below wr.heap.size wr W → Calls Tryd.prog 13 #[.int .i64 size, .agg #[.int .i64 x.e, .int .i64 x.t, .slice xtp x.tr.length xtc, .int .i64 x.c, .slice xlp x.li.length xlc, .slice xkp x.lk.length xkc]] W fun e w' => ∃ v, e = .returned v ∧ HB w' v (hshF size x) ∧ Below W.heap.size W w') := fun W hB => rhash13_any size x.e x.t x.c _ _ _ x.tr x.li x.lk W (x1.later hB) (x2.later hB) (x3.later hB)
            have HHy : Hid (∀ W, Below wr.heap.size wr W → Calls Tryd.prog 13 #[.int .i64 size, .agg #[.int .i64 y.e, .int .i64 y.t, .slice ytp y.tr.length ytc, .int .i64 y.c, .slice ylp y.li.length ylc, .slice ykp y.lk.length ykc]] W fun e w' => ∃ v, e = .returned v ∧ HB w' v (hshF size y) ∧ Below W.heap.size W w') := fun W hB => rhash13_any size y.e y.t y.c _ _ _ y.tr y.li y.lk W (y1.later hB) (y2.later hB) (y3.later hB)
            obtain ⟨HX, hHX⟩ : ∃ HX, HX = hshF size x := ⟨_, rfl⟩
            obtain ⟨HY, hHY⟩ : ∃ HY, HY = hshF size y := ⟨_, rfl⟩
            rw [← hHX] at HHx
            rw [← hHY] at HHy
            have HHXe : Hid (hshF size x = HX) := hHX.symm
            have HHYe : Hid (hshF size y = HY) := hHY.symm
            have hcells : ∀ W, Below wr.heap.size wr W → W.cell? ⟨ob, oo + k * 6, none⟩ = some (.int .i64 x.e) ∧ W.cell? ⟨ob, oo + k * 6 + 1, none⟩ = some (.int .i64 x.t) ∧ W.cell? ⟨ob, oo + k * 6 + 2, none⟩ = some (.slice xtp x.tr.length xtc) ∧ W.cell? ⟨ob, oo + k * 6 + 3, none⟩ = some (.int .i64 x.c) ∧ W.cell? ⟨ob, oo + k * 6 + 4, none⟩ = some (.slice xlp x.li.length xlc) ∧ W.cell? ⟨ob, oo + k * 6 + 5, none⟩ = some (.slice xkp x.lk.length xkc) ∧ W.cell? ⟨pb, po + k * 6, none⟩ = some (.int .i64 y.e) ∧ W.cell? ⟨pb, po + k * 6 + 1, none⟩ = some (.int .i64 y.t) ∧ W.cell? ⟨pb, po + k * 6 + 2, none⟩ = some (.slice ytp y.tr.length ytc) ∧ W.cell? ⟨pb, po + k * 6 + 3, none⟩ = some (.int .i64 y.c) ∧ W.cell? ⟨pb, po + k * 6 + 4, none⟩ = some (.slice ylp y.li.length ylc) ∧ W.cell? ⟨pb, po + k * 6 + 5, none⟩ = some (.slice ykp y.lk.length ykc) := by
              intro W hB
              exact ⟨cell_later hB i0, cell_later hB i1, cell_later hB i2, cell_later hB i3, cell_later hB i4, cell_later hB i5, cell_later hB j0, cell_later hB j1, cell_later hB j2, cell_later hB j3, cell_later hB j4, cell_later hB j5⟩
            have hHeld := hcells _ bD
            clear hHX hHY x1 x2 x3 y1 y2 y3 i0 i1 i2 i3 i4 i5 j0 j1 j2 j3 j4 j5 bw h1 h2 h3
            have bw := bwr
            clear bwr hO1 hP1 HO
            go_wp2_with fail
            refine wp_region_heldN (by kernel_rfl) (fun W => W.cell? ⟨ob, oo + k * 6, none⟩ = some (.int .i64 x.e) ∧ W.cell? ⟨ob, oo + k * 6 + 1, none⟩ = some (.int .i64 x.t) ∧ W.cell? ⟨ob, oo + k * 6 + 2, none⟩ = some (.slice xtp x.tr.length xtc) ∧ W.cell? ⟨ob, oo + k * 6 + 3, none⟩ = some (.int .i64 x.c) ∧ W.cell? ⟨ob, oo + k * 6 + 4, none⟩ = some (.slice xlp x.li.length xlc) ∧ W.cell? ⟨ob, oo + k * 6 + 5, none⟩ = some (.slice xkp x.lk.length xkc) ∧ W.cell? ⟨pb, po + k * 6, none⟩ = some (.int .i64 y.e) ∧ W.cell? ⟨pb, po + k * 6 + 1, none⟩ = some (.int .i64 y.t) ∧ W.cell? ⟨pb, po + k * 6 + 2, none⟩ = some (.slice ytp y.tr.length ytc) ∧ W.cell? ⟨pb, po + k * 6 + 3, none⟩ = some (.int .i64 y.c) ∧ W.cell? ⟨pb, po + k * 6 + 4, none⟩ = some (.slice ylp y.li.length ylc) ∧ W.cell? ⟨pb, po + k * 6 + 5, none⟩ = some (.slice ykp y.lk.length ykc)) 25 rfl ?_
            refine wpAnyH_take (i := 0) (oi := { dst := some 62, op := Go.Op.move (Go.Operand.tmp 2), type := 34, pos := "law.go:53", after := #[], guard := none }) (v := ?v0z13) rfl (by kernel_rfl) (by kernel_rfl) (by kernel_rfl) (fun _ _ _ h => h) (Or.inl ⟨by rfl, ?y0z13⟩) hHeld ?r0z13
            case y0z13 => (intro w hSw; (try dsimp only at hSw); go_simp) <;> with_reducible rfl
            try simp only [Act.put, List.setIfInBounds_toArray, List.set_cons_zero, List.set_cons_succ]
            refine wpAnyH_take (i := 1) (oi := { dst := some 63, op := Go.Op.move (Go.Operand.tmp 15), type := 3, pos := "law.go:53", after := #[], guard := none }) (v := ?v1z14) rfl (by kernel_rfl) (by kernel_rfl) (by kernel_rfl) (fun _ _ _ h => h) (Or.inl ⟨by rfl, ?y1z14⟩) hHeld ?r1z14
            case y1z14 => (intro w hSw; (try dsimp only at hSw); go_simp) <;> with_reducible rfl
            try simp only [Act.put, List.setIfInBounds_toArray, List.set_cons_zero, List.set_cons_succ]
            refine wpAnyH_take (i := 2) (oi := { dst := some 64, op := Go.Op.indexAddr 34 (Go.Operand.tmp 62) (Go.Operand.tmp 63), type := 0, pos := "law.go:53", after := #[{ on := 0, ground := Go.Ground.data }, { on := 1, ground := Go.Ground.data }], guard := none }) (v := ?v2z15) rfl (by kernel_rfl) (by kernel_rfl) (by kernel_rfl) (fun _ _ _ h => h) (Or.inl ⟨by rfl, ?y2z15⟩) hHeld ?r2z15
            case y2z15 => (intro w hSw; (try dsimp only at hSw); go_simp) <;> with_reducible rfl
            try simp only [Act.put, List.setIfInBounds_toArray, List.set_cons_zero, List.set_cons_succ]
            refine wpAnyH_take (i := 3) (oi := { dst := some 65, op := Go.Op.load 33 (Go.Operand.tmp 64), type := 33, pos := "law.go:53", after := #[{ on := 2, ground := Go.Ground.data }], guard := none }) (v := ?v3z16) rfl (by kernel_rfl) (by kernel_rfl) (by kernel_rfl) (fun _ _ _ h => h) (Or.inl ⟨by rfl, ?y3z16⟩) hHeld ?r3z16
            case y3z16 => (intro w hSw; (try dsimp only at hSw); go_simp) <;> with_reducible rfl
            try simp only [Act.put, List.setIfInBounds_toArray, List.set_cons_zero, List.set_cons_succ]
            refine wpAnyH_take (i := 4) (oi := { dst := some 66, op := Go.Op.move (Go.Operand.tmp 3), type := 34, pos := "law.go:53", after := #[], guard := none }) (v := ?v4z17) rfl (by kernel_rfl) (by kernel_rfl) (by kernel_rfl) (fun _ _ _ h => h) (Or.inl ⟨by rfl, ?y4z17⟩) hHeld ?r4z17
            case y4z17 => (intro w hSw; (try dsimp only at hSw); go_simp) <;> with_reducible rfl
            try simp only [Act.put, List.setIfInBounds_toArray, List.set_cons_zero, List.set_cons_succ]
            refine wpAnyH_take (i := 5) (oi := { dst := some 67, op := Go.Op.move (Go.Operand.tmp 15), type := 3, pos := "law.go:53", after := #[], guard := none }) (v := ?v5z18) rfl (by kernel_rfl) (by kernel_rfl) (by kernel_rfl) (fun _ _ _ h => h) (Or.inl ⟨by rfl, ?y5z18⟩) hHeld ?r5z18
            case y5z18 => (intro w hSw; (try dsimp only at hSw); go_simp) <;> with_reducible rfl
            try simp only [Act.put, List.setIfInBounds_toArray, List.set_cons_zero, List.set_cons_succ]
            refine wpAnyH_take (i := 6) (oi := { dst := some 68, op := Go.Op.indexAddr 34 (Go.Operand.tmp 66) (Go.Operand.tmp 67), type := 0, pos := "law.go:53", after := #[{ on := 4, ground := Go.Ground.data }, { on := 5, ground := Go.Ground.data }], guard := none }) (v := ?v6z19) rfl (by kernel_rfl) (by kernel_rfl) (by kernel_rfl) (fun _ _ _ h => h) (Or.inl ⟨by rfl, ?y6z19⟩) hHeld ?r6z19
            case y6z19 => (intro w hSw; (try dsimp only at hSw); go_simp) <;> with_reducible rfl
            try simp only [Act.put, List.setIfInBounds_toArray, List.set_cons_zero, List.set_cons_succ]
            refine wpAnyH_take (i := 7) (oi := { dst := some 69, op := Go.Op.load 33 (Go.Operand.tmp 68), type := 33, pos := "law.go:53", after := #[{ on := 6, ground := Go.Ground.data }], guard := none }) (v := ?v7z20) rfl (by kernel_rfl) (by kernel_rfl) (by kernel_rfl) (fun _ _ _ h => h) (Or.inl ⟨by rfl, ?y7z20⟩) hHeld ?r7z20
            case y7z20 => (intro w hSw; (try dsimp only at hSw); go_simp) <;> with_reducible rfl
            try simp only [Act.put, List.setIfInBounds_toArray, List.set_cons_zero, List.set_cons_succ]
            refine wpAnyH_ready (rs := [8]) (by kernel_rfl) (by simp) ?_
            refine AllReadyH.cons (o := { dst := some 70, op := Go.Op.call { callee := Go.Callee.value (Go.Operand.func 11), args := #[Go.Operand.tmp 65, Go.Operand.tmp 69], argTypes := #[33, 33] }, type := 4, pos := "law.go:53", after := #[{ on := 3, ground := Go.Ground.data }, { on := 7, ground := Go.Ground.data }], guard := none }) rfl (fun K hK => ?_) AllReadyH.nil
            go_simp
            refine (HSm.out _ bD).mono ?_
            rintro e3 w4 ⟨SB, rfl, hsb, b4'⟩
            have HSB : Hid (SB = true ↔ x = y) := hsb
            clear hsb
            have b4 := bD.trans (b4'.mono bD.size)
            replace hHeld := hcells w4 b4
            cases SB with
            | true =>
              refine hK.out _ _ ?_ (fun _ => ?_)
              · exact hHeld
              clear hK K
              try simp only [Act.put, List.setIfInBounds_toArray, List.set_cons_zero, List.set_cons_succ]
              refine wpAnyH_take (i := 9) (oi := { dst := some 71, op := Go.Op.unOp Go.UnOp.not 4 (Go.Operand.tmp 70), type := 4, pos := "law.go:53", after := #[{ on := 8, ground := Go.Ground.data }], guard := none }) (v := ?v9z21) rfl (by kernel_rfl) (by kernel_rfl) (by kernel_rfl) (fun _ _ _ h => h) (Or.inl ⟨by rfl, ?y9z21⟩) hHeld ?r9z21
              case y9z21 => (intro w hSw; (try dsimp only at hSw); go_simp) <;> with_reducible rfl
              try simp only [Act.put, List.setIfInBounds_toArray, List.set_cons_zero, List.set_cons_succ]
              refine wpAnyH_take (i := 10) (oi := { dst := some 72, op := Go.Op.move (Go.Operand.tmp 71), type := 4, pos := "law.go:53", after := #[{ on := 9, ground := Go.Ground.data }, { on := 8, ground := Go.Ground.chain }], guard := none }) (v := ?v10z22) rfl (by kernel_rfl) (by kernel_rfl) (by kernel_rfl) (fun _ _ _ h => h) (Or.inl ⟨by rfl, ?y10z22⟩) hHeld ?r10z22
              case y10z22 => (intro w hSw; (try dsimp only at hSw); go_simp) <;> with_reducible rfl
              try simp only [Act.put, List.setIfInBounds_toArray, List.set_cons_zero, List.set_cons_succ]
              refine wpAnyH_take (i := 11) (oi := { dst := some 73, op := Go.Op.move (Go.Operand.tmp 0), type := 3, pos := "law.go:53", after := #[{ on := 10, ground := Go.Ground.guard }], guard := some (10, true) }) (v := undef) rfl (by kernel_rfl) (by kernel_rfl) (by kernel_rfl) (fun _ _ _ h => h) (Or.inr ⟨by rfl, rfl⟩) hHeld ?_
              try simp only [Act.put, List.setIfInBounds_toArray, List.set_cons_zero, List.set_cons_succ]
              refine wpAnyH_take (i := 12) (oi := { dst := some 74, op := Go.Op.move (Go.Operand.tmp 2), type := 34, pos := "law.go:53", after := #[{ on := 10, ground := Go.Ground.guard }], guard := some (10, true) }) (v := undef) rfl (by kernel_rfl) (by kernel_rfl) (by kernel_rfl) (fun _ _ _ h => h) (Or.inr ⟨by rfl, rfl⟩) hHeld ?_
              try simp only [Act.put, List.setIfInBounds_toArray, List.set_cons_zero, List.set_cons_succ]
              refine wpAnyH_take (i := 13) (oi := { dst := some 75, op := Go.Op.move (Go.Operand.tmp 15), type := 3, pos := "law.go:53", after := #[{ on := 10, ground := Go.Ground.guard }], guard := some (10, true) }) (v := undef) rfl (by kernel_rfl) (by kernel_rfl) (by kernel_rfl) (fun _ _ _ h => h) (Or.inr ⟨by rfl, rfl⟩) hHeld ?_
              try simp only [Act.put, List.setIfInBounds_toArray, List.set_cons_zero, List.set_cons_succ]
              refine wpAnyH_take (i := 14) (oi := { dst := some 76, op := Go.Op.indexAddr 34 (Go.Operand.tmp 74) (Go.Operand.tmp 75), type := 0, pos := "law.go:53", after := #[{ on := 12, ground := Go.Ground.data }, { on := 13, ground := Go.Ground.data }, { on := 10, ground := Go.Ground.guard }], guard := some (10, true) }) (v := undef) rfl (by kernel_rfl) (by kernel_rfl) (by kernel_rfl) (fun _ _ _ h => h) (Or.inr ⟨by rfl, rfl⟩) hHeld ?_
              try simp only [Act.put, List.setIfInBounds_toArray, List.set_cons_zero, List.set_cons_succ]
              refine wpAnyH_take (i := 15) (oi := { dst := some 77, op := Go.Op.load 33 (Go.Operand.tmp 76), type := 33, pos := "law.go:53", after := #[{ on := 14, ground := Go.Ground.data }, { on := 10, ground := Go.Ground.guard }], guard := some (10, true) }) (v := undef) rfl (by kernel_rfl) (by kernel_rfl) (by kernel_rfl) (fun _ _ _ h => h) (Or.inr ⟨by rfl, rfl⟩) hHeld ?_
              try simp only [Act.put, List.setIfInBounds_toArray, List.set_cons_zero, List.set_cons_succ]
              refine wpAnyH_take (i := 16) (oi := { dst := some 78, op := Go.Op.call { callee := Go.Callee.value (Go.Operand.func 13), args := #[Go.Operand.tmp 73, Go.Operand.tmp 77], argTypes := #[3, 33] }, type := 30, pos := "law.go:53", after := #[{ on := 11, ground := Go.Ground.data }, { on := 15, ground := Go.Ground.data }, { on := 10, ground := Go.Ground.chain }, { on := 10, ground := Go.Ground.guard }], guard := some (10, true) }) (v := undef) rfl (by kernel_rfl) (by kernel_rfl) (by kernel_rfl) (fun _ _ _ h => h) (Or.inr ⟨by rfl, rfl⟩) hHeld ?_
              try simp only [Act.put, List.setIfInBounds_toArray, List.set_cons_zero, List.set_cons_succ]
              refine wpAnyH_take (i := 17) (oi := { dst := some 79, op := Go.Op.move (Go.Operand.tmp 0), type := 3, pos := "law.go:53", after := #[{ on := 10, ground := Go.Ground.guard }], guard := some (10, true) }) (v := undef) rfl (by kernel_rfl) (by kernel_rfl) (by kernel_rfl) (fun _ _ _ h => h) (Or.inr ⟨by rfl, rfl⟩) hHeld ?_
              try simp only [Act.put, List.setIfInBounds_toArray, List.set_cons_zero, List.set_cons_succ]
              refine wpAnyH_take (i := 18) (oi := { dst := some 80, op := Go.Op.move (Go.Operand.tmp 3), type := 34, pos := "law.go:53", after := #[{ on := 10, ground := Go.Ground.guard }], guard := some (10, true) }) (v := undef) rfl (by kernel_rfl) (by kernel_rfl) (by kernel_rfl) (fun _ _ _ h => h) (Or.inr ⟨by rfl, rfl⟩) hHeld ?_
              try simp only [Act.put, List.setIfInBounds_toArray, List.set_cons_zero, List.set_cons_succ]
              refine wpAnyH_take (i := 19) (oi := { dst := some 81, op := Go.Op.move (Go.Operand.tmp 15), type := 3, pos := "law.go:53", after := #[{ on := 10, ground := Go.Ground.guard }], guard := some (10, true) }) (v := undef) rfl (by kernel_rfl) (by kernel_rfl) (by kernel_rfl) (fun _ _ _ h => h) (Or.inr ⟨by rfl, rfl⟩) hHeld ?_
              try simp only [Act.put, List.setIfInBounds_toArray, List.set_cons_zero, List.set_cons_succ]
              refine wpAnyH_take (i := 20) (oi := { dst := some 82, op := Go.Op.indexAddr 34 (Go.Operand.tmp 80) (Go.Operand.tmp 81), type := 0, pos := "law.go:53", after := #[{ on := 18, ground := Go.Ground.data }, { on := 19, ground := Go.Ground.data }, { on := 10, ground := Go.Ground.guard }], guard := some (10, true) }) (v := undef) rfl (by kernel_rfl) (by kernel_rfl) (by kernel_rfl) (fun _ _ _ h => h) (Or.inr ⟨by rfl, rfl⟩) hHeld ?_
              try simp only [Act.put, List.setIfInBounds_toArray, List.set_cons_zero, List.set_cons_succ]
              refine wpAnyH_take (i := 21) (oi := { dst := some 83, op := Go.Op.load 33 (Go.Operand.tmp 82), type := 33, pos := "law.go:53", after := #[{ on := 20, ground := Go.Ground.data }, { on := 10, ground := Go.Ground.guard }], guard := some (10, true) }) (v := undef) rfl (by kernel_rfl) (by kernel_rfl) (by kernel_rfl) (fun _ _ _ h => h) (Or.inr ⟨by rfl, rfl⟩) hHeld ?_
              try simp only [Act.put, List.setIfInBounds_toArray, List.set_cons_zero, List.set_cons_succ]
              refine wpAnyH_take (i := 22) (oi := { dst := some 84, op := Go.Op.call { callee := Go.Callee.value (Go.Operand.func 13), args := #[Go.Operand.tmp 79, Go.Operand.tmp 83], argTypes := #[3, 33] }, type := 30, pos := "law.go:53", after := #[{ on := 17, ground := Go.Ground.data }, { on := 21, ground := Go.Ground.data }, { on := 16, ground := Go.Ground.chain }, { on := 10, ground := Go.Ground.guard }], guard := some (10, true) }) (v := undef) rfl (by kernel_rfl) (by kernel_rfl) (by kernel_rfl) (fun _ _ _ h => h) (Or.inr ⟨by rfl, rfl⟩) hHeld ?_
              try simp only [Act.put, List.setIfInBounds_toArray, List.set_cons_zero, List.set_cons_succ]
              refine wpAnyH_take (i := 23) (oi := { dst := some 85, op := Go.Op.call { callee := Go.Callee.value (Go.Operand.func 12), args := #[Go.Operand.tmp 78, Go.Operand.tmp 84], argTypes := #[30, 30] }, type := 4, pos := "law.go:53", after := #[{ on := 16, ground := Go.Ground.data }, { on := 22, ground := Go.Ground.data }, { on := 22, ground := Go.Ground.chain }, { on := 10, ground := Go.Ground.guard }], guard := some (10, true) }) (v := undef) rfl (by kernel_rfl) (by kernel_rfl) (by kernel_rfl) (fun _ _ _ h => h) (Or.inr ⟨by rfl, rfl⟩) hHeld ?_
              try simp only [Act.put, List.setIfInBounds_toArray, List.set_cons_zero, List.set_cons_succ]
              refine wpAnyH_take (i := 24) (oi := { dst := some 86, op := Go.Op.pick (Go.Operand.tmp 72) (Go.Operand.tmp 85) (Go.Operand.const (Go.Value.bool false)), type := 4, pos := "law.go:53", after := #[{ on := 10, ground := Go.Ground.data }, { on := 23, ground := Go.Ground.data }], guard := none }) (v := ?v24z23) rfl (by kernel_rfl) (by kernel_rfl) (by kernel_rfl) (fun _ _ _ h => h) (Or.inl ⟨by rfl, ?y24z23⟩) hHeld ?r24z23
              case y24z23 => (intro w hSw; (try dsimp only at hSw); go_simp) <;> with_reducible rfl
              try simp only [Act.put, List.setIfInBounds_toArray, List.set_cons_zero, List.set_cons_succ]
              refine wpAnyH_done (by kernel_rfl) ?_ _
              have HE2 : Hid (∃ (i : Nat) (a b : Rc), k + 1 ≤ i ∧ O[i]? = some a ∧ P[i]? = some b ∧ ¬ a = b ∧ hshF size a = hshF size b) := ex_step (F := hshF size) HEx.out HOK.out HPK.out (fun h => h.1 (HSB.out.1 (by trivial)))
              have bN := hbw.trans (b4.mono hbw.size)
              clear hHeld hcells HSm HHx HHy HEx HOK HPK
              go_wp2
              go_roundw
              case rel => first | exact ⟨k + 1, by omega, by go_num, HE2, bN⟩ | ((repeat apply Exists.intro); exact ⟨⟨k + 1, by omega, by go_num, HE2, bN⟩, rfl⟩)
              case measure => simp [intOf]; omega
            | false =>
              refine hK.out _ _ ?_ (fun _ => ?_)
              · exact hHeld
              clear hK K
              try simp only [Act.put, List.setIfInBounds_toArray, List.set_cons_zero, List.set_cons_succ]
              refine wpAnyH_take (i := 9) (oi := { dst := some 71, op := Go.Op.unOp Go.UnOp.not 4 (Go.Operand.tmp 70), type := 4, pos := "law.go:53", after := #[{ on := 8, ground := Go.Ground.data }], guard := none }) (v := ?v9z24) rfl (by kernel_rfl) (by kernel_rfl) (by kernel_rfl) (fun _ _ _ h => h) (Or.inl ⟨by rfl, ?y9z24⟩) hHeld ?r9z24
              case y9z24 => (intro w hSw; (try dsimp only at hSw); go_simp) <;> with_reducible rfl
              try simp only [Act.put, List.setIfInBounds_toArray, List.set_cons_zero, List.set_cons_succ]
              refine wpAnyH_take (i := 10) (oi := { dst := some 72, op := Go.Op.move (Go.Operand.tmp 71), type := 4, pos := "law.go:53", after := #[{ on := 9, ground := Go.Ground.data }, { on := 8, ground := Go.Ground.chain }], guard := none }) (v := ?v10z25) rfl (by kernel_rfl) (by kernel_rfl) (by kernel_rfl) (fun _ _ _ h => h) (Or.inl ⟨by rfl, ?y10z25⟩) hHeld ?r10z25
              case y10z25 => (intro w hSw; (try dsimp only at hSw); go_simp) <;> with_reducible rfl
              try simp only [Act.put, List.setIfInBounds_toArray, List.set_cons_zero, List.set_cons_succ]
              refine wpAnyH_take (i := 11) (oi := { dst := some 73, op := Go.Op.move (Go.Operand.tmp 0), type := 3, pos := "law.go:53", after := #[{ on := 10, ground := Go.Ground.guard }], guard := some (10, true) }) (v := ?v11z26) rfl (by kernel_rfl) (by kernel_rfl) (by kernel_rfl) (fun _ _ _ h => h) (Or.inl ⟨by rfl, ?y11z26⟩) hHeld ?r11z26
              case y11z26 => (intro w hSw; (try dsimp only at hSw); go_simp) <;> with_reducible rfl
              try simp only [Act.put, List.setIfInBounds_toArray, List.set_cons_zero, List.set_cons_succ]
              refine wpAnyH_take (i := 12) (oi := { dst := some 74, op := Go.Op.move (Go.Operand.tmp 2), type := 34, pos := "law.go:53", after := #[{ on := 10, ground := Go.Ground.guard }], guard := some (10, true) }) (v := ?v12z27) rfl (by kernel_rfl) (by kernel_rfl) (by kernel_rfl) (fun _ _ _ h => h) (Or.inl ⟨by rfl, ?y12z27⟩) hHeld ?r12z27
              case y12z27 => (intro w hSw; (try dsimp only at hSw); go_simp) <;> with_reducible rfl
              try simp only [Act.put, List.setIfInBounds_toArray, List.set_cons_zero, List.set_cons_succ]
              refine wpAnyH_take (i := 13) (oi := { dst := some 75, op := Go.Op.move (Go.Operand.tmp 15), type := 3, pos := "law.go:53", after := #[{ on := 10, ground := Go.Ground.guard }], guard := some (10, true) }) (v := ?v13z28) rfl (by kernel_rfl) (by kernel_rfl) (by kernel_rfl) (fun _ _ _ h => h) (Or.inl ⟨by rfl, ?y13z28⟩) hHeld ?r13z28
              case y13z28 => (intro w hSw; (try dsimp only at hSw); go_simp) <;> with_reducible rfl
              try simp only [Act.put, List.setIfInBounds_toArray, List.set_cons_zero, List.set_cons_succ]
              refine wpAnyH_take (i := 14) (oi := { dst := some 76, op := Go.Op.indexAddr 34 (Go.Operand.tmp 74) (Go.Operand.tmp 75), type := 0, pos := "law.go:53", after := #[{ on := 12, ground := Go.Ground.data }, { on := 13, ground := Go.Ground.data }, { on := 10, ground := Go.Ground.guard }], guard := some (10, true) }) (v := ?v14z29) rfl (by kernel_rfl) (by kernel_rfl) (by kernel_rfl) (fun _ _ _ h => h) (Or.inl ⟨by rfl, ?y14z29⟩) hHeld ?r14z29
              case y14z29 => (intro w hSw; (try dsimp only at hSw); go_simp) <;> with_reducible rfl
              try simp only [Act.put, List.setIfInBounds_toArray, List.set_cons_zero, List.set_cons_succ]
              refine wpAnyH_take (i := 15) (oi := { dst := some 77, op := Go.Op.load 33 (Go.Operand.tmp 76), type := 33, pos := "law.go:53", after := #[{ on := 14, ground := Go.Ground.data }, { on := 10, ground := Go.Ground.guard }], guard := some (10, true) }) (v := ?v15z30) rfl (by kernel_rfl) (by kernel_rfl) (by kernel_rfl) (fun _ _ _ h => h) (Or.inl ⟨by rfl, ?y15z30⟩) hHeld ?r15z30
              case y15z30 => (intro w hSw; (try dsimp only at hSw); go_simp) <;> with_reducible rfl
              try simp only [Act.put, List.setIfInBounds_toArray, List.set_cons_zero, List.set_cons_succ]
              refine wpAnyH_take (i := 17) (oi := { dst := some 79, op := Go.Op.move (Go.Operand.tmp 0), type := 3, pos := "law.go:53", after := #[{ on := 10, ground := Go.Ground.guard }], guard := some (10, true) }) (v := ?v17z31) rfl (by kernel_rfl) (by kernel_rfl) (by kernel_rfl) (fun _ _ _ h => h) (Or.inl ⟨by rfl, ?y17z31⟩) hHeld ?r17z31
              case y17z31 => (intro w hSw; (try dsimp only at hSw); go_simp) <;> with_reducible rfl
              try simp only [Act.put, List.setIfInBounds_toArray, List.set_cons_zero, List.set_cons_succ]
              refine wpAnyH_take (i := 18) (oi := { dst := some 80, op := Go.Op.move (Go.Operand.tmp 3), type := 34, pos := "law.go:53", after := #[{ on := 10, ground := Go.Ground.guard }], guard := some (10, true) }) (v := ?v18z32) rfl (by kernel_rfl) (by kernel_rfl) (by kernel_rfl) (fun _ _ _ h => h) (Or.inl ⟨by rfl, ?y18z32⟩) hHeld ?r18z32
              case y18z32 => (intro w hSw; (try dsimp only at hSw); go_simp) <;> with_reducible rfl
              try simp only [Act.put, List.setIfInBounds_toArray, List.set_cons_zero, List.set_cons_succ]
              refine wpAnyH_take (i := 19) (oi := { dst := some 81, op := Go.Op.move (Go.Operand.tmp 15), type := 3, pos := "law.go:53", after := #[{ on := 10, ground := Go.Ground.guard }], guard := some (10, true) }) (v := ?v19z33) rfl (by kernel_rfl) (by kernel_rfl) (by kernel_rfl) (fun _ _ _ h => h) (Or.inl ⟨by rfl, ?y19z33⟩) hHeld ?r19z33
              case y19z33 => (intro w hSw; (try dsimp only at hSw); go_simp) <;> with_reducible rfl
              try simp only [Act.put, List.setIfInBounds_toArray, List.set_cons_zero, List.set_cons_succ]
              refine wpAnyH_take (i := 20) (oi := { dst := some 82, op := Go.Op.indexAddr 34 (Go.Operand.tmp 80) (Go.Operand.tmp 81), type := 0, pos := "law.go:53", after := #[{ on := 18, ground := Go.Ground.data }, { on := 19, ground := Go.Ground.data }, { on := 10, ground := Go.Ground.guard }], guard := some (10, true) }) (v := ?v20z34) rfl (by kernel_rfl) (by kernel_rfl) (by kernel_rfl) (fun _ _ _ h => h) (Or.inl ⟨by rfl, ?y20z34⟩) hHeld ?r20z34
              case y20z34 => (intro w hSw; (try dsimp only at hSw); go_simp) <;> with_reducible rfl
              try simp only [Act.put, List.setIfInBounds_toArray, List.set_cons_zero, List.set_cons_succ]
              refine wpAnyH_take (i := 21) (oi := { dst := some 83, op := Go.Op.load 33 (Go.Operand.tmp 82), type := 33, pos := "law.go:53", after := #[{ on := 20, ground := Go.Ground.data }, { on := 10, ground := Go.Ground.guard }], guard := some (10, true) }) (v := ?v21z35) rfl (by kernel_rfl) (by kernel_rfl) (by kernel_rfl) (fun _ _ _ h => h) (Or.inl ⟨by rfl, ?y21z35⟩) hHeld ?r21z35
              case y21z35 => (intro w hSw; (try dsimp only at hSw); go_simp) <;> with_reducible rfl
              try simp only [Act.put, List.setIfInBounds_toArray, List.set_cons_zero, List.set_cons_succ]
              refine wpAnyH_ready (rs := [16]) (by kernel_rfl) (by simp) ?_
              refine AllReadyH.cons (o := { dst := some 78, op := Go.Op.call { callee := Go.Callee.value (Go.Operand.func 13), args := #[Go.Operand.tmp 73, Go.Operand.tmp 77], argTypes := #[3, 33] }, type := 30, pos := "law.go:53", after := #[{ on := 11, ground := Go.Ground.data }, { on := 15, ground := Go.Ground.data }, { on := 10, ground := Go.Ground.chain }, { on := 10, ground := Go.Ground.guard }], guard := some (10, true) }) rfl (fun K hK => ?_) AllReadyH.nil
              go_simp
              refine (HHx.out _ b4).mono ?_
              rintro e4 w5 ⟨v5, rfl, k5, b5'⟩
              obtain ⟨p5, c5, rfl⟩ := k5.shape
              have b5 := b4.trans (b5'.mono b4.size)
              replace hHeld := hcells w5 b5
              refine hK.out _ _ ?_ (fun _ => ?_)
              · exact hHeld
              clear hK K
              try simp only [Act.put, List.setIfInBounds_toArray, List.set_cons_zero, List.set_cons_succ]
              refine wpAnyH_ready (rs := [22]) (by kernel_rfl) (by simp) ?_
              refine AllReadyH.cons (o := { dst := some 84, op := Go.Op.call { callee := Go.Callee.value (Go.Operand.func 13), args := #[Go.Operand.tmp 79, Go.Operand.tmp 83], argTypes := #[3, 33] }, type := 30, pos := "law.go:53", after := #[{ on := 17, ground := Go.Ground.data }, { on := 21, ground := Go.Ground.data }, { on := 16, ground := Go.Ground.chain }, { on := 10, ground := Go.Ground.guard }], guard := some (10, true) }) rfl (fun K hK => ?_) AllReadyH.nil
              go_simp
              refine (HHy.out _ b5).mono ?_
              rintro e5 w6 ⟨v6, rfl, k6, b6'⟩
              obtain ⟨p6, c6, rfl⟩ := k6.shape
              have b6 := b5.trans (b6'.mono b5.size)
              replace hHeld := hcells w6 b6
              refine hK.out _ _ ?_ (fun _ => ?_)
              · exact hHeld
              clear hK K
              try simp only [Act.put, List.setIfInBounds_toArray, List.set_cons_zero, List.set_cons_succ]
              refine wpAnyH_ready (rs := [23]) (by kernel_rfl) (by simp) ?_
              refine AllReadyH.cons (o := { dst := some 85, op := Go.Op.call { callee := Go.Callee.value (Go.Operand.func 12), args := #[Go.Operand.tmp 78, Go.Operand.tmp 84], argTypes := #[30, 30] }, type := 4, pos := "law.go:53", after := #[{ on := 16, ground := Go.Ground.data }, { on := 22, ground := Go.Ground.data }, { on := 22, ground := Go.Ground.chain }, { on := 10, ground := Go.Ground.guard }], guard := some (10, true) }) rfl (fun K hK => ?_) AllReadyH.nil
              go_simp
              refine (equal_any _ _ HX HY _ (k5.later b6') k6).mono ?_
              rintro e6 wz ⟨rfl, hwz⟩
              have hwz2 := hwz.symm
              clear hwz
              subst hwz2
              obtain ⟨EB, hEB⟩ : ∃ EB, EB = (HX == HY) := ⟨_, rfl⟩
              rw [← hEB]
              have HEB : Hid (EB = (HX == HY)) := hEB
              clear hEB
              cases EB with
              | true =>
                refine hK.out _ _ ?_ (fun _ => ?_)
                · exact hHeld
                clear hK K
                try simp only [Act.put, List.setIfInBounds_toArray, List.set_cons_zero, List.set_cons_succ]
                refine wpAnyH_take (i := 24) (oi := { dst := some 86, op := Go.Op.pick (Go.Operand.tmp 72) (Go.Operand.tmp 85) (Go.Operand.const (Go.Value.bool false)), type := 4, pos := "law.go:53", after := #[{ on := 10, ground := Go.Ground.data }, { on := 23, ground := Go.Ground.data }], guard := none }) (v := ?v24z36) rfl (by kernel_rfl) (by kernel_rfl) (by kernel_rfl) (fun _ _ _ h => h) (Or.inl ⟨by rfl, ?y24z36⟩) hHeld ?r24z36
                case y24z36 => (intro w hSw; (try dsimp only at hSw); go_simp) <;> with_reducible rfl
                try simp only [Act.put, List.setIfInBounds_toArray, List.set_cons_zero, List.set_cons_succ]
                refine wpAnyH_done (by kernel_rfl) ?_ _
                have BB := bw.trans (b6.mono bw.size)
                clear hHeld hcells HSm HHx HHy HEx HOK HPK k5 k6 b4' b5' b6' HSB HEB
                go_wp2_with fail
                refine (skAwake_any _ (hTD.later BB)).mono ?_
                rintro e9 w9 ⟨rfl, b9⟩
                have bf := BB.trans (b9.mono BB.size)
                go_wp2
                go_ret
                exact ⟨rfl, bf⟩
              | false =>
                refine hK.out _ _ ?_ (fun _ => ?_)
                · exact hHeld
                clear hK K
                try simp only [Act.put, List.setIfInBounds_toArray, List.set_cons_zero, List.set_cons_succ]
                refine wpAnyH_take (i := 24) (oi := { dst := some 86, op := Go.Op.pick (Go.Operand.tmp 72) (Go.Operand.tmp 85) (Go.Operand.const (Go.Value.bool false)), type := 4, pos := "law.go:53", after := #[{ on := 10, ground := Go.Ground.data }, { on := 23, ground := Go.Ground.data }], guard := none }) (v := ?v24z37) rfl (by kernel_rfl) (by kernel_rfl) (by kernel_rfl) (fun _ _ _ h => h) (Or.inl ⟨by rfl, ?y24z37⟩) hHeld ?r24z37
                case y24z37 => (intro w hSw; (try dsimp only at hSw); go_simp) <;> with_reducible rfl
                try simp only [Act.put, List.setIfInBounds_toArray, List.set_cons_zero, List.set_cons_succ]
                refine wpAnyH_done (by kernel_rfl) ?_ _
                have HEB2 : Hid (¬ HX = HY) := by
                  have := HEB.out
                  show ¬ _
                  intro h
                  rw [h] at this
                  simp at this
                clear k5 k6
                have HE2 : Hid (∃ (i : Nat) (a b : Rc), k + 1 ≤ i ∧ O[i]? = some a ∧ P[i]? = some b ∧ ¬ a = b ∧ hshF size a = hshF size b) := ex_step (F := hshF size) HEx.out HOK.out HPK.out (fun h => HEB2.out (by rw [← HHXe.out, ← HHYe.out]; exact h.2))
                have bN := hbw.trans (b6.mono hbw.size)
                clear hHeld hcells HSm HHx HHy HEx HOK HPK
                go_wp2
                go_roundw
                case rel => first | exact ⟨k + 1, by omega, by go_num, HE2, bN⟩ | ((repeat apply Exists.intro); exact ⟨⟨k + 1, by omega, by go_num, HE2, bN⟩, rfl⟩)
                case measure => simp [intOf]; omega
          · exfalso
            obtain ⟨i, a, b, q1, q2, _⟩ := HEx.out
            have e1 := (List.getElem?_eq_some_iff.1 q2).1
            have e2 := hO1.len.1
            omega

end Go.Proofs.YtgfddabccjfhiabDoor
