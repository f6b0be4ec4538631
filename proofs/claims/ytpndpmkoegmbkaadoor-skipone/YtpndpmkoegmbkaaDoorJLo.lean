/- What this text proves: the walk of the statement SkipOne over this program: it answers true for any records. (By program: held.py, mkskone.py.) Proved here: Rows.SkipOneCardSaid: for every number, record and two slices of records the Go function annalslaw14.SkipOne returns true (two ways from one head to one epoch that both are followed lead to one record, or two unlike records on them have one hash). No condition; the tables of packages math/bits and sha start as the program's text lays them. -/
import Derived.Test.YtpndpmkoegmbkaaDoorJFf
import Derived.Test.YtpndpmkoegmbkaaDoorJSm
import Derived.Test.YtpndpmkoegmbkaaDoorJSw
import Derived.Test.YtpndpmkoegmbkaaDoorJOs
namespace Go.Proofs.YtpndpmkoegmbkaaDoor
open Go.RowKit

theorem s_rec : (Tryd.prog.info? 25).map (·.size) = some 6 := by kernel_rfl

theorem run_rfew {P : Program} {t e : TypeId} (ht : P.underlying t = some (.slice e)) (hsz : (P.info? e).map (·.size) = some 6) (p : Option Addr) (n c h : Nat) (y : Int) (hy : y = (h : Int)) (hh : h ≤ c) (w : World) :
    (Instr.slice t (.slice p n c) none (some (.int .i64 y)) none).run P w = .ok (.slice p h c) w := by
  subst hy
  obtain ⟨i, hi, hs⟩ := Option.map_eq_some_iff.1 hsz
  have he : P.elem t = e := by simp [Program.elem, ht]
  rw [run_slice_h w t p n c (by rw [he]; exact ht) .i64 (h : Int) (by omega) (by omega), he]
  cases p <;> simp [Go.sizeOf, typeInfo, hi, hs, sliced, Result.andThen, Addr.add]

/-- What Follow answers, be it a record or none. -/
theorem follow_gen (size : Int) (hd : Rc) (tv lv kv vv : Value) (way : List Rc) (to : Int) (w : World) (h1 : HB w tv hd.tr) (h2 : HB w lv hd.li) (h3 : PA w kv hd.lk) (hW : RA w vv way) (hTD : TD w) (hT : Tabs w) :
    Calls Tryd.prog 7 #[.int .i64 size, .agg #[.int .i64 hd.e, .int .i64 hd.t, tv, .int .i64 hd.c, lv, kv], vv, .int .i64 to] w fun x w' => ∃ (r : Rc) (ok : Bool) (rtp : Option Addr) (rtc : Nat) (rlp : Option Addr) (rlc : Nat) (rkp : Option Addr) (rkc : Nat), x = .returned (.tuple #[.agg #[.int .i64 r.e, .int .i64 r.t, .slice rtp r.tr.length rtc, .int .i64 r.c, .slice rlp r.li.length rlc, .slice rkp r.lk.length rkc], .bool ok]) ∧ Hid (ok = true → folR size hd way to = some r) ∧ HB w' (.slice rtp r.tr.length rtc) r.tr ∧ HB w' (.slice rlp r.li.length rlc) r.li ∧ PA w' (.slice rkp r.lk.length rkc) r.lk ∧ Below w.heap.size w w' := by
  refine (follow_any size hd tv lv kv vv way to w h1 h2 h3 hW hTD hT).mono ?_
  rintro x w' ⟨f1, f2, f3⟩
  cases hR : folR size hd way to with
  | none => exact ⟨⟨0, 0, 0, [], [], []⟩, false, none, 0, none, 0, none, 0, f1 hR, fun h => (by cases h), HB.nil _, HB.nil _, PA.nil _, f3⟩
  | some r =>
    obtain ⟨tp, tc, lp, lc, kp, kc, e, g1, g2, g3⟩ := f2 r hR
    exact ⟨r, true, tp, tc, lp, lc, kp, kc, e, fun _ => rfl, g1, g2, g3, f3⟩

theorem ex_step {O P : List Rc} {k : Nat} {F : Rc → List UInt8} {x y : Rc} (h : ∃ (i : Nat) (a b : Rc), k ≤ i ∧ O[i]? = some a ∧ P[i]? = some b ∧ ¬ a = b ∧ F a = F b) (hx : O[k]? = some x) (hy : P[k]? = some y) (hn : ¬ (¬ x = y ∧ F x = F y)) : ∃ (i : Nat) (a b : Rc), k + 1 ≤ i ∧ O[i]? = some a ∧ P[i]? = some b ∧ ¬ a = b ∧ F a = F b := by
  obtain ⟨i, a, b, h1, h2, h3, h4, h5⟩ := h
  refine ⟨i, a, b, ?_, h2, h3, h4, h5⟩
  rcases Nat.lt_or_ge k i with h | h
  · exact h
  · obtain rfl : i = k := by omega
    rw [hx] at h2
    rw [hy] at h3
    cases h2
    cases h3
    exact absurd ⟨h4, h5⟩ hn

theorem fol_len {size : Int} {hd r : Rc} {O : List Rc} {to : Int} (h : folR size hd O to = some r) : O.length = (wayI hd.e to).length := by
  unfold folR at h
  split at h
  · rcases Nat.decEq O.length (wayI hd.e to).length with hn | hn
    · rw [folP_len size O _ hd hn] at h
      cases h
    · exact hn
  · cases h

/-- Two ways that are followed lead to one record, or part in two with one hash. -/
theorem fol_one {size : Int} {hd r s : Rc} {O P : List Rc} {to : Int} (h1 : folR size hd O to = some r) (h2 : folR size hd P to = some s) (hn : ¬ r = s) : ∃ (i : Nat) (a b : Rc), 0 ≤ i ∧ O[i]? = some a ∧ P[i]? = some b ∧ ¬ a = b ∧ hshF size a = hshF size b := by
  unfold folR at h1 h2
  split at h1
  · rename_i hc
    rw [if_pos hc] at h2
    rcases folP_one size _ O P hd r s h1 h2 with h | ⟨i, a, b, q1, q2, q3, q4⟩
    · exact absurd h hn
    · exact ⟨i, a, b, Nat.zero_le _, q1, q2, q3, q4⟩
  · cases h1

set_option maxRecDepth 100000 in
set_option maxHeartbeats 8000000 in
theorem skOneWalk (size : Int) (hd : Rc) (tv lv kv v1 v2 : Value) (one other : List Rc) (to : Int) (w : World) (h1 : HB w tv hd.tr) (h2 : HB w lv hd.li) (h3 : PA w kv hd.lk) (hO : RA w v1 one) (hP : RA w v2 other) (hTD : TD w) (hT : Tabs w) :
    Calls Tryd.prog 4 #[.int .i64 size, .agg #[.int .i64 hd.e, .int .i64 hd.t, tv, .int .i64 hd.c, lv, kv], v1, v2, .int .i64 to] w fun x w' => x = .returned (.bool true) ∧ Below w.heap.size w w' := by
  obtain ⟨htp, htc, rfl⟩ := h1.shape
  obtain ⟨hlp, hlc, rfl⟩ := h2.shape
  obtain ⟨hkp, hkc, rfl⟩ := h3.shape
  obtain ⟨op, oc, rfl⟩ := hO.shape
  obtain ⟨pp, pc, rfl⟩ := hP.shape
  have hol := hO.len.2
  have hpl := hP.len.2
  unfold maxLen at hol hpl
  obtain ⟨n1, hn1⟩ : ∃ n1 : Nat, n1 = min one.length 40 := ⟨_, rfl⟩
  obtain ⟨n2, hn2⟩ : ∃ n2 : Nat, n2 = min other.length 40 := ⟨_, rfl⟩
  have hm1 : min (one.length : Int) 40 = (n1 : Int) := by omega
  have hm2 : min (other.length : Int) 40 = (n2 : Int) := by omega
  have k1 := fun w => run_rfew (P := Tryd.prog) Tryd.underlying26 s_rec op one.length oc n1 (n1 : Int) rfl (by omega) w
  have k2 := fun w => run_rfew (P := Tryd.prog) Tryd.underlying26 s_rec pp other.length pc n2 (n2 : Int) rfl (by omega) w
  have hO1 := hO.take n1 (by omega)
  have hP1 := hP.take n2 (by omega)
  have l1 : n1 ≤ 40 := by omega
  have l2 : n2 ≤ 40 := by omega
  generalize one.take n1 = O at *
  generalize other.take n2 = P at *
  clear hn1 hn2 hO hP
  have bA := (Below.refl w.heap.size w).alloc (Nat.le_refl _) (.cells #[.int .i64 hd.e, .int .i64 hd.t, .slice htp hd.tr.length htc, .int .i64 hd.c, .slice hlp hd.li.length hlc, .slice hkp hd.lk.length hkc] 25)
  have gA := heap_alloc_new w (.cells #[.int .i64 hd.e, .int .i64 hd.t, .slice htp hd.tr.length htc, .int .i64 hd.c, .slice hlp hd.li.length hlc, .slice hkp hd.lk.length hkc] 25)
  obtain ⟨X, hX⟩ : ∃ X, X = w.alloc (.cells #[.int .i64 hd.e, .int .i64 hd.t, .slice htp hd.tr.length htc, .int .i64 hd.c, .slice hlp hd.li.length hlc, .slice hkp hd.lk.length hkc] 25) := ⟨_, rfl⟩
  rw [← hX] at bA gA
  have g0 : w.heap.size < X.heap.size := (Array.getElem?_eq_some_iff.1 gA).1
  have HTr : Hid True := trivial
  go_enter Tryd.func4, Tryd.ntmps4
  go_wp2_with fail
  rw [← hX]
  have hHeld : True := trivial
  refine wp_region_heldN (by kernel_rfl) (fun _ => True) 12 rfl ?_
  refine tkY 0 ⟨some 16, .move (.tmp 2), 26, "law.go:46", #[], none⟩ ?v0z1 hHeld ?y0z1 ?r0z1
  case y0z1 => (intro w hSw; (try dsimp only at hSw); go_simp) <;> with_reducible rfl
  try simp only [Act.put, List.setIfInBounds_toArray, List.set_cons_zero, List.set_cons_succ]
  refine tkY 1 ⟨some 17, .move (.tmp 2), 26, "law.go:46", #[], none⟩ ?v1z2 hHeld ?y1z2 ?r1z2
  case y1z2 => (intro w hSw; (try dsimp only at hSw); go_simp) <;> with_reducible rfl
  try simp only [Act.put, List.setIfInBounds_toArray, List.set_cons_zero, List.set_cons_succ]
  refine tkY 2 ⟨some 18, .call { callee := .builtin .len, args := #[.tmp 17], argTypes := #[26] }, 3, "law.go:46", #[⟨1, .data⟩], none⟩ ?v2z3 hHeld ?y2z3 ?r2z3
  case y2z3 => (intro w hSw; (try dsimp only at hSw); go_simp) <;> with_reducible rfl
  try simp only [Act.put, List.setIfInBounds_toArray, List.set_cons_zero, List.set_cons_succ]
  refine tkY 3 ⟨some 19, .call { callee := .builtin .min, args := #[.tmp 18, .const (.int .i64 40)], argTypes := #[3, 3] }, 3, "law.go:46", #[⟨2, .data⟩], none⟩ ?v3z4 hHeld ?y3z4 ?r3z4
  case y3z4 => (intro w hSw; (try dsimp only at hSw); go_simp) <;> with_reducible rfl
  try simp only [Act.put, List.setIfInBounds_toArray, List.set_cons_zero, List.set_cons_succ]
  refine tkY 4 ⟨some 20, .slice 26 (.tmp 16) none (some (.tmp 19)) none, 26, "law.go:46", #[⟨0, .data⟩, ⟨3, .data⟩], none⟩ ?v4z5 hHeld ?y4z5 ?r4z5
  case y4z5 => (intro w hSw; (try dsimp only at hSw); go_simp) <;> with_reducible rfl
  try simp only [Act.put, List.setIfInBounds_toArray, List.set_cons_zero, List.set_cons_succ]
  refine tkY 5 ⟨some 21, .move (.tmp 3), 26, "law.go:46", #[], none⟩ ?v5z6 hHeld ?y5z6 ?r5z6
  case y5z6 => (intro w hSw; (try dsimp only at hSw); go_simp) <;> with_reducible rfl
  try simp only [Act.put, List.setIfInBounds_toArray, List.set_cons_zero, List.set_cons_succ]
  refine tkY 6 ⟨some 22, .move (.tmp 3), 26, "law.go:46", #[], none⟩ ?v6z7 hHeld ?y6z7 ?r6z7
  case y6z7 => (intro w hSw; (try dsimp only at hSw); go_simp) <;> with_reducible rfl
  try simp only [Act.put, List.setIfInBounds_toArray, List.set_cons_zero, List.set_cons_succ]
  refine tkY 7 ⟨some 23, .call { callee := .builtin .len, args := #[.tmp 22], argTypes := #[26] }, 3, "law.go:46", #[⟨6, .data⟩], none⟩ ?v7z8 hHeld ?y7z8 ?r7z8
  case y7z8 => (intro w hSw; (try dsimp only at hSw); go_simp) <;> with_reducible rfl
  try simp only [Act.put, List.setIfInBounds_toArray, List.set_cons_zero, List.set_cons_succ]
  refine tkY 8 ⟨some 24, .call { callee := .builtin .min, args := #[.tmp 23, .const (.int .i64 40)], argTypes := #[3, 3] }, 3, "law.go:46", #[⟨7, .data⟩], none⟩ ?v8z9 hHeld ?y8z9 ?r8z9
  case y8z9 => (intro w hSw; (try dsimp only at hSw); go_simp) <;> with_reducible rfl
  try simp only [Act.put, List.setIfInBounds_toArray, List.set_cons_zero, List.set_cons_succ]
  refine tkY 9 ⟨some 25, .slice 26 (.tmp 21) none (some (.tmp 24)) none, 26, "law.go:46", #[⟨5, .data⟩, ⟨8, .data⟩], none⟩ ?v9z10 hHeld ?y9z10 ?r9z10
  case y9z10 => (intro w hSw; (try dsimp only at hSw); go_simp) <;> with_reducible rfl
  try simp only [Act.put, List.setIfInBounds_toArray, List.set_cons_zero, List.set_cons_succ]
  refine tkY 10 ⟨some 2, .assign (.tmp 20), 26, "law.go:46", #[⟨4, .data⟩, ⟨0, .phase⟩, ⟨1, .phase⟩, ⟨2, .phase⟩, ⟨3, .phase⟩, ⟨4, .phase⟩, { on := 5, ground := .textOnly .lateStores }, { on := 6, ground := .textOnly .lateStores }, { on := 7, ground := .textOnly .lateStoresUnsure }, { on := 8, ground := .textOnly .lateStoresUnsure }, { on := 9, ground := .textOnly .lateStoresUnsure }], none⟩ ?v10z11 hHeld ?y10z11 ?r10z11
  case y10z11 => (intro w hSw; (try dsimp only at hSw); go_simp) <;> with_reducible rfl
  try simp only [Act.put, List.setIfInBounds_toArray, List.set_cons_zero, List.set_cons_succ]
  refine tkY 11 ⟨some 3, .assign (.tmp 25), 26, "law.go:46", #[⟨9, .data⟩, ⟨10, .chain⟩, ⟨0, .phase⟩, ⟨1, .phase⟩, ⟨2, .phase⟩, ⟨3, .phase⟩, ⟨4, .phase⟩, ⟨5, .phase⟩, ⟨6, .phase⟩, ⟨7, .phase⟩, ⟨8, .phase⟩, ⟨9, .phase⟩, ⟨10, .phase⟩], none⟩ ?v11z12 hHeld ?y11z12 ?r11z12
  case y11z12 => (intro w hSw; (try dsimp only at hSw); go_simp) <;> with_reducible rfl
  try simp only [Act.put, List.setIfInBounds_toArray, List.set_cons_zero, List.set_cons_succ]
  refine wpAnyH_done (by kernel_rfl) ?_ _
  clear hHeld k1 k2 hm1 hm2 hX
  obtain ⟨Y, hY⟩ : ∃ Y, Y = X.drew := ⟨_, rfl⟩
  rw [← hY]
  have bY0 : Below X.heap.size X Y := by rw [hY]; exact (Below.refl _ X).drew
  have bY := bA.trans (bY0.mono bA.size)
  have gY := (bY0.block _ g0).trans gA
  have gy0 : w.heap.size < Y.heap.size := (Array.getElem?_eq_some_iff.1 gY).1
  clear hY bY0 gA bA g0
  have y0 : Y.cell? ⟨w.heap.size, 0, none⟩ = some (.int .i64 hd.e) := by rw [cell_of_row _ _ _ _ _ _ gY]; rfl
  have y1 : Y.cell? ⟨w.heap.size, 1, none⟩ = some (.int .i64 hd.t) := by rw [cell_of_row _ _ _ _ _ _ gY]; rfl
  have y2 : Y.cell? ⟨w.heap.size, 2, none⟩ = some (.slice htp hd.tr.length htc) := by rw [cell_of_row _ _ _ _ _ _ gY]; rfl
  have y3 : Y.cell? ⟨w.heap.size, 3, none⟩ = some (.int .i64 hd.c) := by rw [cell_of_row _ _ _ _ _ _ gY]; rfl
  have y4 : Y.cell? ⟨w.heap.size, 4, none⟩ = some (.slice hlp hd.li.length hlc) := by rw [cell_of_row _ _ _ _ _ _ gY]; rfl
  have y5 : Y.cell? ⟨w.heap.size, 5, none⟩ = some (.slice hkp hd.lk.length hkc) := by rw [cell_of_row _ _ _ _ _ _ gY]; rfl
  have hF1 := follow_gen size hd _ _ _ _ O to Y (h1.later bY) (h2.later bY) (h3.later bY) (hO1.later bY) (hTD.later bY) (hT.later bY)
  go_wp2_with fail
  refine hF1.mono ?_
  rintro e1 w1 ⟨r, ok1, rtp, rtc, rlp, rlc, rkp, rkc, rfl, HK1, r1, r2, r3, b1⟩
  have bw1 := bY.trans (b1.mono bY.size)
  have gB := (b1.block _ gy0).trans gY
  have bX1 := (Below.refl w1.heap.size w1).alloc (Nat.le_refl _) (.cells #[.int .i64 r.e, .int .i64 r.t, .slice rtp r.tr.length rtc, .int .i64 r.c, .slice rlp r.li.length rlc, .slice rkp r.lk.length rkc] 25)
  have gR := heap_alloc_new w1 (.cells #[.int .i64 r.e, .int .i64 r.t, .slice rtp r.tr.length rtc, .int .i64 r.c, .slice rlp r.li.length rlc, .slice rkp r.lk.length rkc] 25)
  obtain ⟨X1, hX1⟩ : ∃ X1, X1 = w1.alloc (.cells #[.int .i64 r.e, .int .i64 r.t, .slice rtp r.tr.length rtc, .int .i64 r.c, .slice rlp r.li.length rlc, .slice rkp r.lk.length rkc] 25) := ⟨_, rfl⟩
  rw [← hX1] at bX1 gR
  have bw2 := bw1.trans (bX1.mono bw1.size)
  have gC := (bX1.block _ (Array.getElem?_eq_some_iff.1 gB).1).trans gB
  have gr1 : w1.heap.size < X1.heap.size := (Array.getElem?_eq_some_iff.1 gR).1
  have gc1 : w.heap.size < X1.heap.size := (Array.getElem?_eq_some_iff.1 gC).1
  clear hF1 b1 gB y0 y1 y2 y3 y4 y5
  have z0 : X1.cell? ⟨w.heap.size, 0, none⟩ = some (.int .i64 hd.e) := by rw [cell_of_row _ _ _ _ _ _ gC]; rfl
  have z1 : X1.cell? ⟨w.heap.size, 1, none⟩ = some (.int .i64 hd.t) := by rw [cell_of_row _ _ _ _ _ _ gC]; rfl
  have z2 : X1.cell? ⟨w.heap.size, 2, none⟩ = some (.slice htp hd.tr.length htc) := by rw [cell_of_row _ _ _ _ _ _ gC]; rfl
  have z3 : X1.cell? ⟨w.heap.size, 3, none⟩ = some (.int .i64 hd.c) := by rw [cell_of_row _ _ _ _ _ _ gC]; rfl
  have z4 : X1.cell? ⟨w.heap.size, 4, none⟩ = some (.slice hlp hd.li.length hlc) := by rw [cell_of_row _ _ _ _ _ _ gC]; rfl
  have z5 : X1.cell? ⟨w.heap.size, 5, none⟩ = some (.slice hkp hd.lk.length hkc) := by rw [cell_of_row _ _ _ _ _ _ gC]; rfl
  rw [hX1] at z0 z1 z2 z3 z4 z5
  have hF2 := follow_gen size hd _ _ _ _ P to X1 (h1.later bw2) (h2.later bw2) (h3.later bw2) (hP1.later bw2) (hTD.later bw2) (hT.later bw2)
  go_wp2_with fail
  rw [← hX1]
  refine hF2.mono ?_
  rintro e2 w2 ⟨s, ok2, stp, stc, slp, slc, skp, skc, rfl, HK2, s1, s2, s3, b2⟩
  have bw3 := bw2.trans (b2.mono bw2.size)
  have gR2 := (b2.block _ gr1).trans gR
  have bX2 := (Below.refl w2.heap.size w2).alloc (Nat.le_refl _) (.cells #[.int .i64 s.e, .int .i64 s.t, .slice stp s.tr.length stc, .int .i64 s.c, .slice slp s.li.length slc, .slice skp s.lk.length skc] 25)
  have gS := heap_alloc_new w2 (.cells #[.int .i64 s.e, .int .i64 s.t, .slice stp s.tr.length stc, .int .i64 s.c, .slice slp s.li.length slc, .slice skp s.lk.length skc] 25)
  obtain ⟨X2, hX2⟩ : ∃ X2, X2 = w2.alloc (.cells #[.int .i64 s.e, .int .i64 s.t, .slice stp s.tr.length stc, .int .i64 s.c, .slice slp s.li.length slc, .slice skp s.lk.length skc] 25) := ⟨_, rfl⟩
  rw [← hX2] at bX2 gS
  have BB := bw3.trans (bX2.mono bw3.size)
  have gR3 := (bX2.block _ (Array.getElem?_eq_some_iff.1 gR2).1).trans gR2
  have hSa := same13_any r s _ _ _ _ _ _ X2 (((r1.later bX1).later b2).later bX2) (s1.later bX2) (((r2.later bX1).later b2).later bX2) (s2.later bX2) (((r3.later bX1).later b2).later bX2) (s3.later bX2)
  clear hF2 gR2 z0 z1 z2 z3 z4 z5 r1 r2 r3 s1 s2 s3 gR gC hX1 bX1 b2 bX2
  have a0 : X2.cell? ⟨w1.heap.size, 0, none⟩ = some (.int .i64 r.e) := by rw [cell_of_row _ _ _ _ _ _ gR3]; rfl
  have a1 : X2.cell? ⟨w1.heap.size, 1, none⟩ = some (.int .i64 r.t) := by rw [cell_of_row _ _ _ _ _ _ gR3]; rfl
  have a2 : X2.cell? ⟨w1.heap.size, 2, none⟩ = some (.slice rtp r.tr.length rtc) := by rw [cell_of_row _ _ _ _ _ _ gR3]; rfl
  have a3 : X2.cell? ⟨w1.heap.size, 3, none⟩ = some (.int .i64 r.c) := by rw [cell_of_row _ _ _ _ _ _ gR3]; rfl
  have a4 : X2.cell? ⟨w1.heap.size, 4, none⟩ = some (.slice rlp r.li.length rlc) := by rw [cell_of_row _ _ _ _ _ _ gR3]; rfl
  have a5 : X2.cell? ⟨w1.heap.size, 5, none⟩ = some (.slice rkp r.lk.length rkc) := by rw [cell_of_row _ _ _ _ _ _ gR3]; rfl
  have bb0 : X2.cell? ⟨w2.heap.size, 0, none⟩ = some (.int .i64 s.e) := by rw [cell_of_row _ _ _ _ _ _ gS]; rfl
  have bb1 : X2.cell? ⟨w2.heap.size, 1, none⟩ = some (.int .i64 s.t) := by rw [cell_of_row _ _ _ _ _ _ gS]; rfl
  have bb2 : X2.cell? ⟨w2.heap.size, 2, none⟩ = some (.slice stp s.tr.length stc) := by rw [cell_of_row _ _ _ _ _ _ gS]; rfl
  have bb3 : X2.cell? ⟨w2.heap.size, 3, none⟩ = some (.int .i64 s.c) := by rw [cell_of_row _ _ _ _ _ _ gS]; rfl
  have bb4 : X2.cell? ⟨w2.heap.size, 4, none⟩ = some (.slice slp s.li.length slc) := by rw [cell_of_row _ _ _ _ _ _ gS]; rfl
  have bb5 : X2.cell? ⟨w2.heap.size, 5, none⟩ = some (.slice skp s.lk.length skc) := by rw [cell_of_row _ _ _ _ _ _ gS]; rfl
  rw [hX2] at a0 a1 a2 a3 a4 a5 bb0 bb1 bb2 bb3 bb4 bb5
  cases ok1 with
  | false =>
    go_wp2_with fail
    rw [← hX2]
    clear hSa
    refine (skAwake_any _ (hTD.later BB)).mono ?_
    rintro e9 w9 ⟨rfl, b9⟩
    have bf := BB.trans (b9.mono BB.size)
    go_wp2
    go_ret
    exact ⟨rfl, bf⟩
  | true =>
    cases ok2 with
    | false =>
      go_wp2_with fail
      rw [← hX2]
      clear hSa
      refine (skAwake_any _ (hTD.later BB)).mono ?_
      rintro e9 w9 ⟨rfl, b9⟩
      have bf := BB.trans (b9.mono BB.size)
      go_wp2
      go_ret
      exact ⟨rfl, bf⟩
    | true =>
      have HA := HK1.out rfl
      have HB' := HK2.out rfl
      have HN : Hid (n1 = n2) := by
        have e1 := fol_len HA
        have e2 := fol_len HB'
        have e3 := hO1.len.1
        have e4 := hP1.len.1
        show n1 = n2
        omega
      have HF : Hid (¬ r = s → ∃ (i : Nat) (a b : Rc), 0 ≤ i ∧ O[i]? = some a ∧ P[i]? = some b ∧ ¬ a = b ∧ hshF size a = hshF size b) := fun hn => fol_one HA HB' hn
      clear HA HB' HK1 HK2
      go_wp2_with fail
      rw [← hX2]
      refine hSa.mono ?_
      rintro e3 w3 ⟨SB, rfl, hsb, b3⟩
      have bw := BB.trans (b3.mono BB.size)
      clear hSa BB b3 a0 a1 a2 a3 a4 a5 bb0 bb1 bb2 bb3 bb4 bb5 hX2 gR3 gS
      cases SB with
      | true =>
        go_wp2_with fail
        refine (skAwake_any _ (hTD.later bw)).mono ?_
        rintro e9 w9 ⟨rfl, b9⟩
        have bf := bw.trans (b9.mono bw.size)
        go_wp2
        go_ret
        exact ⟨rfl, bf⟩
      | false =>
        have HEx0 := HF.out (fun h => by have := hsb.2 h; cases this)
        have HI : Hid (∃ (i : Nat) (a b : Rc), 0 ≤ i ∧ O[i]? = some a ∧ P[i]? = some b ∧ ¬ a = b ∧ hshF size a = hshF size b) := HEx0
        clear HEx0 HF hsb
        have hnn := HN.out
        subst hnn
        clear HN
        have hmn : min (n1 : Int) (n1 : Int) = (n1 : Int) := by omega
        have HO := hO1
        go_wp2
        go_loopw [59] (fun i wr => ∃ k : Nat, k ≤ n1 ∧ i = .int .i64 k ∧ Hid (∃ (i : Nat) (a b : Rc), k ≤ i ∧ O[i]? = some a ∧ P[i]? = some b ∧ ¬ a = b ∧ hshF size a = hshF size b) ∧ Below w3.heap.size w3 wr) (fun i _ => n1 - (intOf i).toNat)
        case atStart => exact ⟨0, Nat.zero_le _, rfl, HI, Below.refl _ _⟩
        case round =>
          obtain ⟨k, hk, rfl, HEx, hbw⟩ := hrel
          clear HI
          have bwr := bw.trans (hbw.mono bw.size)
          by_cases hlt : k < n1
          · obtain ⟨ob, oo, rfl⟩ := hO1.addr (by omega)
            obtain ⟨pb, po, rfl⟩ := hP1.addr (by omega)
            obtain ⟨x, xtp, xtc, xlp, xlc, xkp, xkc, HOK, hx⟩ := hO1.get k hlt
            obtain ⟨y, ytp, ytc, ylp, ylc, ykp, ykc, HPK, hy⟩ := hP1.get k hlt
            have hxr := hx.later bwr
            have hyr := hy.later bwr
            obtain ⟨⟨i0, i1, i2, i3, i4, i5⟩, x1, x2, x3⟩ := hxr
            obtain ⟨⟨j0, j1, j2, j3, j4, j5⟩, y1, y2, y3⟩ := hyr
            clear hx hy
            have hlt2 : (k : Int) < (n1 : Int) := by omega
            have bD : Below wr.heap.size wr wr.drew := (Below.refl _ wr).drew
            have HSm : Hid (∀ W, Below wr.heap.size wr W → Calls Tryd.prog 9 #[.agg #[.int .i64 x.e, .int .i64 x.t, .slice xtp x.tr.length xtc, .int .i64 x.c, .slice xlp x.li.length xlc, .slice xkp x.lk.length xkc], .agg #[.int .i64 y.e, .int .i64 y.t, .slice ytp y.tr.length ytc, .int .i64 y.c, .slice ylp y.li.length ylc, .slice ykp y.lk.length ykc]] W fun e w' => ∃ B, e = .returned (.bool B) ∧ (B = true ↔ x = y) ∧ Below W.heap.size W w') := fun W hB => same13_any x y _ _ _ _ _ _ W (x1.later hB) (y1.later hB) (x2.later hB) (y2.later hB) (x3.later hB) (y3.later hB)
            have HHx : Hid (∀ W, Below wr.heap.size wr W → Calls Tryd.prog 12 #[.int .i64 size, .agg #[.int .i64 x.e, .int .i64 x.t, .slice xtp x.tr.length xtc, .int .i64 x.c, .slice xlp x.li.length xlc, .slice xkp x.lk.length xkc]] W fun e w' => ∃ v, e = .returned v ∧ HB w' v (hshF size x) ∧ Below W.heap.size W w') := fun W hB => rhash13_any size x.e x.t x.c _ _ _ x.tr x.li x.lk W (x1.later hB) (x2.later hB) (x3.later hB)
            have HHy : Hid (∀ W, Below wr.heap.size wr W → Calls Tryd.prog 12 #[.int .i64 size, .agg #[.int .i64 y.e, .int .i64 y.t, .slice ytp y.tr.length ytc, .int .i64 y.c, .slice ylp y.li.length ylc, .slice ykp y.lk.length ykc]] W fun e w' => ∃ v, e = .returned v ∧ HB w' v (hshF size y) ∧ Below W.heap.size W w') := fun W hB => rhash13_any size y.e y.t y.c _ _ _ y.tr y.li y.lk W (y1.later hB) (y2.later hB) (y3.later hB)
            obtain ⟨HX, hHX⟩ : ∃ HX, HX = hshF size x := ⟨_, rfl⟩
            obtain ⟨HY, hHY⟩ : ∃ HY, HY = hshF size y := ⟨_, rfl⟩
            rw [← hHX] at HHx
            rw [← hHY] at HHy
            have HHXe : Hid (hshF size x = HX) := hHX.symm
            have HHYe : Hid (hshF size y = HY) := hHY.symm
            have hcells : ∀ W, Below wr.heap.size wr W → W.cell? ⟨ob, oo + k * 6, none⟩ = some (.int .i64 x.e) ∧ W.cell? ⟨ob, oo + k * 6 + 1, none⟩ = some (.int .i64 x.t) ∧ W.cell? ⟨ob, oo + k * 6 + 2, none⟩ = some (.slice xtp x.tr.length xtc) ∧ W.cell? ⟨ob, oo + k * 6 + 3, none⟩ = some (.int .i64 x.c) ∧ W.cell? ⟨ob, oo + k * 6 + 4, none⟩ = some (.slice xlp x.li.length xlc) ∧ W.cell? ⟨ob, oo + k * 6 + 5, none⟩ = some (.slice xkp x.lk.length xkc) ∧ W.cell? ⟨pb, po + k * 6, none⟩ = some (.int .i64 y.e) ∧ W.cell? ⟨pb, po + k * 6 + 1, none⟩ = some (.int .i64 y.t) ∧ W.cell? ⟨pb, po + k * 6 + 2, none⟩ = some (.slice ytp y.tr.length ytc) ∧ W.cell? ⟨pb, po + k * 6 + 3, none⟩ = some (.int .i64 y.c) ∧ W.cell? ⟨pb, po + k * 6 + 4, none⟩ = some (.slice ylp y.li.length ylc) ∧ W.cell? ⟨pb, po + k * 6 + 5, none⟩ = some (.slice ykp y.lk.length ykc) := by
              intro W hB
              exact ⟨cell_later hB i0, cell_later hB i1, cell_later hB i2, cell_later hB i3, cell_later hB i4, cell_later hB i5, cell_later hB j0, cell_later hB j1, cell_later hB j2, cell_later hB j3, cell_later hB j4, cell_later hB j5⟩
            have hHeld := hcells _ bD
            clear hHX hHY x1 x2 x3 y1 y2 y3 i0 i1 i2 i3 i4 i5 j0 j1 j2 j3 j4 j5 bw h1 h2 h3
            have bw := bwr
            clear bwr hO1 hP1 HO
            go_wp2_with fail
            refine wp_region_heldN (by kernel_rfl) (fun W => W.cell? ⟨ob, oo + k * 6, none⟩ = some (.int .i64 x.e) ∧ W.cell? ⟨ob, oo + k * 6 + 1, none⟩ = some (.int .i64 x.t) ∧ W.cell? ⟨ob, oo + k * 6 + 2, none⟩ = some (.slice xtp x.tr.length xtc) ∧ W.cell? ⟨ob, oo + k * 6 + 3, none⟩ = some (.int .i64 x.c) ∧ W.cell? ⟨ob, oo + k * 6 + 4, none⟩ = some (.slice xlp x.li.length xlc) ∧ W.cell? ⟨ob, oo + k * 6 + 5, none⟩ = some (.slice xkp x.lk.length xkc) ∧ W.cell? ⟨pb, po + k * 6, none⟩ = some (.int .i64 y.e) ∧ W.cell? ⟨pb, po + k * 6 + 1, none⟩ = some (.int .i64 y.t) ∧ W.cell? ⟨pb, po + k * 6 + 2, none⟩ = some (.slice ytp y.tr.length ytc) ∧ W.cell? ⟨pb, po + k * 6 + 3, none⟩ = some (.int .i64 y.c) ∧ W.cell? ⟨pb, po + k * 6 + 4, none⟩ = some (.slice ylp y.li.length ylc) ∧ W.cell? ⟨pb, po + k * 6 + 5, none⟩ = some (.slice ykp y.lk.length ykc)) 25 rfl ?_
            refine tkY 0 ⟨some 62, .move (.tmp 2), 26, "law.go:53", #[], none⟩ ?v0z13 hHeld ?y0z13 ?r0z13
            case y0z13 => (intro w hSw; (try dsimp only at hSw); go_simp) <;> with_reducible rfl
            try simp only [Act.put, List.setIfInBounds_toArray, List.set_cons_zero, List.set_cons_succ]
            refine tkY 1 ⟨some 63, .move (.tmp 15), 3, "law.go:53", #[], none⟩ ?v1z14 hHeld ?y1z14 ?r1z14
            case y1z14 => (intro w hSw; (try dsimp only at hSw); go_simp) <;> with_reducible rfl
            try simp only [Act.put, List.setIfInBounds_toArray, List.set_cons_zero, List.set_cons_succ]
            refine tkY 2 ⟨some 64, .indexAddr 26 (.tmp 62) (.tmp 63), 0, "law.go:53", #[⟨0, .data⟩, ⟨1, .data⟩], none⟩ ?v2z15 hHeld ?y2z15 ?r2z15
            case y2z15 => (intro w hSw; (try dsimp only at hSw); go_simp) <;> with_reducible rfl
            try simp only [Act.put, List.setIfInBounds_toArray, List.set_cons_zero, List.set_cons_succ]
            refine tkY 3 ⟨some 65, .load 25 (.tmp 64), 25, "law.go:53", #[⟨2, .data⟩], none⟩ ?v3z16 hHeld ?y3z16 ?r3z16
            case y3z16 => (intro w hSw; (try dsimp only at hSw); go_simp) <;> with_reducible rfl
            try simp only [Act.put, List.setIfInBounds_toArray, List.set_cons_zero, List.set_cons_succ]
            refine tkY 4 ⟨some 66, .move (.tmp 3), 26, "law.go:53", #[], none⟩ ?v4z17 hHeld ?y4z17 ?r4z17
            case y4z17 => (intro w hSw; (try dsimp only at hSw); go_simp) <;> with_reducible rfl
            try simp only [Act.put, List.setIfInBounds_toArray, List.set_cons_zero, List.set_cons_succ]
            refine tkY 5 ⟨some 67, .move (.tmp 15), 3, "law.go:53", #[], none⟩ ?v5z18 hHeld ?y5z18 ?r5z18
            case y5z18 => (intro w hSw; (try dsimp only at hSw); go_simp) <;> with_reducible rfl
            try simp only [Act.put, List.setIfInBounds_toArray, List.set_cons_zero, List.set_cons_succ]
            refine tkY 6 ⟨some 68, .indexAddr 26 (.tmp 66) (.tmp 67), 0, "law.go:53", #[⟨4, .data⟩, ⟨5, .data⟩], none⟩ ?v6z19 hHeld ?y6z19 ?r6z19
            case y6z19 => (intro w hSw; (try dsimp only at hSw); go_simp) <;> with_reducible rfl
            try simp only [Act.put, List.setIfInBounds_toArray, List.set_cons_zero, List.set_cons_succ]
            refine tkY 7 ⟨some 69, .load 25 (.tmp 68), 25, "law.go:53", #[⟨6, .data⟩], none⟩ ?v7z20 hHeld ?y7z20 ?r7z20
            case y7z20 => (intro w hSw; (try dsimp only at hSw); go_simp) <;> with_reducible rfl
            try simp only [Act.put, List.setIfInBounds_toArray, List.set_cons_zero, List.set_cons_succ]
            refine wpAnyH_ready (rs := [8]) (by kernel_rfl) (by simp) ?_
            refine AllReadyH.cons (o := ⟨some 70, .call { callee := .value (.func 9), args := #[.tmp 65, .tmp 69], argTypes := #[25, 25] }, 4, "law.go:53", #[⟨3, .data⟩, ⟨7, .data⟩], none⟩) rfl (fun K hK => ?_) AllReadyH.nil
            go_simp
            refine (HSm.out _ bD).mono ?_
            rintro e3 w4 ⟨SB, rfl, hsb, b4'⟩
            have HSB : Hid (SB = true ↔ x = y) := hsb
            clear hsb
            have b4 := bD.trans (b4'.mono bD.size)
            replace hHeld := hcells w4 b4
            cases SB with
            | true =>
              refine hK.out _ _ ?_ (fun _ => ?_)
              · exact hHeld
              clear hK K
              try simp only [Act.put, List.setIfInBounds_toArray, List.set_cons_zero, List.set_cons_succ]
              refine tkY 9 ⟨some 71, .unOp .not 4 (.tmp 70), 4, "law.go:53", #[⟨8, .data⟩], none⟩ ?v9z21 hHeld ?y9z21 ?r9z21
              case y9z21 => (intro w hSw; (try dsimp only at hSw); go_simp) <;> with_reducible rfl
              try simp only [Act.put, List.setIfInBounds_toArray, List.set_cons_zero, List.set_cons_succ]
              refine tkY 10 ⟨some 72, .move (.tmp 71), 4, "law.go:53", #[⟨9, .data⟩, ⟨8, .chain⟩], none⟩ ?v10z22 hHeld ?y10z22 ?r10z22
              case y10z22 => (intro w hSw; (try dsimp only at hSw); go_simp) <;> with_reducible rfl
              try simp only [Act.put, List.setIfInBounds_toArray, List.set_cons_zero, List.set_cons_succ]
              refine tkN 11 ⟨some 73, .move (.tmp 0), 3, "law.go:53", #[⟨10, .guard⟩], some (10, true)⟩ hHeld ?_
              try simp only [Act.put, List.setIfInBounds_toArray, List.set_cons_zero, List.set_cons_succ]
              refine tkN 12 ⟨some 74, .move (.tmp 2), 26, "law.go:53", #[⟨10, .guard⟩], some (10, true)⟩ hHeld ?_
              try simp only [Act.put, List.setIfInBounds_toArray, List.set_cons_zero, List.set_cons_succ]
              refine tkN 13 ⟨some 75, .move (.tmp 15), 3, "law.go:53", #[⟨10, .guard⟩], some (10, true)⟩ hHeld ?_
              try simp only [Act.put, List.setIfInBounds_toArray, List.set_cons_zero, List.set_cons_succ]
              refine tkN 14 ⟨some 76, .indexAddr 26 (.tmp 74) (.tmp 75), 0, "law.go:53", #[⟨12, .data⟩, ⟨13, .data⟩, ⟨10, .guard⟩], some (10, true)⟩ hHeld ?_
              try simp only [Act.put, List.setIfInBounds_toArray, List.set_cons_zero, List.set_cons_succ]
              refine tkN 15 ⟨some 77, .load 25 (.tmp 76), 25, "law.go:53", #[⟨14, .data⟩, ⟨10, .guard⟩], some (10, true)⟩ hHeld ?_
              try simp only [Act.put, List.setIfInBounds_toArray, List.set_cons_zero, List.set_cons_succ]
              refine tkN 16 ⟨some 78, .call { callee := .value (.func 12), args := #[.tmp 73, .tmp 77], argTypes := #[3, 25] }, 22, "law.go:53", #[⟨11, .data⟩, ⟨15, .data⟩, ⟨10, .chain⟩, ⟨10, .guard⟩], some (10, true)⟩ hHeld ?_
              try simp only [Act.put, List.setIfInBounds_toArray, List.set_cons_zero, List.set_cons_succ]
              refine tkN 17 ⟨some 79, .move (.tmp 0), 3, "law.go:53", #[⟨10, .guard⟩], some (10, true)⟩ hHeld ?_
              try simp only [Act.put, List.setIfInBounds_toArray, List.set_cons_zero, List.set_cons_succ]
              refine tkN 18 ⟨some 80, .move (.tmp 3), 26, "law.go:53", #[⟨10, .guard⟩], some (10, true)⟩ hHeld ?_
              try simp only [Act.put, List.setIfInBounds_toArray, List.set_cons_zero, List.set_cons_succ]
              refine tkN 19 ⟨some 81, .move (.tmp 15), 3, "law.go:53", #[⟨10, .guard⟩], some (10, true)⟩ hHeld ?_
              try simp only [Act.put, List.setIfInBounds_toArray, List.set_cons_zero, List.set_cons_succ]
              refine tkN 20 ⟨some 82, .indexAddr 26 (.tmp 80) (.tmp 81), 0, "law.go:53", #[⟨18, .data⟩, ⟨19, .data⟩, ⟨10, .guard⟩], some (10, true)⟩ hHeld ?_
              try simp only [Act.put, List.setIfInBounds_toArray, List.set_cons_zero, List.set_cons_succ]
              refine tkN 21 ⟨some 83, .load 25 (.tmp 82), 25, "law.go:53", #[⟨20, .data⟩, ⟨10, .guard⟩], some (10, true)⟩ hHeld ?_
              try simp only [Act.put, List.setIfInBounds_toArray, List.set_cons_zero, List.set_cons_succ]
              refine tkN 22 ⟨some 84, .call { callee := .value (.func 12), args := #[.tmp 79, .tmp 83], argTypes := #[3, 25] }, 22, "law.go:53", #[⟨17, .data⟩, ⟨21, .data⟩, ⟨16, .chain⟩, ⟨10, .guard⟩], some (10, true)⟩ hHeld ?_
              try simp only [Act.put, List.setIfInBounds_toArray, List.set_cons_zero, List.set_cons_succ]
              refine tkN 23 ⟨some 85, .call { callee := .value (.func 11), args := #[.tmp 78, .tmp 84], argTypes := #[22, 22] }, 4, "law.go:53", #[⟨16, .data⟩, ⟨22, .data⟩, ⟨22, .chain⟩, ⟨10, .guard⟩], some (10, true)⟩ hHeld ?_
              try simp only [Act.put, List.setIfInBounds_toArray, List.set_cons_zero, List.set_cons_succ]
              refine tkY 24 ⟨some 86, .pick (.tmp 72) (.tmp 85) (.const (.bool false)), 4, "law.go:53", #[⟨10, .data⟩, ⟨23, .data⟩], none⟩ ?v24z23 hHeld ?y24z23 ?r24z23
              case y24z23 => (intro w hSw; (try dsimp only at hSw); go_simp) <;> with_reducible rfl
              try simp only [Act.put, List.setIfInBounds_toArray, List.set_cons_zero, List.set_cons_succ]
              refine wpAnyH_done (by kernel_rfl) ?_ _
              have HE2 : Hid (∃ (i : Nat) (a b : Rc), k + 1 ≤ i ∧ O[i]? = some a ∧ P[i]? = some b ∧ ¬ a = b ∧ hshF size a = hshF size b) := ex_step (F := hshF size) HEx.out HOK.out HPK.out (fun h => h.1 (HSB.out.1 (by trivial)))
              have bN := hbw.trans (b4.mono hbw.size)
              clear hHeld hcells HSm HHx HHy HEx HOK HPK
              go_wp2
              go_roundw
              case rel => first | exact ⟨k + 1, by omega, by go_num, HE2, bN⟩ | ((repeat apply Exists.intro); exact ⟨⟨k + 1, by omega, by go_num, HE2, bN⟩, rfl⟩)
              case measure => simp [intOf]; omega
            | false =>
              refine hK.out _ _ ?_ (fun _ => ?_)
              · exact hHeld
              clear hK K
              try simp only [Act.put, List.setIfInBounds_toArray, List.set_cons_zero, List.set_cons_succ]
              refine tkY 9 ⟨some 71, .unOp .not 4 (.tmp 70), 4, "law.go:53", #[⟨8, .data⟩], none⟩ ?v9z24 hHeld ?y9z24 ?r9z24
              case y9z24 => (intro w hSw; (try dsimp only at hSw); go_simp) <;> with_reducible rfl
              try simp only [Act.put, List.setIfInBounds_toArray, List.set_cons_zero, List.set_cons_succ]
              refine tkY 10 ⟨some 72, .move (.tmp 71), 4, "law.go:53", #[⟨9, .data⟩, ⟨8, .chain⟩], none⟩ ?v10z25 hHeld ?y10z25 ?r10z25
              case y10z25 => (intro w hSw; (try dsimp only at hSw); go_simp) <;> with_reducible rfl
              try simp only [Act.put, List.setIfInBounds_toArray, List.set_cons_zero, List.set_cons_succ]
              refine tkY 11 ⟨some 73, .move (.tmp 0), 3, "law.go:53", #[⟨10, .guard⟩], some (10, true)⟩ ?v11z26 hHeld ?y11z26 ?r11z26
              case y11z26 => (intro w hSw; (try dsimp only at hSw); go_simp) <;> with_reducible rfl
              try simp only [Act.put, List.setIfInBounds_toArray, List.set_cons_zero, List.set_cons_succ]
              refine tkY 12 ⟨some 74, .move (.tmp 2), 26, "law.go:53", #[⟨10, .guard⟩], some (10, true)⟩ ?v12z27 hHeld ?y12z27 ?r12z27
              case y12z27 => (intro w hSw; (try dsimp only at hSw); go_simp) <;> with_reducible rfl
              try simp only [Act.put, List.setIfInBounds_toArray, List.set_cons_zero, List.set_cons_succ]
              refine tkY 13 ⟨some 75, .move (.tmp 15), 3, "law.go:53", #[⟨10, .guard⟩], some (10, true)⟩ ?v13z28 hHeld ?y13z28 ?r13z28
              case y13z28 => (intro w hSw; (try dsimp only at hSw); go_simp) <;> with_reducible rfl
              try simp only [Act.put, List.setIfInBounds_toArray, List.set_cons_zero, List.set_cons_succ]
              refine tkY 14 ⟨some 76, .indexAddr 26 (.tmp 74) (.tmp 75), 0, "law.go:53", #[⟨12, .data⟩, ⟨13, .data⟩, ⟨10, .guard⟩], some (10, true)⟩ ?v14z29 hHeld ?y14z29 ?r14z29
              case y14z29 => (intro w hSw; (try dsimp only at hSw); go_simp) <;> with_reducible rfl
              try simp only [Act.put, List.setIfInBounds_toArray, List.set_cons_zero, List.set_cons_succ]
              refine tkY 15 ⟨some 77, .load 25 (.tmp 76), 25, "law.go:53", #[⟨14, .data⟩, ⟨10, .guard⟩], some (10, true)⟩ ?v15z30 hHeld ?y15z30 ?r15z30
              case y15z30 => (intro w hSw; (try dsimp only at hSw); go_simp) <;> with_reducible rfl
              try simp only [Act.put, List.setIfInBounds_toArray, List.set_cons_zero, List.set_cons_succ]
              refine tkY 17 ⟨some 79, .move (.tmp 0), 3, "law.go:53", #[⟨10, .guard⟩], some (10, true)⟩ ?v17z31 hHeld ?y17z31 ?r17z31
              case y17z31 => (intro w hSw; (try dsimp only at hSw); go_simp) <;> with_reducible rfl
              try simp only [Act.put, List.setIfInBounds_toArray, List.set_cons_zero, List.set_cons_succ]
              refine tkY 18 ⟨some 80, .move (.tmp 3), 26, "law.go:53", #[⟨10, .guard⟩], some (10, true)⟩ ?v18z32 hHeld ?y18z32 ?r18z32
              case y18z32 => (intro w hSw; (try dsimp only at hSw); go_simp) <;> with_reducible rfl
              try simp only [Act.put, List.setIfInBounds_toArray, List.set_cons_zero, List.set_cons_succ]
              refine tkY 19 ⟨some 81, .move (.tmp 15), 3, "law.go:53", #[⟨10, .guard⟩], some (10, true)⟩ ?v19z33 hHeld ?y19z33 ?r19z33
              case y19z33 => (intro w hSw; (try dsimp only at hSw); go_simp) <;> with_reducible rfl
              try simp only [Act.put, List.setIfInBounds_toArray, List.set_cons_zero, List.set_cons_succ]
              refine tkY 20 ⟨some 82, .indexAddr 26 (.tmp 80) (.tmp 81), 0, "law.go:53", #[⟨18, .data⟩, ⟨19, .data⟩, ⟨10, .guard⟩], some (10, true)⟩ ?v20z34 hHeld ?y20z34 ?r20z34
              case y20z34 => (intro w hSw; (try dsimp only at hSw); go_simp) <;> with_reducible rfl
              try simp only [Act.put, List.setIfInBounds_toArray, List.set_cons_zero, List.set_cons_succ]
              refine tkY 21 ⟨some 83, .load 25 (.tmp 82), 25, "law.go:53", #[⟨20, .data⟩, ⟨10, .guard⟩], some (10, true)⟩ ?v21z35 hHeld ?y21z35 ?r21z35
              case y21z35 => (intro w hSw; (try dsimp only at hSw); go_simp) <;> with_reducible rfl
              try simp only [Act.put, List.setIfInBounds_toArray, List.set_cons_zero, List.set_cons_succ]
              refine wpAnyH_ready (rs := [16]) (by kernel_rfl) (by simp) ?_
              refine AllReadyH.cons (o := ⟨some 78, .call { callee := .value (.func 12), args := #[.tmp 73, .tmp 77], argTypes := #[3, 25] }, 22, "law.go:53", #[⟨11, .data⟩, ⟨15, .data⟩, ⟨10, .chain⟩, ⟨10, .guard⟩], some (10, true)⟩) rfl (fun K hK => ?_) AllReadyH.nil
              go_simp
              refine (HHx.out _ b4).mono ?_
              rintro e4 w5 ⟨v5, rfl, k5, b5'⟩
              obtain ⟨p5, c5, rfl⟩ := k5.shape
              have b5 := b4.trans (b5'.mono b4.size)
              replace hHeld := hcells w5 b5
              refine hK.out _ _ ?_ (fun _ => ?_)
              · exact hHeld
              clear hK K
              try simp only [Act.put, List.setIfInBounds_toArray, List.set_cons_zero, List.set_cons_succ]
              refine wpAnyH_ready (rs := [22]) (by kernel_rfl) (by simp) ?_
              refine AllReadyH.cons (o := ⟨some 84, .call { callee := .value (.func 12), args := #[.tmp 79, .tmp 83], argTypes := #[3, 25] }, 22, "law.go:53", #[⟨17, .data⟩, ⟨21, .data⟩, ⟨16, .chain⟩, ⟨10, .guard⟩], some (10, true)⟩) rfl (fun K hK => ?_) AllReadyH.nil
              go_simp
              refine (HHy.out _ b5).mono ?_
              rintro e5 w6 ⟨v6, rfl, k6, b6'⟩
              obtain ⟨p6, c6, rfl⟩ := k6.shape
              have b6 := b5.trans (b6'.mono b5.size)
              replace hHeld := hcells w6 b6
              refine hK.out _ _ ?_ (fun _ => ?_)
              · exact hHeld
              clear hK K
              try simp only [Act.put, List.setIfInBounds_toArray, List.set_cons_zero, List.set_cons_succ]
              refine wpAnyH_ready (rs := [23]) (by kernel_rfl) (by simp) ?_
              refine AllReadyH.cons (o := ⟨some 85, .call { callee := .value (.func 11), args := #[.tmp 78, .tmp 84], argTypes := #[22, 22] }, 4, "law.go:53", #[⟨16, .data⟩, ⟨22, .data⟩, ⟨22, .chain⟩, ⟨10, .guard⟩], some (10, true)⟩) rfl (fun K hK => ?_) AllReadyH.nil
              go_simp
              refine (equal_any _ _ HX HY _ (k5.later b6') k6).mono ?_
              rintro e6 wz ⟨rfl, hwz⟩
              have hwz2 := hwz.symm
              clear hwz
              subst hwz2
              obtain ⟨EB, hEB⟩ : ∃ EB, EB = (HX == HY) := ⟨_, rfl⟩
              rw [← hEB]
              have HEB : Hid (EB = (HX == HY)) := hEB
              clear hEB
              cases EB with
              | true =>
                refine hK.out _ _ ?_ (fun _ => ?_)
                · exact hHeld
                clear hK K
                try simp only [Act.put, List.setIfInBounds_toArray, List.set_cons_zero, List.set_cons_succ]
                refine tkY 24 ⟨some 86, .pick (.tmp 72) (.tmp 85) (.const (.bool false)), 4, "law.go:53", #[⟨10, .data⟩, ⟨23, .data⟩], none⟩ ?v24z36 hHeld ?y24z36 ?r24z36
                case y24z36 => (intro w hSw; (try dsimp only at hSw); go_simp) <;> with_reducible rfl
                try simp only [Act.put, List.setIfInBounds_toArray, List.set_cons_zero, List.set_cons_succ]
                refine wpAnyH_done (by kernel_rfl) ?_ _
                have BB := bw.trans (b6.mono bw.size)
                clear hHeld hcells HSm HHx HHy HEx HOK HPK k5 k6 b4' b5' b6' HSB HEB
                go_wp2_with fail
                refine (skAwake_any _ (hTD.later BB)).mono ?_
                rintro e9 w9 ⟨rfl, b9⟩
                have bf := BB.trans (b9.mono BB.size)
                go_wp2
                go_ret
                exact ⟨rfl, bf⟩
              | false =>
                refine hK.out _ _ ?_ (fun _ => ?_)
                · exact hHeld
                clear hK K
                try simp only [Act.put, List.setIfInBounds_toArray, List.set_cons_zero, List.set_cons_succ]
                refine tkY 24 ⟨some 86, .pick (.tmp 72) (.tmp 85) (.const (.bool false)), 4, "law.go:53", #[⟨10, .data⟩, ⟨23, .data⟩], none⟩ ?v24z37 hHeld ?y24z37 ?r24z37
                case y24z37 => (intro w hSw; (try dsimp only at hSw); go_simp) <;> with_reducible rfl
                try simp only [Act.put, List.setIfInBounds_toArray, List.set_cons_zero, List.set_cons_succ]
                refine wpAnyH_done (by kernel_rfl) ?_ _
                have HEB2 : Hid (¬ HX = HY) := by
                  have := HEB.out
                  show ¬ _
                  intro h
                  rw [h] at this
                  simp at this
                clear k5 k6
                have HE2 : Hid (∃ (i : Nat) (a b : Rc), k + 1 ≤ i ∧ O[i]? = some a ∧ P[i]? = some b ∧ ¬ a = b ∧ hshF size a = hshF size b) := ex_step (F := hshF size) HEx.out HOK.out HPK.out (fun h => HEB2.out (by rw [← HHXe.out, ← HHYe.out]; exact h.2))
                have bN := hbw.trans (b6.mono hbw.size)
                clear hHeld hcells HSm HHx HHy HEx HOK HPK
                go_wp2
                go_roundw
                case rel => first | exact ⟨k + 1, by omega, by go_num, HE2, bN⟩ | ((repeat apply Exists.intro); exact ⟨⟨k + 1, by omega, by go_num, HE2, bN⟩, rfl⟩)
                case measure => simp [intOf]; omega
          · exfalso
            obtain ⟨i, a, b, q1, q2, _⟩ := HEx.out
            have e1 := (List.getElem?_eq_some_iff.1 q2).1
            have e2 := hO1.len.1
            omega

end Go.Proofs.YtpndpmkoegmbkaaDoor

namespace Go.Proofs.YtpndpmkoegmbkaaDoor
open Go.ChangeShapes Go.WideShapes Go.ChangeAt Go.RowKit

set_option maxRecDepth 100000 in
theorem skipOneContract (H : Type) (enc : TypeId × Value → H) (W : World) (base : Nat) (args : Array Value) (ds gs : List (DataW H)) (before : List MemPlace)
    (hval : ∀ (j : Nat) t v, Tryd.f4.params[j]? = some t → args[j]? = some v → Value.okWide Tryd.prog W .any base t v)
    (hW : DataW.Whole enc Tryd.prog Tryd.f4.params.toList Rows.skipOneSpec.vars false W args.toList ds gs before) (hsz0 : (DataW.weightsEach Tryd.prog (Tryd.f4.params.toList ++ (OpenSpec.ofChange Rows.skipOneSpec).bare.plain.varTypes Tryd.prog) (ds ++ gs)).all (· ≤ reachBytes) = true) (hL : laidMetH Tryd.prog Rows.skipOneRow.laid W) :
    Calls Tryd.prog 4 args W fun e W' => ∃ v, e = .returned v ∧ Rows.skipOneSpec.post enc Tryd.prog Tryd.f4 false true false false W args v W' := by
  have hT : Tabs W := tabs_of (laidMet.tail (laidMet.tail hL))
  have hD : TD W := td_of hL
  have hW' := hW
  obtain ⟨p, q, hA0, hV, rfl, hfz, hnd⟩ := hW
  have hA : DataW.TrodAll enc Tryd.prog W 0 (fun _ => true) true Tryd.f4.params.toList args.toList ds p := hA0
  rw [Tryd.params4] at hA hval hsz0
  obtain ⟨v0, vs0, d0, ds0, p0, q0, hargs, rfl, rfl, h0, r0⟩ := trodAll_cons hA
  obtain ⟨v1, vs1, d1, ds1, p1, q1, rfl, rfl, rfl, h1, r1⟩ := trodAll_cons r0
  obtain ⟨v2, vs2, d2, ds2, p2, q2, rfl, rfl, rfl, h2, r2⟩ := trodAll_cons r1
  obtain ⟨v3, vs3, d3, ds3, p3, q3, rfl, rfl, rfl, h3, r3⟩ := trodAll_cons r2
  obtain ⟨v4, vs4, d4, ds4, p4, q4, rfl, rfl, rfl, h4, r4⟩ := trodAll_cons r3
  obtain ⟨rfl, rfl, rfl⟩ := trodAll_nil r4
  obtain rfl : args = #[v0, v1, v2, v3, v4] := by cases args; simp_all
  obtain ⟨rfl, rfl⟩ := trodVars_none hV
  obtain ⟨a0, rfl, rfl, rfl, w0⟩ := open_int Tryd.underlying3 (hval 0 3 v0 rfl rfl) h0
  have k1 := h1
  have lt1 : ∀ x ∈ p1, x.block < W.heap.size := by obtain ⟨m, hm⟩ := k1; exact DataW.trod_lt m _ _ _ hm
  obtain ⟨re1, rt1, rc1, tv1, lv1, kv1, tr1, li1, lk1, rfl, hl1, hm1, hn1⟩ := open_rec (hval 1 25 v1 rfl rfl) h1
  have k2 := h2
  have lt2 : ∀ x ∈ p2, x.block < W.heap.size := by obtain ⟨m, hm⟩ := k2; exact DataW.trod_lt m _ _ _ hm
  obtain ⟨rs2, hl2⟩ := open_recs (hval 2 26 v2 rfl rfl) h2
  have k3 := h3
  have lt3 : ∀ x ∈ p3, x.block < W.heap.size := by obtain ⟨m, hm⟩ := k3; exact DataW.trod_lt m _ _ _ hm
  obtain ⟨rs3, hl3⟩ := open_recs (hval 3 26 v3 rfl rfl) h3
  obtain ⟨a4, rfl, rfl, rfl, w4⟩ := open_int Tryd.underlying3 (hval 4 3 v4 rfl rfl) h4
  clear hA0
  simp only [List.append_nil] at hW'
  refine (skOneWalk a0 ⟨re1, rt1, rc1, tr1, li1, lk1⟩ tv1 lv1 kv1 v2 v3 rs2 rs3 a4 W hl1 hm1 hn1 hl2 hl3 hD hT).mono fun e W' ⟨he, bel⟩ => ?_
  subst he
  exact ⟨_, rfl, _, _, _, [], _, [], hW', trodAll_mk1 (shut_bool Tryd.underlying4 _), (trodAll_cons_mk (shut_int Tryd.underlying3 w0) (trodAll_cons_mk (Below.trod laidOut (by kernel_rfl) (of_decide_eq_true (by kernel_rfl)) k1 bel lt1) (trodAll_cons_mk (Below.trod laidOut (by kernel_rfl) (of_decide_eq_true (by kernel_rfl)) k2 bel lt2) (trodAll_cons_mk (Below.trod laidOut (by kernel_rfl) (of_decide_eq_true (by kernel_rfl)) k3 bel lt3) (trodAll_cons_mk (shut_int Tryd.underlying3 w4) trodAll_mk0))))), rfl, bel.frame _, fun h => by cases h⟩

theorem skipOneMet (os : Os) : laidMet Tryd.prog Rows.skipOneRow.laid (({ World.holding Tryd.prog os ⟨#[], #[], []⟩ with heap := (((((((((World.holding Tryd.prog os ⟨#[], #[], []⟩).heap).modify 0 fun | .cells _ t frozen => .cells tab32Cells t frozen | o => o)).modify 1 fun | .cells _ t frozen => .cells tab64Cells t frozen | o => o)).modify 2 fun | .cells _ t frozen => .cells startCells t frozen | o => o)).modify 3 fun | .cells _ t frozen => .cells roundsCells t frozen | o => o) } : World).forCall (fun _ _ => 0) ⟨#[], #[.int .i64 0, .agg #[.int .i64 0, .int .i64 0, .slice none 0 0, .int .i64 0, .slice none 0 0, .slice none 0 0], .slice none 0 0, .slice none 0 0, .int .i64 0], []⟩).memory :=
  laidMet_of_run' 8 (by kernel_rfl) (by kernel_rfl)
theorem skipOneReads (os : Os) {H : Type} (enc : TypeId × Value → H) : ∃ places, DataW.whole enc Tryd.prog (({ World.holding Tryd.prog os ⟨#[], #[], []⟩ with heap := (((((((((World.holding Tryd.prog os ⟨#[], #[], []⟩).heap).modify 0 fun | .cells _ t frozen => .cells tab32Cells t frozen | o => o)).modify 1 fun | .cells _ t frozen => .cells tab64Cells t frozen | o => o)).modify 2 fun | .cells _ t frozen => .cells startCells t frozen | o => o)).modify 3 fun | .cells _ t frozen => .cells roundsCells t frozen | o => o) } : World).forCall (fun _ _ => 0) ⟨#[], #[.int .i64 0, .agg #[.int .i64 0, .int .i64 0, .slice none 0 0, .int .i64 0, .slice none 0 0, .slice none 0 0], .slice none 0 0, .slice none 0 0, .int .i64 0], []⟩).memory Tryd.f4.params.toList Rows.skipOneSpec.vars false (#[.int .i64 0, .agg #[.int .i64 0, .int .i64 0, .slice none 0 0, .int .i64 0, .slice none 0 0, .slice none 0 0], .slice none 0 0, .slice none 0 0, .int .i64 0] : Array Value).toList 8 = some ([.lit (.int .i64 0), .agg [.lit (.int .i64 0), .lit (.int .i64 0), .nil, .lit (.int .i64 0), .nil, .nil], .nil, .nil, .lit (.int .i64 0)], [], places) :=
  ⟨[], by kernel_rfl⟩

set_option maxRecDepth 100000 in
theorem skipOneLifted (os : Os) (started : os.Started) (H : Type) (enc : TypeId × Value → H) (F : Stop.Interp) :
    ReturnsInHanded {} Tryd.checked os 4 .any ((OpenSpec.ofChange Rows.skipOneSpec).preRow enc Tryd.prog Tryd.f4 Rows.skipOneRow.domain false Rows.skipOneRow.laid) (((OpenSpec.ofChange Rows.skipOneSpec).at F).post enc Tryd.prog Tryd.f4 false true false false) := by
  obtain ⟨places, hx⟩ := skipOneReads os enc
  refine returnsInHanded_of_row (C := Tryd.checked) (s := OpenSpec.ofChange Rows.skipOneSpec) own started (by kernel_rfl) Tryd.func4
    (witness_row_at (enc := enc) (C := Tryd.checked) false ({ World.holding Tryd.prog os ⟨#[], #[], []⟩ with heap := (((((((((World.holding Tryd.prog os ⟨#[], #[], []⟩).heap).modify 0 fun | .cells _ t frozen => .cells tab32Cells t frozen | o => o)).modify 1 fun | .cells _ t frozen => .cells tab64Cells t frozen | o => o)).modify 2 fun | .cells _ t frozen => .cells startCells t frozen | o => o)).modify 3 fun | .cells _ t frozen => .cells roundsCells t frozen | o => o) } : World) #[.int .i64 0, .agg #[.int .i64 0, .int .i64 0, .slice none 0 0, .int .i64 0, .slice none 0 0, .slice none 0 0], .slice none 0 0, .slice none 0 0, .int .i64 0] rfl (by kernel_rfl) (by kernel_rfl) (by kernel_rfl)
      (OpenSpec.preRow_of_cond 8 hx (by kernel_rfl) (fun k hk => by cases hk) (by kernel_rfl) (skipOneMet os))) ?_
  intro W base args ds gs before hval hW _ _ hsz hL _ _
  exact skipOneContract H enc W base args ds gs before hval hW hsz hL

theorem skipOneSaid_holds : Rows.SkipOneSaid :=
  OpenClaim.holds_of_cond 4 Tryd.f4 rfl rfl rfl rfl rfl rfl rfl ⟨rfl, rfl, rfl, rfl, rfl⟩ rfl rfl rfl rfl rfl (by kernel_rfl) Tryd.func4 (by kernel_rfl)
    (of_decide_eq_true (by kernel_rfl)) (by unfold Func.isWrapper; first | (rw [if_pos (by decide +kernel)]; kernel_rfl) | (rw [if_neg (by decide +kernel)]; exact ⟨rfl, rfl⟩))
    (fun os started H enc _ F => by rw [OpenClaim.pre_eq_preRow]; exact skipOneLifted os started H enc F)

theorem skipOnePlain (f : FuncId) (fn : Func) (hf : Tryd.pinned.checked.prog.funcNamed "annals/annalslaw14.SkipOne" = some f) (hfn : Tryd.pinned.checked.prog.funcs[f]? = some fn) :
    false = Tryd.pinned.checked.prog.looks [] ∧ ∀ (j : Nat) t, fn.params[j]? = some t → Tryd.pinned.checked.prog.wantsStandIn t = false := by
  obtain rfl : f = 4 := Option.some.inj ((show Tryd.prog.funcNamed "annals/annalslaw14.SkipOne" = some 4 by kernel_rfl).symm.trans hf) |>.symm
  obtain rfl : fn = Tryd.f4 := (Option.some.inj (Tryd.func4.symm.trans hfn)).symm
  refine ⟨by kernel_rfl, fun j t ht => ?_⟩
  rw [Tryd.params4] at ht
  have hm : t = 3 ∨ t = 25 ∨ t = 26 ∨ t = 26 ∨ t = 3 := by simpa using Array.mem_of_getElem? ht
  rcases hm with rfl | rfl | rfl | rfl | rfl
  · exact (show Tryd.prog.wantsStandIn 3 = false by kernel_rfl)
  · exact (show Tryd.prog.wantsStandIn 25 = false by kernel_rfl)
  · exact (show Tryd.prog.wantsStandIn 26 = false by kernel_rfl)
  · exact (show Tryd.prog.wantsStandIn 26 = false by kernel_rfl)
  · exact (show Tryd.prog.wantsStandIn 3 = false by kernel_rfl)

theorem skipOne_holds : Rows.SkipOneCardSaid :=
  Claim7.holds_tied_plain_at .later [] _ _ _ _ skipOneSaid_holds (fun _ h => by cases h) (by kernel_rfl) (fun _ h => by cases h) skipOne_row_tie rfl ⟨rfl, rfl⟩ (by kernel_rfl) rfl skipOnePlain (by kernel_rfl)

#print axioms skipOne_holds
end Go.Proofs.YtpndpmkoegmbkaaDoor
