/- What this text proves: laws for a walk, over any program: the beginning of a region that draws its order, its operations counted; an operation that yields, and one whose guard is not met, taken first. What this text proves: the walk of the document's Same (annalsref12) over this program, at two batches that hold the same: true. (By program: held.py, mkcsame.py.) What this text proves: the walk of annalsref25.Same over this program, at two requests that hold the same: true. -/
import Derived.Test.YthkgbgkijdeaoaaVocab
import Derived.Deep.RegionHeld3
import Derived.Test.YthkgbgkijdeaoaaBVocab
import Derived.Test.YthkgbgkijdeaoaaOwn
namespace Go.Proofs.Ythkgbgkijdeaoaa
open Go.RowKit

theorem wp_region_heldN {P : Program} {id : Nat} {ops : Array Oper} {Q : Exit → Act → World → Prop} {a : Act} {w : World} (hm : P.follows .mixedOrders = true) (S : World → Prop) (n : Nat) (hn : ops.size = n)
    (h : wpAnyH P .any ops Q S n (Array.replicate n false) a w.drew) : (Code.region id ops true).wp P Q a w := by
  subst hn
  exact wp_region_held hm h

theorem tkN {P : Program} {md : Region.Mode} {ops : Array Oper} {Q : Exit → Act → World → Prop} {S : World → Prop} {fuel : Nat} {listed : Array Bool} {a : Act} {w : World} (i : Nat) (oi : Oper) (hS : S w)
    (h : wpAnyH P md ops Q S fuel (listed.setIfInBounds i true) (a.put oi.dst undef) w) (hi : ops[i]? = some oi := by rfl) (hs : Region.noSelect ops = true := by kernel_rfl)
    (hf : Region.free md ops listed i = true := by kernel_rfl) (hr : (Region.ready md ops listed).contains i = true := by kernel_rfl)
    (hQ : ∀ c a w, Q (.panic c) (a.put oi.dst undef) w → Q (.panic c) a w := by exact fun _ _ _ h => h)
    (hw : Region.wanted oi (yielded ops a.tmps) = false := by rfl) : wpAnyH P md ops Q S (fuel + 1) listed a w :=
  wpAnyH_take hi hs hf hr hQ (Or.inr ⟨hw, rfl⟩) hS h

theorem tkY {P : Program} {md : Region.Mode} {ops : Array Oper} {Q : Exit → Act → World → Prop} {S : World → Prop} {fuel : Nat} {listed : Array Bool} {a : Act} {w : World} (i : Nat) (oi : Oper) (v : Value) (hS : S w)
    (hy : ∀ w, S w → (execOp a.eval oi).run P w = .ok (.value v) w)
    (h : wpAnyH P md ops Q S fuel (listed.setIfInBounds i true) (a.put oi.dst v) w) (hi : ops[i]? = some oi := by rfl) (hs : Region.noSelect ops = true := by kernel_rfl)
    (hf : Region.free md ops listed i = true := by kernel_rfl) (hr : (Region.ready md ops listed).contains i = true := by kernel_rfl)
    (hQ : ∀ c a w, Q (.panic c) (a.put oi.dst v) w → Q (.panic c) a w := by exact fun _ _ _ h => h)
    (hw : Region.wanted oi (yielded ops a.tmps) = true := by rfl) : wpAnyH P md ops Q S (fuel + 1) listed a w :=
  wpAnyH_take hi hs hf hr hQ (Or.inl ⟨hw, hy⟩) hS h

end Go.Proofs.Ythkgbgkijdeaoaa

namespace Go.Proofs.Ythkgbgkijdeaoaa
open Go.RowKit

set_option maxRecDepth 100000 in
set_option maxHeartbeats 8000000 in
theorem csame_true (u v : Value) (bs : List (List UInt8 × List UInt8)) (w : World) (h1 : BA w u bs) (h2 : BA w v bs) :
    Calls Try.prog 36 #[u, v] w fun x w' => x = .returned (.bool true) ∧ Below w.heap.size w w' := by
  obtain ⟨p1, c1, rfl⟩ := h1.shape
  obtain ⟨p2, c2, rfl⟩ := h2.shape
  have m1 := h1.len.2
  unfold maxLen at m1
  go_enter Try.func36, Try.ntmps36
  go_wp2
  go_loopw [13] (fun j wr => ∃ k : Nat, k ≤ bs.length ∧ j = .int .i64 k ∧ Below w.heap.size w wr) (fun j _ => bs.length - (intOf j).toNat)
  case atStart => exact ⟨0, Nat.zero_le _, rfl, Below.refl _ _⟩
  case round =>
    obtain ⟨k, hk, rfl, hbe⟩ := hrel
    by_cases hlt : k < bs.length
    · obtain ⟨b1, o1, rfl⟩ := h1.addr (by omega)
      obtain ⟨b2, o2, rfl⟩ := h2.addr (by omega)
      have bD := hbe.drew
      obtain ⟨x, q1, d1, q2, d2, hx, a1, a2, a3, a4⟩ := (h1.later bD).get k hlt
      obtain ⟨y, q3, d3, q4, d4, hy, e1, e2, e3, e4⟩ := (h2.later bD).get k hlt
      have exy : y = x := by
        have := hy.out
        rw [hx.out] at this
        exact (Option.some.inj this).symm
      subst exy
      have hlt2 : (k : Int) < (bs.length : Int) := by omega
      have hHeld : wr.drew.cell? ⟨b1, o1 + k * 2, none⟩ = some (.slice q1 y.1.length d1) ∧ wr.drew.cell? ⟨b1, o1 + k * 2 + 1, none⟩ = some (.slice q2 y.2.length d2) ∧ wr.drew.cell? ⟨b2, o2 + k * 2, none⟩ = some (.slice q3 y.1.length d3) ∧ wr.drew.cell? ⟨b2, o2 + k * 2 + 1, none⟩ = some (.slice q4 y.2.length d4) ∧ HB wr.drew (.slice q1 y.1.length d1) y.1 ∧ HB wr.drew (.slice q3 y.1.length d3) y.1 ∧ HB wr.drew (.slice q2 y.2.length d2) y.2 ∧ HB wr.drew (.slice q4 y.2.length d4) y.2 := ⟨a1, a2, e1, e2, a3, e3, a4, e4⟩
      clear hx hy a1 a2 a3 a4 e1 e2 e3 e4 bD
      go_wp2
      refine wp_region_heldN (by kernel_rfl) (fun W => W.cell? ⟨b1, o1 + k * 2, none⟩ = some (.slice q1 y.1.length d1) ∧ W.cell? ⟨b1, o1 + k * 2 + 1, none⟩ = some (.slice q2 y.2.length d2) ∧ W.cell? ⟨b2, o2 + k * 2, none⟩ = some (.slice q3 y.1.length d3) ∧ W.cell? ⟨b2, o2 + k * 2 + 1, none⟩ = some (.slice q4 y.2.length d4) ∧ HB W (.slice q1 y.1.length d1) y.1 ∧ HB W (.slice q3 y.1.length d3) y.1 ∧ HB W (.slice q2 y.2.length d2) y.2 ∧ HB W (.slice q4 y.2.length d4) y.2) 28 rfl ?_
      refine tkY 0 ⟨some 16, .move (.tmp 0), 23, "ref.go:80", #[], none⟩ ?v0z1 hHeld ?y0z1 ?r0z1
      case y0z1 => (intro w hSw; (try dsimp only at hSw); go_simp) <;> with_reducible rfl
      try simp only [Act.put, List.setIfInBounds_toArray, List.set_cons_zero, List.set_cons_succ]
      refine tkY 1 ⟨some 17, .move (.tmp 5), 3, "ref.go:80", #[], none⟩ ?v1z2 hHeld ?y1z2 ?r1z2
      case y1z2 => (intro w hSw; (try dsimp only at hSw); go_simp) <;> with_reducible rfl
      try simp only [Act.put, List.setIfInBounds_toArray, List.set_cons_zero, List.set_cons_succ]
      refine tkY 2 ⟨some 18, .indexAddr 23 (.tmp 16) (.tmp 17), 0, "ref.go:80", #[⟨0, .data⟩, ⟨1, .data⟩], none⟩ ?v2z3 hHeld ?y2z3 ?r2z3
      case y2z3 => (intro w hSw; (try dsimp only at hSw); go_simp) <;> with_reducible rfl
      try simp only [Act.put, List.setIfInBounds_toArray, List.set_cons_zero, List.set_cons_succ]
      refine tkY 3 ⟨some 19, .fieldAddr 92 (.tmp 18) 0, 0, "ref.go:80", #[⟨2, .data⟩], none⟩ ?v3z4 hHeld ?y3z4 ?r3z4
      case y3z4 => (intro w hSw; (try dsimp only at hSw); go_simp) <;> with_reducible rfl
      try simp only [Act.put, List.setIfInBounds_toArray, List.set_cons_zero, List.set_cons_succ]
      refine tkY 4 ⟨some 20, .load 22 (.tmp 19), 22, "ref.go:80", #[⟨3, .data⟩], none⟩ ?v4z5 hHeld ?y4z5 ?r4z5
      case y4z5 => (intro w hSw; (try dsimp only at hSw); go_simp) <;> with_reducible rfl
      try simp only [Act.put, List.setIfInBounds_toArray, List.set_cons_zero, List.set_cons_succ]
      refine tkY 5 ⟨some 21, .convert 22 9 (.tmp 20), 9, "ref.go:80", #[⟨4, .data⟩], none⟩ ?v5z6 hHeld ?y5z6 ?r5z6
      case y5z6 => (intro w hSw; (try dsimp only at hSw); obtain ⟨_, _, _, _, qq, _, _, _⟩ := hSw; have qs := qq.str (P := Try.prog) 22 5 9 Try.underlying22 Try.underlying5 Try.underlying9; go_simp) <;> with_reducible rfl
      try simp only [Act.put, List.setIfInBounds_toArray, List.set_cons_zero, List.set_cons_succ]
      refine tkY 6 ⟨some 22, .move (.tmp 1), 23, "ref.go:80", #[], none⟩ ?v6z7 hHeld ?y6z7 ?r6z7
      case y6z7 => (intro w hSw; (try dsimp only at hSw); go_simp) <;> with_reducible rfl
      try simp only [Act.put, List.setIfInBounds_toArray, List.set_cons_zero, List.set_cons_succ]
      refine tkY 7 ⟨some 23, .move (.tmp 5), 3, "ref.go:80", #[], none⟩ ?v7z8 hHeld ?y7z8 ?r7z8
      case y7z8 => (intro w hSw; (try dsimp only at hSw); go_simp) <;> with_reducible rfl
      try simp only [Act.put, List.setIfInBounds_toArray, List.set_cons_zero, List.set_cons_succ]
      refine tkY 8 ⟨some 24, .indexAddr 23 (.tmp 22) (.tmp 23), 0, "ref.go:80", #[⟨6, .data⟩, ⟨7, .data⟩], none⟩ ?v8z9 hHeld ?y8z9 ?r8z9
      case y8z9 => (intro w hSw; (try dsimp only at hSw); go_simp) <;> with_reducible rfl
      try simp only [Act.put, List.setIfInBounds_toArray, List.set_cons_zero, List.set_cons_succ]
      refine tkY 9 ⟨some 25, .fieldAddr 92 (.tmp 24) 0, 0, "ref.go:80", #[⟨8, .data⟩], none⟩ ?v9z10 hHeld ?y9z10 ?r9z10
      case y9z10 => (intro w hSw; (try dsimp only at hSw); go_simp) <;> with_reducible rfl
      try simp only [Act.put, List.setIfInBounds_toArray, List.set_cons_zero, List.set_cons_succ]
      refine tkY 10 ⟨some 26, .load 22 (.tmp 25), 22, "ref.go:80", #[⟨9, .data⟩], none⟩ ?v10z11 hHeld ?y10z11 ?r10z11
      case y10z11 => (intro w hSw; (try dsimp only at hSw); go_simp) <;> with_reducible rfl
      try simp only [Act.put, List.setIfInBounds_toArray, List.set_cons_zero, List.set_cons_succ]
      refine tkY 11 ⟨some 27, .convert 22 9 (.tmp 26), 9, "ref.go:80", #[⟨10, .data⟩], none⟩ ?v11z12 hHeld ?y11z12 ?r11z12
      case y11z12 => (intro w hSw; (try dsimp only at hSw); obtain ⟨_, _, _, _, _, qq, _, _⟩ := hSw; have qs := qq.str (P := Try.prog) 22 5 9 Try.underlying22 Try.underlying5 Try.underlying9; go_simp) <;> with_reducible rfl
      try simp only [Act.put, List.setIfInBounds_toArray, List.set_cons_zero, List.set_cons_succ]
      refine tkY 12 ⟨some 28, .binOp .neq 9 (.tmp 21) (.tmp 27) 9, 4, "ref.go:80", #[⟨5, .data⟩, ⟨11, .data⟩], none⟩ ?v12z13 hHeld ?y12z13 ?r12z13
      case y12z13 => (intro w hSw; (try dsimp only at hSw); go_simp) <;> with_reducible rfl
      try simp only [Act.put, List.setIfInBounds_toArray, List.set_cons_zero, List.set_cons_succ]
      refine tkY 13 ⟨some 29, .move (.tmp 28), 4, "ref.go:80", #[⟨12, .data⟩], none⟩ ?v13z14 hHeld ?y13z14 ?r13z14
      case y13z14 => (intro w hSw; (try dsimp only at hSw); go_simp) <;> with_reducible rfl
      try simp only [Act.put, List.setIfInBounds_toArray, List.set_cons_zero, List.set_cons_succ]
      refine tkY 14 ⟨some 30, .move (.tmp 0), 23, "ref.go:80", #[⟨13, .guard⟩], some (13, false)⟩ ?v14z15 hHeld ?y14z15 ?r14z15
      case y14z15 => (intro w hSw; (try dsimp only at hSw); go_simp) <;> with_reducible rfl
      try simp only [Act.put, List.setIfInBounds_toArray, List.set_cons_zero, List.set_cons_succ]
      refine tkY 15 ⟨some 31, .move (.tmp 5), 3, "ref.go:80", #[⟨13, .guard⟩], some (13, false)⟩ ?v15z16 hHeld ?y15z16 ?r15z16
      case y15z16 => (intro w hSw; (try dsimp only at hSw); go_simp) <;> with_reducible rfl
      try simp only [Act.put, List.setIfInBounds_toArray, List.set_cons_zero, List.set_cons_succ]
      refine tkY 16 ⟨some 32, .indexAddr 23 (.tmp 30) (.tmp 31), 0, "ref.go:80", #[⟨14, .data⟩, ⟨15, .data⟩, ⟨13, .guard⟩], some (13, false)⟩ ?v16z17 hHeld ?y16z17 ?r16z17
      case y16z17 => (intro w hSw; (try dsimp only at hSw); go_simp) <;> with_reducible rfl
      try simp only [Act.put, List.setIfInBounds_toArray, List.set_cons_zero, List.set_cons_succ]
      refine tkY 17 ⟨some 33, .fieldAddr 92 (.tmp 32) 1, 0, "ref.go:80", #[⟨16, .data⟩, ⟨13, .guard⟩], some (13, false)⟩ ?v17z18 hHeld ?y17z18 ?r17z18
      case y17z18 => (intro w hSw; (try dsimp only at hSw); go_simp) <;> with_reducible rfl
      try simp only [Act.put, List.setIfInBounds_toArray, List.set_cons_zero, List.set_cons_succ]
      refine tkY 18 ⟨some 34, .load 22 (.tmp 33), 22, "ref.go:80", #[⟨17, .data⟩, ⟨13, .guard⟩], some (13, false)⟩ ?v18z19 hHeld ?y18z19 ?r18z19
      case y18z19 => (intro w hSw; (try dsimp only at hSw); go_simp) <;> with_reducible rfl
      try simp only [Act.put, List.setIfInBounds_toArray, List.set_cons_zero, List.set_cons_succ]
      refine tkY 19 ⟨some 35, .convert 22 9 (.tmp 34), 9, "ref.go:80", #[⟨18, .data⟩, ⟨13, .guard⟩], some (13, false)⟩ ?v19z20 hHeld ?y19z20 ?r19z20
      case y19z20 => (intro w hSw; (try dsimp only at hSw); obtain ⟨_, _, _, _, _, _, qq, _⟩ := hSw; have qs := qq.str (P := Try.prog) 22 5 9 Try.underlying22 Try.underlying5 Try.underlying9; go_simp) <;> with_reducible rfl
      try simp only [Act.put, List.setIfInBounds_toArray, List.set_cons_zero, List.set_cons_succ]
      refine tkY 20 ⟨some 36, .move (.tmp 1), 23, "ref.go:80", #[⟨13, .guard⟩], some (13, false)⟩ ?v20z21 hHeld ?y20z21 ?r20z21
      case y20z21 => (intro w hSw; (try dsimp only at hSw); go_simp) <;> with_reducible rfl
      try simp only [Act.put, List.setIfInBounds_toArray, List.set_cons_zero, List.set_cons_succ]
      refine tkY 21 ⟨some 37, .move (.tmp 5), 3, "ref.go:80", #[⟨13, .guard⟩], some (13, false)⟩ ?v21z22 hHeld ?y21z22 ?r21z22
      case y21z22 => (intro w hSw; (try dsimp only at hSw); go_simp) <;> with_reducible rfl
      try simp only [Act.put, List.setIfInBounds_toArray, List.set_cons_zero, List.set_cons_succ]
      refine tkY 22 ⟨some 38, .indexAddr 23 (.tmp 36) (.tmp 37), 0, "ref.go:80", #[⟨20, .data⟩, ⟨21, .data⟩, ⟨13, .guard⟩], some (13, false)⟩ ?v22z23 hHeld ?y22z23 ?r22z23
      case y22z23 => (intro w hSw; (try dsimp only at hSw); go_simp) <;> with_reducible rfl
      try simp only [Act.put, List.setIfInBounds_toArray, List.set_cons_zero, List.set_cons_succ]
      refine tkY 23 ⟨some 39, .fieldAddr 92 (.tmp 38) 1, 0, "ref.go:80", #[⟨22, .data⟩, ⟨13, .guard⟩], some (13, false)⟩ ?v23z24 hHeld ?y23z24 ?r23z24
      case y23z24 => (intro w hSw; (try dsimp only at hSw); go_simp) <;> with_reducible rfl
      try simp only [Act.put, List.setIfInBounds_toArray, List.set_cons_zero, List.set_cons_succ]
      refine tkY 24 ⟨some 40, .load 22 (.tmp 39), 22, "ref.go:80", #[⟨23, .data⟩, ⟨13, .guard⟩], some (13, false)⟩ ?v24z25 hHeld ?y24z25 ?r24z25
      case y24z25 => (intro w hSw; (try dsimp only at hSw); go_simp) <;> with_reducible rfl
      try simp only [Act.put, List.setIfInBounds_toArray, List.set_cons_zero, List.set_cons_succ]
      refine tkY 25 ⟨some 41, .convert 22 9 (.tmp 40), 9, "ref.go:80", #[⟨24, .data⟩, ⟨13, .guard⟩], some (13, false)⟩ ?v25z26 hHeld ?y25z26 ?r25z26
      case y25z26 => (intro w hSw; (try dsimp only at hSw); obtain ⟨_, _, _, _, _, _, _, qq⟩ := hSw; have qs := qq.str (P := Try.prog) 22 5 9 Try.underlying22 Try.underlying5 Try.underlying9; go_simp) <;> with_reducible rfl
      try simp only [Act.put, List.setIfInBounds_toArray, List.set_cons_zero, List.set_cons_succ]
      refine tkY 26 ⟨some 42, .binOp .neq 9 (.tmp 35) (.tmp 41) 9, 4, "ref.go:80", #[⟨19, .data⟩, ⟨25, .data⟩, ⟨13, .guard⟩], some (13, false)⟩ ?v26z27 hHeld ?y26z27 ?r26z27
      case y26z27 => (intro w hSw; (try dsimp only at hSw); go_simp) <;> with_reducible rfl
      try simp only [Act.put, List.setIfInBounds_toArray, List.set_cons_zero, List.set_cons_succ]
      refine tkY 27 ⟨some 43, .pick (.tmp 29) (.const (.bool true)) (.tmp 42), 4, "ref.go:80", #[⟨13, .data⟩, ⟨26, .data⟩], none⟩ ?v27z28 hHeld ?y27z28 ?r27z28
      case y27z28 => (intro w hSw; (try dsimp only at hSw); go_simp) <;> with_reducible rfl
      try simp only [Act.put, List.setIfInBounds_toArray, List.set_cons_zero, List.set_cons_succ]
      refine wpAnyH_done (by kernel_rfl) ?_ _
      clear hHeld
      go_wp2
      go_roundw
      case rel => first | exact ⟨k + 1, by omega, by go_num, hbe.drew⟩ | ((repeat apply Exists.intro); exact ⟨⟨k + 1, by omega, by go_num, hbe.drew⟩, rfl⟩)
      case measure => simp [intOf]; omega
    · go_wp2
      go_ret
      exact ⟨rfl, hbe⟩

end Go.Proofs.Ythkgbgkijdeaoaa

namespace Go.Proofs.Ythkgbgkijdeaoaa
open Go.RowKit

set_option maxRecDepth 100000 in
set_option maxHeartbeats 8000000 in
theorem aksame_true (k fr to ti ep ix li : Int) (so : Bool) (pa pb : Option Addr) (ca cb : Nat) (id : List UInt8) (u v : Value) (bs : List (List UInt8 × List UInt8)) (w : World) (h1 : HB w (.slice pa id.length ca) id) (h2 : HB w (.slice pb id.length cb) id) (h3 : BA w u bs) (h4 : BA w v bs) :
    Calls Try.prog 13 #[.agg #[.int .i64 k, .slice pa id.length ca, .int .i64 fr, .int .i64 to, .int .i64 ti, .bool so, .int .i64 ep, .int .i64 ix, .int .i64 li, u], .agg #[.int .i64 k, .slice pb id.length cb, .int .i64 fr, .int .i64 to, .int .i64 ti, .bool so, .int .i64 ep, .int .i64 ix, .int .i64 li, v]] w fun e w' => e = .returned (.bool true) ∧ Below w.heap.size w w' := by
  have b0 := (Below.refl w.heap.size w).alloc (Nat.le_refl _) (.cells #[.int .i64 k, .slice pa id.length ca, .int .i64 fr, .int .i64 to, .int .i64 ti, .bool so, .int .i64 ep, .int .i64 ix, .int .i64 li, u] 25)
  have bA := b0.alloc b0.size (.cells #[.int .i64 k, .slice pb id.length cb, .int .i64 fr, .int .i64 to, .int .i64 ti, .bool so, .int .i64 ep, .int .i64 ix, .int .i64 li, v] 25)
  have k1 := (h1.later bA).str (P := Try.prog) 22 5 9 Try.underlying22 Try.underlying5 Try.underlying9
  have k2 := (h2.later bA).str (P := Try.prog) 22 5 9 Try.underlying22 Try.underlying5 Try.underlying9
  have hS := csame_true u v bs _ (h3.later bA) (h4.later bA)
  obtain ⟨pu, cu, rfl⟩ := h3.shape
  obtain ⟨pv, cv, rfl⟩ := h4.shape
  clear h1 h2 h3 h4 b0
  go_enter Try.func13, Try.ntmps13
  go_wp2_with fail
  refine hS.mono ?_
  rintro e w1 ⟨rfl, hb⟩
  have hb2 := bA.trans (hb.mono bA.size)
  clear hS k1 k2 bA hb
  go_wp2
  go_ret
  exact ⟨rfl, hb2⟩

end Go.Proofs.Ythkgbgkijdeaoaa
