/- What this text proves: plain facts: an entry that is read of bytes, written, is those bytes; it is the only one. What this text proves: ledger's Read and the document's, at any bytes, tell the same. What this text proves: the walk of the document's Same (annalsref12) over this program, at two batches that hold the same: true. (By program: held.py, mkcsame.py.) What this text proves: the walk of the document's Same of entries (annalsref23) over this program, at two and two that are the same. (By program: mklbsame.py.) -/
import Derived.Test.YtcdikkgkjjopmaaGreatDoorJE1
import Derived.Test.YtcdikkgkjjopmaaGreatDoorJP2
import Derived.Test.YtcdikkgkjjopmaaGreatDoorJY2
import Derived.Test.YtcdikkgkjjopmaaGreatDoorJB1
import Derived.Test.YtcdikkgkjjopmaaGreatDoorJA2
namespace Go.Proofs.YtcdikkgkjjopmaaGreatDoor
open Go.RowKit

theorem bdS_bin (mi mk : Int) (l : List UInt8) (e : Int) : ∀ k, (bdS mi mk l e k).2.2 = 0 → e = 0 ∧ l = binL (bdS mi mk l e k).1 ++ (bdS mi mk l e k).2.1 := by
  intro k
  induction k with
  | zero => intro h; exact ⟨h, rfl⟩
  | succ k ih =>
    intro h
    simp only [bdS] at h ⊢
    obtain ⟨h1, h2⟩ := rdBz h
    obtain ⟨h3, h4⟩ := rdBz h1
    obtain ⟨h5, h6⟩ := ih h3
    refine ⟨h5, ?_⟩
    rw [binL_snoc]
    simp only [List.append_assoc]
    rw [← h2, ← h4]
    exact h6

theorem crS_wr (mi mk : Int) (b : List UInt8) (bs : List (List UInt8 × List UInt8)) (r : List UInt8) (h : crS mi mk b = (bs, r, 0)) : b = wrL bs ++ r := by
  unfold crS at h
  have h0 : (bdS mi mk (crU b).2.2 (crU b).1 (crU b).2.1).2.2 = 0 := by rw [h]
  obtain ⟨h1, h2⟩ := bdS_bin mi mk _ _ _ h0
  obtain ⟨_, h3⟩ := rdUz (show (rdU b 0 32).1 = 0 from h1)
  change b = numL (crU b).2.1 ++ (crU b).2.2 at h3
  have hl := bdS_len mi mk (crU b).2.2 (crU b).1 (crU b).2.1
  rw [h] at h2 hl
  dsimp only at h2 hl
  unfold wrL
  rw [hl, List.append_assoc, ← h2]
  exact h3

theorem bulk_bin (bs : List (List UInt8 × List UInt8)) : bulkB bs ≤ (binL bs).length := by
  induction bs with
  | nil => simp [bulkB]
  | cons x t ih =>
    rw [binL_cons]
    simp only [bulkB, List.map_cons, List.sum_cons, List.length_append, bytesL]
    unfold bulkB at ih
    omega

theorem lr_back {mi mk : Int} {l : List UInt8} {t : Nat} {bs : List (List UInt8 × List UInt8)} (h : lrOk mi mk l t bs) : entL (t : Int) bs = l ∧ bs.length ≤ 32 ∧ bulkB bs ≤ l.length ∧ ([69] ++ numL (clampN (t : Int))).length ≤ l.length := by
  obtain ⟨L, rst, h1, h2, h3, h4⟩ := h
  have hz : (uintF L 1125899906842624).1 = 0 := by rw [h2]
  obtain ⟨e1, e2, e3⟩ := uintF_back L 1125899906842624 hz
  rw [h2] at e1 e2 e3
  dsimp only at e1 e2 e3
  have e4 := crS_wr mi mk rst bs [] h3
  rw [List.append_nil] at e4
  have ec : clampN (t : Int) = t := by unfold clampN; omega
  have hl : l = [69] ++ numL t ++ wrL bs := by rw [h1, e1, e4]; simp
  have hb := bulk_bin bs
  refine ⟨?_, ?_, ?_, ?_⟩
  · unfold entL; rw [ec, hl]
  · rcases h4 with ⟨_, h⟩ | ⟨_, h⟩ | ⟨_, _, _, h⟩ | ⟨_, _, _, _, h⟩ | ⟨_, h, _⟩
    · cases h
    · cases h
    · cases h
    · cases h
    · exact h
  · rw [hl]
    unfold wrL
    simp only [List.length_append]
    omega
  · rw [ec, hl]
    simp only [List.length_append]
    omega

theorem lr_one {mi mk : Int} {l : List UInt8} {t t' : Nat} {bs bs' : List (List UInt8 × List UInt8)} (h : lrOk mi mk l t bs) (h' : lrOk mi mk l t' bs') : t = t' ∧ bs = bs' := by
  obtain ⟨L, rst, h1, h2, h3, _⟩ := h
  obtain ⟨L', rst', h1', h2', h3', _⟩ := h'
  have e1 := h1.symm.trans h1'
  rw [List.append_cancel_left_eq] at e1
  subst e1
  rw [h2] at h2'
  simp only [Prod.mk.injEq, true_and] at h2'
  obtain ⟨rfl, rfl⟩ := h2'
  rw [h3] at h3'
  simp only [Prod.mk.injEq] at h3'
  exact ⟨rfl, h3'.1⟩

end Go.Proofs.YtcdikkgkjjopmaaGreatDoor

namespace Go.Proofs.YtcdikkgkjjopmaaGreatDoor
open Go.RowKit

theorem lreads_two (s h mi mk ch ar ca pg : Int) (l : List UInt8) (hsz : l.length ≤ 4000000) : ∃ (T : Int) (bs : List (List UInt8 × List UInt8)) (E : Int),
    (∀ v W, HB W v l → Calls Tryz.prog 4 #[.agg #[.int .i64 s, .int .i64 h, .int .i64 mi, .int .i64 mk, .int .i64 ch, .int .i64 ar, .int .i64 ca, .int .i64 pg], v] W fun x w' => ∃ p c, x = .returned (.tuple #[.agg #[.int .i64 T, .slice p bs.length c], .int .i64 E]) ∧ BA w' (.slice p bs.length c) bs ∧ Below W.heap.size W w') ∧
    (∀ v W, HB W v l → Calls Tryz.prog 5 #[.agg #[.int .i64 s, .int .i64 h, .int .i64 mi, .int .i64 mk, .int .i64 ch, .int .i64 ar, .int .i64 ca, .int .i64 pg], v] W fun x w' => ∃ p c, x = .returned (.tuple #[.agg #[.int .i64 T, .slice p bs.length c], .int .i64 E]) ∧ BA w' (.slice p bs.length c) bs ∧ Below W.heap.size W w') ∧
    (E = 0 → entL T bs = l ∧ bs.length ≤ 32 ∧ bulkB bs ≤ l.length ∧ ([69] ++ numL (clampN T)).length ≤ l.length) := by
  by_cases hx : ∃ t bs, lrOk mi mk l t bs
  · obtain ⟨t, bs, hok⟩ := hx
    refine ⟨(t : Int), bs, 0, fun v W hv => (lread_any s h mi mk ch ar ca pg v l W hv hsz).mono ?_, fun v W hv => (rlread_any s h mi mk ch ar ca pg v l W hv hsz).mono ?_, fun _ => lr_back hok⟩
    · rintro x w' (⟨t', bs', p, c, h1, e, hb, hw⟩ | ⟨h1, _⟩)
      · obtain ⟨rfl, rfl⟩ := lr_one hok h1
        exact ⟨p, c, e, hb, hw⟩
      · exact absurd hok (h1 t bs)
    · rintro x w' (⟨t', bs', p, c, h1, e, hb, hw⟩ | ⟨h1, _⟩)
      · obtain ⟨rfl, rfl⟩ := lr_one hok h1
        exact ⟨p, c, e, hb, hw⟩
      · exact absurd hok (h1 t bs)
  · refine ⟨0, [], 90, fun v W hv => (lread_any s h mi mk ch ar ca pg v l W hv hsz).mono ?_, fun v W hv => (rlread_any s h mi mk ch ar ca pg v l W hv hsz).mono ?_, fun h => by cases h⟩
    · rintro x w' (⟨t', bs', p, c, h1, _⟩ | ⟨_, e, hw⟩)
      · exact absurd ⟨t', bs', h1⟩ hx
      · exact ⟨none, 0, e, ⟨none, 0, rfl, Nat.le_refl _, Nat.zero_le _, fun h => absurd rfl h⟩, hw⟩
    · rintro x w' (⟨t', bs', p, c, h1, _⟩ | ⟨_, e, hw⟩)
      · exact absurd ⟨t', bs', h1⟩ hx
      · exact ⟨none, 0, e, ⟨none, 0, rfl, Nat.le_refl _, Nat.zero_le _, fun h => absurd rfl h⟩, hw⟩

end Go.Proofs.YtcdikkgkjjopmaaGreatDoor

namespace Go.Proofs.YtcdikkgkjjopmaaGreatDoor
open Go.RowKit

set_option maxRecDepth 100000 in
set_option maxHeartbeats 8000000 in
theorem csame_true (u v : Value) (bs : List (List UInt8 × List UInt8)) (w : World) (h1 : BA w u bs) (h2 : BA w v bs) :
    Calls Tryz.prog 23 #[u, v] w fun x w' => x = .returned (.bool true) ∧ Below w.heap.size w w' := by
  obtain ⟨p1, c1, rfl⟩ := h1.shape
  obtain ⟨p2, c2, rfl⟩ := h2.shape
  have m1 := h1.len.2
  unfold maxLen at m1
  go_enter Tryz.func23, Tryz.ntmps23
  go_wp2
  go_loopw [13] (fun j wr => ∃ k : Nat, k ≤ bs.length ∧ j = .int .i64 k ∧ Below w.heap.size w wr) (fun j _ => bs.length - (Go.RowKit.intOf j).toNat)
  case atStart => exact ⟨0, Nat.zero_le _, rfl, Below.refl _ _⟩
  case round =>
    obtain ⟨k, hk, rfl, hbe⟩ := hrel
    by_cases hlt : k < bs.length
    · obtain ⟨b1, o1, rfl⟩ := h1.addr (by omega)
      obtain ⟨b2, o2, rfl⟩ := h2.addr (by omega)
      have bD := hbe.drew
      obtain ⟨x, q1, d1, q2, d2, hx, a1, a2, a3, a4⟩ := (h1.later bD).get k hlt
      obtain ⟨y, q3, d3, q4, d4, hy, e1, e2, e3, e4⟩ := (h2.later bD).get k hlt
      have exy : y = x := by
        have := hy.out
        rw [hx.out] at this
        exact (Option.some.inj this).symm
      subst exy
      have hlt2 : (k : Int) < (bs.length : Int) := by omega
      have hHeld : wr.drew.cell? ⟨b1, o1 + k * 2, none⟩ = some (.slice q1 y.1.length d1) ∧ wr.drew.cell? ⟨b1, o1 + k * 2 + 1, none⟩ = some (.slice q2 y.2.length d2) ∧ wr.drew.cell? ⟨b2, o2 + k * 2, none⟩ = some (.slice q3 y.1.length d3) ∧ wr.drew.cell? ⟨b2, o2 + k * 2 + 1, none⟩ = some (.slice q4 y.2.length d4) ∧ HB wr.drew (.slice q1 y.1.length d1) y.1 ∧ HB wr.drew (.slice q3 y.1.length d3) y.1 ∧ HB wr.drew (.slice q2 y.2.length d2) y.2 ∧ HB wr.drew (.slice q4 y.2.length d4) y.2 := ⟨a1, a2, e1, e2, a3, e3, a4, e4⟩
      clear hx hy a1 a2 a3 a4 e1 e2 e3 e4 bD
      go_wp2
      refine wp_region_heldN (by kernel_rfl) (fun W => W.cell? ⟨b1, o1 + k * 2, none⟩ = some (.slice q1 y.1.length d1) ∧ W.cell? ⟨b1, o1 + k * 2 + 1, none⟩ = some (.slice q2 y.2.length d2) ∧ W.cell? ⟨b2, o2 + k * 2, none⟩ = some (.slice q3 y.1.length d3) ∧ W.cell? ⟨b2, o2 + k * 2 + 1, none⟩ = some (.slice q4 y.2.length d4) ∧ HB W (.slice q1 y.1.length d1) y.1 ∧ HB W (.slice q3 y.1.length d3) y.1 ∧ HB W (.slice q2 y.2.length d2) y.2 ∧ HB W (.slice q4 y.2.length d4) y.2) 28 rfl ?_
      refine tkY 0 ⟨some 16, .move (.tmp 0), 24, "ref.go:80", #[], none⟩ ?v0z1 hHeld ?y0z1 ?r0z1
      case y0z1 => (intro w hSw; (try dsimp only at hSw); go_simp) <;> with_reducible rfl
      try simp only [Act.put, List.setIfInBounds_toArray, List.set_cons_zero, List.set_cons_succ]
      refine tkY 1 ⟨some 17, .move (.tmp 5), 3, "ref.go:80", #[], none⟩ ?v1z2 hHeld ?y1z2 ?r1z2
      case y1z2 => (intro w hSw; (try dsimp only at hSw); go_simp) <;> with_reducible rfl
      try simp only [Act.put, List.setIfInBounds_toArray, List.set_cons_zero, List.set_cons_succ]
      refine tkY 2 ⟨some 18, .indexAddr 24 (.tmp 16) (.tmp 17), 0, "ref.go:80", #[⟨0, .data⟩, ⟨1, .data⟩], none⟩ ?v2z3 hHeld ?y2z3 ?r2z3
      case y2z3 => (intro w hSw; (try dsimp only at hSw); go_simp) <;> with_reducible rfl
      try simp only [Act.put, List.setIfInBounds_toArray, List.set_cons_zero, List.set_cons_succ]
      refine tkY 3 ⟨some 19, .fieldAddr 62 (.tmp 18) 0, 0, "ref.go:80", #[⟨2, .data⟩], none⟩ ?v3z4 hHeld ?y3z4 ?r3z4
      case y3z4 => (intro w hSw; (try dsimp only at hSw); go_simp) <;> with_reducible rfl
      try simp only [Act.put, List.setIfInBounds_toArray, List.set_cons_zero, List.set_cons_succ]
      refine tkY 4 ⟨some 20, .load 27 (.tmp 19), 27, "ref.go:80", #[⟨3, .data⟩], none⟩ ?v4z5 hHeld ?y4z5 ?r4z5
      case y4z5 => (intro w hSw; (try dsimp only at hSw); go_simp) <;> with_reducible rfl
      try simp only [Act.put, List.setIfInBounds_toArray, List.set_cons_zero, List.set_cons_succ]
      refine tkY 5 ⟨some 21, .convert 27 9 (.tmp 20), 9, "ref.go:80", #[⟨4, .data⟩], none⟩ ?v5z6 hHeld ?y5z6 ?r5z6
      case y5z6 => (intro w hSw; (try dsimp only at hSw); obtain ⟨_, _, _, _, qq, _, _, _⟩ := hSw; have qs := qq.str (P := Tryz.prog) 27 5 9 Tryz.underlying27 Tryz.underlying5 Tryz.underlying9; go_simp) <;> with_reducible rfl
      try simp only [Act.put, List.setIfInBounds_toArray, List.set_cons_zero, List.set_cons_succ]
      refine tkY 6 ⟨some 22, .move (.tmp 1), 24, "ref.go:80", #[], none⟩ ?v6z7 hHeld ?y6z7 ?r6z7
      case y6z7 => (intro w hSw; (try dsimp only at hSw); go_simp) <;> with_reducible rfl
      try simp only [Act.put, List.setIfInBounds_toArray, List.set_cons_zero, List.set_cons_succ]
      refine tkY 7 ⟨some 23, .move (.tmp 5), 3, "ref.go:80", #[], none⟩ ?v7z8 hHeld ?y7z8 ?r7z8
      case y7z8 => (intro w hSw; (try dsimp only at hSw); go_simp) <;> with_reducible rfl
      try simp only [Act.put, List.setIfInBounds_toArray, List.set_cons_zero, List.set_cons_succ]
      refine tkY 8 ⟨some 24, .indexAddr 24 (.tmp 22) (.tmp 23), 0, "ref.go:80", #[⟨6, .data⟩, ⟨7, .data⟩], none⟩ ?v8z9 hHeld ?y8z9 ?r8z9
      case y8z9 => (intro w hSw; (try dsimp only at hSw); go_simp) <;> with_reducible rfl
      try simp only [Act.put, List.setIfInBounds_toArray, List.set_cons_zero, List.set_cons_succ]
      refine tkY 9 ⟨some 25, .fieldAddr 62 (.tmp 24) 0, 0, "ref.go:80", #[⟨8, .data⟩], none⟩ ?v9z10 hHeld ?y9z10 ?r9z10
      case y9z10 => (intro w hSw; (try dsimp only at hSw); go_simp) <;> with_reducible rfl
      try simp only [Act.put, List.setIfInBounds_toArray, List.set_cons_zero, List.set_cons_succ]
      refine tkY 10 ⟨some 26, .load 27 (.tmp 25), 27, "ref.go:80", #[⟨9, .data⟩], none⟩ ?v10z11 hHeld ?y10z11 ?r10z11
      case y10z11 => (intro w hSw; (try dsimp only at hSw); go_simp) <;> with_reducible rfl
      try simp only [Act.put, List.setIfInBounds_toArray, List.set_cons_zero, List.set_cons_succ]
      refine tkY 11 ⟨some 27, .convert 27 9 (.tmp 26), 9, "ref.go:80", #[⟨10, .data⟩], none⟩ ?v11z12 hHeld ?y11z12 ?r11z12
      case y11z12 => (intro w hSw; (try dsimp only at hSw); obtain ⟨_, _, _, _, _, qq, _, _⟩ := hSw; have qs := qq.str (P := Tryz.prog) 27 5 9 Tryz.underlying27 Tryz.underlying5 Tryz.underlying9; go_simp) <;> with_reducible rfl
      try simp only [Act.put, List.setIfInBounds_toArray, List.set_cons_zero, List.set_cons_succ]
      refine tkY 12 ⟨some 28, .binOp .neq 9 (.tmp 21) (.tmp 27) 9, 4, "ref.go:80", #[⟨5, .data⟩, ⟨11, .data⟩], none⟩ ?v12z13 hHeld ?y12z13 ?r12z13
      case y12z13 => (intro w hSw; (try dsimp only at hSw); go_simp) <;> with_reducible rfl
      try simp only [Act.put, List.setIfInBounds_toArray, List.set_cons_zero, List.set_cons_succ]
      refine tkY 13 ⟨some 29, .move (.tmp 28), 4, "ref.go:80", #[⟨12, .data⟩], none⟩ ?v13z14 hHeld ?y13z14 ?r13z14
      case y13z14 => (intro w hSw; (try dsimp only at hSw); go_simp) <;> with_reducible rfl
      try simp only [Act.put, List.setIfInBounds_toArray, List.set_cons_zero, List.set_cons_succ]
      refine tkY 14 ⟨some 30, .move (.tmp 0), 24, "ref.go:80", #[⟨13, .guard⟩], some (13, false)⟩ ?v14z15 hHeld ?y14z15 ?r14z15
      case y14z15 => (intro w hSw; (try dsimp only at hSw); go_simp) <;> with_reducible rfl
      try simp only [Act.put, List.setIfInBounds_toArray, List.set_cons_zero, List.set_cons_succ]
      refine tkY 15 ⟨some 31, .move (.tmp 5), 3, "ref.go:80", #[⟨13, .guard⟩], some (13, false)⟩ ?v15z16 hHeld ?y15z16 ?r15z16
      case y15z16 => (intro w hSw; (try dsimp only at hSw); go_simp) <;> with_reducible rfl
      try simp only [Act.put, List.setIfInBounds_toArray, List.set_cons_zero, List.set_cons_succ]
      refine tkY 16 ⟨some 32, .indexAddr 24 (.tmp 30) (.tmp 31), 0, "ref.go:80", #[⟨14, .data⟩, ⟨15, .data⟩, ⟨13, .guard⟩], some (13, false)⟩ ?v16z17 hHeld ?y16z17 ?r16z17
      case y16z17 => (intro w hSw; (try dsimp only at hSw); go_simp) <;> with_reducible rfl
      try simp only [Act.put, List.setIfInBounds_toArray, List.set_cons_zero, List.set_cons_succ]
      refine tkY 17 ⟨some 33, .fieldAddr 62 (.tmp 32) 1, 0, "ref.go:80", #[⟨16, .data⟩, ⟨13, .guard⟩], some (13, false)⟩ ?v17z18 hHeld ?y17z18 ?r17z18
      case y17z18 => (intro w hSw; (try dsimp only at hSw); go_simp) <;> with_reducible rfl
      try simp only [Act.put, List.setIfInBounds_toArray, List.set_cons_zero, List.set_cons_succ]
      refine tkY 18 ⟨some 34, .load 27 (.tmp 33), 27, "ref.go:80", #[⟨17, .data⟩, ⟨13, .guard⟩], some (13, false)⟩ ?v18z19 hHeld ?y18z19 ?r18z19
      case y18z19 => (intro w hSw; (try dsimp only at hSw); go_simp) <;> with_reducible rfl
      try simp only [Act.put, List.setIfInBounds_toArray, List.set_cons_zero, List.set_cons_succ]
      refine tkY 19 ⟨some 35, .convert 27 9 (.tmp 34), 9, "ref.go:80", #[⟨18, .data⟩, ⟨13, .guard⟩], some (13, false)⟩ ?v19z20 hHeld ?y19z20 ?r19z20
      case y19z20 => (intro w hSw; (try dsimp only at hSw); obtain ⟨_, _, _, _, _, _, qq, _⟩ := hSw; have qs := qq.str (P := Tryz.prog) 27 5 9 Tryz.underlying27 Tryz.underlying5 Tryz.underlying9; go_simp) <;> with_reducible rfl
      try simp only [Act.put, List.setIfInBounds_toArray, List.set_cons_zero, List.set_cons_succ]
      refine tkY 20 ⟨some 36, .move (.tmp 1), 24, "ref.go:80", #[⟨13, .guard⟩], some (13, false)⟩ ?v20z21 hHeld ?y20z21 ?r20z21
      case y20z21 => (intro w hSw; (try dsimp only at hSw); go_simp) <;> with_reducible rfl
      try simp only [Act.put, List.setIfInBounds_toArray, List.set_cons_zero, List.set_cons_succ]
      refine tkY 21 ⟨some 37, .move (.tmp 5), 3, "ref.go:80", #[⟨13, .guard⟩], some (13, false)⟩ ?v21z22 hHeld ?y21z22 ?r21z22
      case y21z22 => (intro w hSw; (try dsimp only at hSw); go_simp) <;> with_reducible rfl
      try simp only [Act.put, List.setIfInBounds_toArray, List.set_cons_zero, List.set_cons_succ]
      refine tkY 22 ⟨some 38, .indexAddr 24 (.tmp 36) (.tmp 37), 0, "ref.go:80", #[⟨20, .data⟩, ⟨21, .data⟩, ⟨13, .guard⟩], some (13, false)⟩ ?v22z23 hHeld ?y22z23 ?r22z23
      case y22z23 => (intro w hSw; (try dsimp only at hSw); go_simp) <;> with_reducible rfl
      try simp only [Act.put, List.setIfInBounds_toArray, List.set_cons_zero, List.set_cons_succ]
      refine tkY 23 ⟨some 39, .fieldAddr 62 (.tmp 38) 1, 0, "ref.go:80", #[⟨22, .data⟩, ⟨13, .guard⟩], some (13, false)⟩ ?v23z24 hHeld ?y23z24 ?r23z24
      case y23z24 => (intro w hSw; (try dsimp only at hSw); go_simp) <;> with_reducible rfl
      try simp only [Act.put, List.setIfInBounds_toArray, List.set_cons_zero, List.set_cons_succ]
      refine tkY 24 ⟨some 40, .load 27 (.tmp 39), 27, "ref.go:80", #[⟨23, .data⟩, ⟨13, .guard⟩], some (13, false)⟩ ?v24z25 hHeld ?y24z25 ?r24z25
      case y24z25 => (intro w hSw; (try dsimp only at hSw); go_simp) <;> with_reducible rfl
      try simp only [Act.put, List.setIfInBounds_toArray, List.set_cons_zero, List.set_cons_succ]
      refine tkY 25 ⟨some 41, .convert 27 9 (.tmp 40), 9, "ref.go:80", #[⟨24, .data⟩, ⟨13, .guard⟩], some (13, false)⟩ ?v25z26 hHeld ?y25z26 ?r25z26
      case y25z26 => (intro w hSw; (try dsimp only at hSw); obtain ⟨_, _, _, _, _, _, _, qq⟩ := hSw; have qs := qq.str (P := Tryz.prog) 27 5 9 Tryz.underlying27 Tryz.underlying5 Tryz.underlying9; go_simp) <;> with_reducible rfl
      try simp only [Act.put, List.setIfInBounds_toArray, List.set_cons_zero, List.set_cons_succ]
      refine tkY 26 ⟨some 42, .binOp .neq 9 (.tmp 35) (.tmp 41) 9, 4, "ref.go:80", #[⟨19, .data⟩, ⟨25, .data⟩, ⟨13, .guard⟩], some (13, false)⟩ ?v26z27 hHeld ?y26z27 ?r26z27
      case y26z27 => (intro w hSw; (try dsimp only at hSw); go_simp) <;> with_reducible rfl
      try simp only [Act.put, List.setIfInBounds_toArray, List.set_cons_zero, List.set_cons_succ]
      refine tkY 27 ⟨some 43, .pick (.tmp 29) (.const (.bool true)) (.tmp 42), 4, "ref.go:80", #[⟨13, .data⟩, ⟨26, .data⟩], none⟩ ?v27z28 hHeld ?y27z28 ?r27z28
      case y27z28 => (intro w hSw; (try dsimp only at hSw); go_simp) <;> with_reducible rfl
      try simp only [Act.put, List.setIfInBounds_toArray, List.set_cons_zero, List.set_cons_succ]
      refine wpAnyH_done (by kernel_rfl) ?_ _
      clear hHeld
      go_wp2
      go_roundw
      case rel => first | exact ⟨k + 1, by omega, by go_num, hbe.drew⟩ | ((repeat apply Exists.intro); exact ⟨⟨k + 1, by omega, by go_num, hbe.drew⟩, rfl⟩)
      case measure => simp [Go.RowKit.intOf]; omega
    · go_wp2
      go_ret
      exact ⟨rfl, hbe⟩

end Go.Proofs.YtcdikkgkjjopmaaGreatDoor

namespace Go.Proofs.YtcdikkgkjjopmaaGreatDoor
open Go.RowKit

set_option maxRecDepth 100000 in
set_option maxHeartbeats 4000000 in
theorem lsame_two {A B : Nat} {t0 t1 : Int} {u0 u1 v0 v1 : Value} {b0 b1 : List (List UInt8 × List UInt8)} {w : World} (hA : w.heap[A]? = some (.cells #[.int .i64 t0, u0, .int .i64 t1, u1] 26 (0, 0))) (hB : w.heap[B]? = some (.cells #[.int .i64 t0, v0, .int .i64 t1, v1] 26 (0, 0))) (h0 : BA w u0 b0) (k0 : BA w v0 b0) (h1 : BA w u1 b1) (k1 : BA w v1 b1) :
    Calls Tryz.prog 7 #[.slice (some ⟨A, 0, none⟩) 2 2, .slice (some ⟨B, 0, none⟩) 2 2] w fun x w' => x = .returned (.bool true) ∧ Below w.heap.size w w' := by
  have HC : Hid (∀ W, Below w.heap.size w W → (W.cell? ⟨A, 0, none⟩ = some (.int .i64 t0) ∧ W.cell? ⟨A, 1, none⟩ = some u0 ∧ W.cell? ⟨B, 0, none⟩ = some (.int .i64 t0) ∧ W.cell? ⟨B, 1, none⟩ = some v0) ∧ (W.cell? ⟨A, 2, none⟩ = some (.int .i64 t1) ∧ W.cell? ⟨A, 3, none⟩ = some u1 ∧ W.cell? ⟨B, 2, none⟩ = some (.int .i64 t1) ∧ W.cell? ⟨B, 3, none⟩ = some v1)) := by
    intro W hb
    have e1 := (hb.block _ (Array.getElem?_eq_some_iff.1 hA).1).trans hA
    have e2 := (hb.block _ (Array.getElem?_eq_some_iff.1 hB).1).trans hB
    refine ⟨⟨?_, ?_, ?_, ?_⟩, ?_, ?_, ?_, ?_⟩ <;> first | (rw [cell_of_row _ _ _ _ _ _ e1]; rfl) | (rw [cell_of_row _ _ _ _ _ _ e2]; rfl)
  have HS0 : Hid (∀ W, Below w.heap.size w W → Calls Tryz.prog 23 #[u0, v0] W fun x w' => x = .returned (.bool true) ∧ Below W.heap.size W w') := fun W hb => csame_true u0 v0 b0 W (h0.later hb) (k0.later hb)
  have HS1 : Hid (∀ W, Below w.heap.size w W → Calls Tryz.prog 23 #[u1, v1] W fun x w' => x = .returned (.bool true) ∧ Below W.heap.size W w') := fun W hb => csame_true u1 v1 b1 W (h1.later hb) (k1.later hb)
  clear hA hB h0 k0 h1 k1
  go_enter Tryz.func7, Tryz.ntmps7
  go_wp2
  go_loopw [13] (fun j wr => ∃ k : Nat, k ≤ 2 ∧ j = .int .i64 k ∧ Below w.heap.size w wr) (fun j _ => 2 - (Go.RowKit.intOf j).toNat)
  case atStart => exact ⟨0, by omega, rfl, Below.refl _ _⟩
  case round =>
    obtain ⟨k, hk, rfl, hb⟩ := hrel
    have hbd := hb.drew
    have hk3 : k = 0 ∨ k = 1 ∨ k = 2 := by omega
    rcases hk3 with rfl | rfl | rfl
    · have hHeld := (HC.out _ hbd).1
      go_wp2
      refine wp_region_noPanic ?_
      refine wp_region_heldN (by kernel_rfl) (fun w' => w'.cell? ⟨A, 0, none⟩ = some (.int .i64 t0) ∧ w'.cell? ⟨A, 1, none⟩ = some u0 ∧ w'.cell? ⟨B, 0, none⟩ = some (.int .i64 t0) ∧ w'.cell? ⟨B, 1, none⟩ = some v0) 25 rfl ?_
      refine tkY 0 ⟨some 16, .move (.tmp 0), 33, "ref.go:125", #[], none⟩ ?v0z1 hHeld ?y0z1 ?r0z1
      case y0z1 => (intro w hSw; (try dsimp only at hSw); go_simp) <;> with_reducible rfl
      try simp only [Act.put, List.setIfInBounds_toArray, List.set_cons_zero, List.set_cons_succ]
      refine tkY 1 ⟨some 17, .move (.tmp 5), 3, "ref.go:125", #[], none⟩ ?v1z2 hHeld ?y1z2 ?r1z2
      case y1z2 => (intro w hSw; (try dsimp only at hSw); go_simp) <;> with_reducible rfl
      try simp only [Act.put, List.setIfInBounds_toArray, List.set_cons_zero, List.set_cons_succ]
      refine tkY 2 ⟨some 18, .indexAddr 33 (.tmp 16) (.tmp 17), 0, "ref.go:125", #[⟨0, .data⟩, ⟨1, .data⟩], none⟩ ?v2z3 hHeld ?y2z3 ?r2z3
      case y2z3 => (intro w hSw; (try dsimp only at hSw); go_simp) <;> with_reducible rfl
      try simp only [Act.put, List.setIfInBounds_toArray, List.set_cons_zero, List.set_cons_succ]
      refine tkY 3 ⟨some 19, .fieldAddr 26 (.tmp 18) 0, 0, "ref.go:125", #[⟨2, .data⟩], none⟩ ?v3z4 hHeld ?y3z4 ?r3z4
      case y3z4 => (intro w hSw; (try dsimp only at hSw); go_simp) <;> with_reducible rfl
      try simp only [Act.put, List.setIfInBounds_toArray, List.set_cons_zero, List.set_cons_succ]
      refine tkY 4 ⟨some 20, .load 3 (.tmp 19), 3, "ref.go:125", #[⟨3, .data⟩], none⟩ ?v4z5 hHeld ?y4z5 ?r4z5
      case y4z5 => (intro w hSw; (try dsimp only at hSw); go_simp) <;> with_reducible rfl
      try simp only [Act.put, List.setIfInBounds_toArray, List.set_cons_zero, List.set_cons_succ]
      refine tkY 5 ⟨some 21, .move (.tmp 1), 33, "ref.go:125", #[], none⟩ ?v5z6 hHeld ?y5z6 ?r5z6
      case y5z6 => (intro w hSw; (try dsimp only at hSw); go_simp) <;> with_reducible rfl
      try simp only [Act.put, List.setIfInBounds_toArray, List.set_cons_zero, List.set_cons_succ]
      refine tkY 6 ⟨some 22, .move (.tmp 5), 3, "ref.go:125", #[], none⟩ ?v6z7 hHeld ?y6z7 ?r6z7
      case y6z7 => (intro w hSw; (try dsimp only at hSw); go_simp) <;> with_reducible rfl
      try simp only [Act.put, List.setIfInBounds_toArray, List.set_cons_zero, List.set_cons_succ]
      refine tkY 7 ⟨some 23, .indexAddr 33 (.tmp 21) (.tmp 22), 0, "ref.go:125", #[⟨5, .data⟩, ⟨6, .data⟩], none⟩ ?v7z8 hHeld ?y7z8 ?r7z8
      case y7z8 => (intro w hSw; (try dsimp only at hSw); go_simp) <;> with_reducible rfl
      try simp only [Act.put, List.setIfInBounds_toArray, List.set_cons_zero, List.set_cons_succ]
      refine tkY 8 ⟨some 24, .fieldAddr 26 (.tmp 23) 0, 0, "ref.go:125", #[⟨7, .data⟩], none⟩ ?v8z9 hHeld ?y8z9 ?r8z9
      case y8z9 => (intro w hSw; (try dsimp only at hSw); go_simp) <;> with_reducible rfl
      try simp only [Act.put, List.setIfInBounds_toArray, List.set_cons_zero, List.set_cons_succ]
      refine tkY 9 ⟨some 25, .load 3 (.tmp 24), 3, "ref.go:125", #[⟨8, .data⟩], none⟩ ?v9z10 hHeld ?y9z10 ?r9z10
      case y9z10 => (intro w hSw; (try dsimp only at hSw); go_simp) <;> with_reducible rfl
      try simp only [Act.put, List.setIfInBounds_toArray, List.set_cons_zero, List.set_cons_succ]
      refine tkY 10 ⟨some 26, .binOp .neq 3 (.tmp 20) (.tmp 25) 3, 4, "ref.go:125", #[⟨4, .data⟩, ⟨9, .data⟩], none⟩ ?v10z11 hHeld ?y10z11 ?r10z11
      case y10z11 => (intro w hSw; (try dsimp only at hSw); go_simp) <;> with_reducible rfl
      try simp only [Act.put, List.setIfInBounds_toArray, List.set_cons_zero, List.set_cons_succ]
      refine tkY 11 ⟨some 27, .move (.tmp 26), 4, "ref.go:125", #[⟨10, .data⟩], none⟩ ?v11z12 hHeld ?y11z12 ?r11z12
      case y11z12 => (intro w hSw; (try dsimp only at hSw); go_simp) <;> with_reducible rfl
      try simp only [Act.put, List.setIfInBounds_toArray, List.set_cons_zero, List.set_cons_succ]
      refine tkY 12 ⟨some 28, .move (.tmp 0), 33, "ref.go:125", #[⟨11, .guard⟩], some (11, false)⟩ ?v12z13 hHeld ?y12z13 ?r12z13
      case y12z13 => (intro w hSw; (try dsimp only at hSw); go_simp) <;> with_reducible rfl
      try simp only [Act.put, List.setIfInBounds_toArray, List.set_cons_zero, List.set_cons_succ]
      refine tkY 13 ⟨some 29, .move (.tmp 5), 3, "ref.go:125", #[⟨11, .guard⟩], some (11, false)⟩ ?v13z14 hHeld ?y13z14 ?r13z14
      case y13z14 => (intro w hSw; (try dsimp only at hSw); go_simp) <;> with_reducible rfl
      try simp only [Act.put, List.setIfInBounds_toArray, List.set_cons_zero, List.set_cons_succ]
      refine tkY 14 ⟨some 30, .indexAddr 33 (.tmp 28) (.tmp 29), 0, "ref.go:125", #[⟨12, .data⟩, ⟨13, .data⟩, ⟨11, .guard⟩], some (11, false)⟩ ?v14z15 hHeld ?y14z15 ?r14z15
      case y14z15 => (intro w hSw; (try dsimp only at hSw); go_simp) <;> with_reducible rfl
      try simp only [Act.put, List.setIfInBounds_toArray, List.set_cons_zero, List.set_cons_succ]
      refine tkY 15 ⟨some 31, .fieldAddr 26 (.tmp 30) 1, 0, "ref.go:125", #[⟨14, .data⟩, ⟨11, .guard⟩], some (11, false)⟩ ?v15z16 hHeld ?y15z16 ?r15z16
      case y15z16 => (intro w hSw; (try dsimp only at hSw); go_simp) <;> with_reducible rfl
      try simp only [Act.put, List.setIfInBounds_toArray, List.set_cons_zero, List.set_cons_succ]
      refine tkY 16 ⟨some 32, .load 24 (.tmp 31), 24, "ref.go:125", #[⟨15, .data⟩, ⟨11, .guard⟩], some (11, false)⟩ ?v16z17 hHeld ?y16z17 ?r16z17
      case y16z17 => (intro w hSw; (try dsimp only at hSw); go_simp) <;> with_reducible rfl
      try simp only [Act.put, List.setIfInBounds_toArray, List.set_cons_zero, List.set_cons_succ]
      refine tkY 17 ⟨some 33, .move (.tmp 1), 33, "ref.go:125", #[⟨11, .guard⟩], some (11, false)⟩ ?v17z18 hHeld ?y17z18 ?r17z18
      case y17z18 => (intro w hSw; (try dsimp only at hSw); go_simp) <;> with_reducible rfl
      try simp only [Act.put, List.setIfInBounds_toArray, List.set_cons_zero, List.set_cons_succ]
      refine tkY 18 ⟨some 34, .move (.tmp 5), 3, "ref.go:125", #[⟨11, .guard⟩], some (11, false)⟩ ?v18z19 hHeld ?y18z19 ?r18z19
      case y18z19 => (intro w hSw; (try dsimp only at hSw); go_simp) <;> with_reducible rfl
      try simp only [Act.put, List.setIfInBounds_toArray, List.set_cons_zero, List.set_cons_succ]
      refine tkY 19 ⟨some 35, .indexAddr 33 (.tmp 33) (.tmp 34), 0, "ref.go:125", #[⟨17, .data⟩, ⟨18, .data⟩, ⟨11, .guard⟩], some (11, false)⟩ ?v19z20 hHeld ?y19z20 ?r19z20
      case y19z20 => (intro w hSw; (try dsimp only at hSw); go_simp) <;> with_reducible rfl
      try simp only [Act.put, List.setIfInBounds_toArray, List.set_cons_zero, List.set_cons_succ]
      refine tkY 20 ⟨some 36, .fieldAddr 26 (.tmp 35) 1, 0, "ref.go:125", #[⟨19, .data⟩, ⟨11, .guard⟩], some (11, false)⟩ ?v20z21 hHeld ?y20z21 ?r20z21
      case y20z21 => (intro w hSw; (try dsimp only at hSw); go_simp) <;> with_reducible rfl
      try simp only [Act.put, List.setIfInBounds_toArray, List.set_cons_zero, List.set_cons_succ]
      refine tkY 21 ⟨some 37, .load 24 (.tmp 36), 24, "ref.go:125", #[⟨20, .data⟩, ⟨11, .guard⟩], some (11, false)⟩ ?v21z22 hHeld ?y21z22 ?r21z22
      case y21z22 => (intro w hSw; (try dsimp only at hSw); go_simp) <;> with_reducible rfl
      try simp only [Act.put, List.setIfInBounds_toArray, List.set_cons_zero, List.set_cons_succ]
      refine wpAnyH_ready (rs := [22]) (by kernel_rfl) (by simp) ?_
      refine AllReadyH.cons (o := ⟨some 38, .call { callee := .value (.func 23), args := #[.tmp 32, .tmp 37], argTypes := #[24, 24] }, 4, "ref.go:125", #[⟨16, .data⟩, ⟨21, .data⟩, ⟨11, .chain⟩, ⟨11, .guard⟩], some (11, false)⟩) rfl (fun K hK => ?_) AllReadyH.nil
      go_simp
      refine (HS0.out _ hbd).mono ?_
      rintro e w9 ⟨rfl, c9⟩
      have hb9 := hbd.trans (c9.mono hbd.size)
      replace hHeld := (HC.out _ hb9).1
      refine hK.out _ _ ?_ (fun _ => ?_)
      · exact hHeld
      clear hK K
      try simp only [Act.put, List.setIfInBounds_toArray, List.set_cons_zero, List.set_cons_succ]
      refine tkY 23 ⟨some 39, .unOp .not 4 (.tmp 38), 4, "ref.go:125", #[⟨22, .data⟩, ⟨11, .guard⟩], some (11, false)⟩ ?v23z23 hHeld ?y23z23 ?r23z23
      case y23z23 => (intro w hSw; (try dsimp only at hSw); go_simp) <;> with_reducible rfl
      try simp only [Act.put, List.setIfInBounds_toArray, List.set_cons_zero, List.set_cons_succ]
      refine tkY 24 ⟨some 40, .pick (.tmp 27) (.const (.bool true)) (.tmp 39), 4, "ref.go:125", #[⟨11, .data⟩, ⟨23, .data⟩], none⟩ ?v24z24 hHeld ?y24z24 ?r24z24
      case y24z24 => (intro w hSw; (try dsimp only at hSw); go_simp) <;> with_reducible rfl
      try simp only [Act.put, List.setIfInBounds_toArray, List.set_cons_zero, List.set_cons_succ]
      refine wpAnyH_done (by kernel_rfl) ?_ _
      refine NoPanic.normal ?_
      go_wp2
      go_roundw
      case rel => first | exact ⟨1, by omega, rfl, hb9⟩ | ((repeat apply Exists.intro); exact ⟨⟨1, by omega, rfl, hb9⟩, rfl⟩)
      case measure => simp [Go.RowKit.intOf]
    · have hHeld := (HC.out _ hbd).2
      go_wp2
      refine wp_region_noPanic ?_
      refine wp_region_heldN (by kernel_rfl) (fun w' => w'.cell? ⟨A, 2, none⟩ = some (.int .i64 t1) ∧ w'.cell? ⟨A, 3, none⟩ = some u1 ∧ w'.cell? ⟨B, 2, none⟩ = some (.int .i64 t1) ∧ w'.cell? ⟨B, 3, none⟩ = some v1) 25 rfl ?_
      refine tkY 0 ⟨some 16, .move (.tmp 0), 33, "ref.go:125", #[], none⟩ ?v0z25 hHeld ?y0z25 ?r0z25
      case y0z25 => (intro w hSw; (try dsimp only at hSw); go_simp) <;> with_reducible rfl
      try simp only [Act.put, List.setIfInBounds_toArray, List.set_cons_zero, List.set_cons_succ]
      refine tkY 1 ⟨some 17, .move (.tmp 5), 3, "ref.go:125", #[], none⟩ ?v1z26 hHeld ?y1z26 ?r1z26
      case y1z26 => (intro w hSw; (try dsimp only at hSw); go_simp) <;> with_reducible rfl
      try simp only [Act.put, List.setIfInBounds_toArray, List.set_cons_zero, List.set_cons_succ]
      refine tkY 2 ⟨some 18, .indexAddr 33 (.tmp 16) (.tmp 17), 0, "ref.go:125", #[⟨0, .data⟩, ⟨1, .data⟩], none⟩ ?v2z27 hHeld ?y2z27 ?r2z27
      case y2z27 => (intro w hSw; (try dsimp only at hSw); go_simp) <;> with_reducible rfl
      try simp only [Act.put, List.setIfInBounds_toArray, List.set_cons_zero, List.set_cons_succ]
      refine tkY 3 ⟨some 19, .fieldAddr 26 (.tmp 18) 0, 0, "ref.go:125", #[⟨2, .data⟩], none⟩ ?v3z28 hHeld ?y3z28 ?r3z28
      case y3z28 => (intro w hSw; (try dsimp only at hSw); go_simp) <;> with_reducible rfl
      try simp only [Act.put, List.setIfInBounds_toArray, List.set_cons_zero, List.set_cons_succ]
      refine tkY 4 ⟨some 20, .load 3 (.tmp 19), 3, "ref.go:125", #[⟨3, .data⟩], none⟩ ?v4z29 hHeld ?y4z29 ?r4z29
      case y4z29 => (intro w hSw; (try dsimp only at hSw); go_simp) <;> with_reducible rfl
      try simp only [Act.put, List.setIfInBounds_toArray, List.set_cons_zero, List.set_cons_succ]
      refine tkY 5 ⟨some 21, .move (.tmp 1), 33, "ref.go:125", #[], none⟩ ?v5z30 hHeld ?y5z30 ?r5z30
      case y5z30 => (intro w hSw; (try dsimp only at hSw); go_simp) <;> with_reducible rfl
      try simp only [Act.put, List.setIfInBounds_toArray, List.set_cons_zero, List.set_cons_succ]
      refine tkY 6 ⟨some 22, .move (.tmp 5), 3, "ref.go:125", #[], none⟩ ?v6z31 hHeld ?y6z31 ?r6z31
      case y6z31 => (intro w hSw; (try dsimp only at hSw); go_simp) <;> with_reducible rfl
      try simp only [Act.put, List.setIfInBounds_toArray, List.set_cons_zero, List.set_cons_succ]
      refine tkY 7 ⟨some 23, .indexAddr 33 (.tmp 21) (.tmp 22), 0, "ref.go:125", #[⟨5, .data⟩, ⟨6, .data⟩], none⟩ ?v7z32 hHeld ?y7z32 ?r7z32
      case y7z32 => (intro w hSw; (try dsimp only at hSw); go_simp) <;> with_reducible rfl
      try simp only [Act.put, List.setIfInBounds_toArray, List.set_cons_zero, List.set_cons_succ]
      refine tkY 8 ⟨some 24, .fieldAddr 26 (.tmp 23) 0, 0, "ref.go:125", #[⟨7, .data⟩], none⟩ ?v8z33 hHeld ?y8z33 ?r8z33
      case y8z33 => (intro w hSw; (try dsimp only at hSw); go_simp) <;> with_reducible rfl
      try simp only [Act.put, List.setIfInBounds_toArray, List.set_cons_zero, List.set_cons_succ]
      refine tkY 9 ⟨some 25, .load 3 (.tmp 24), 3, "ref.go:125", #[⟨8, .data⟩], none⟩ ?v9z34 hHeld ?y9z34 ?r9z34
      case y9z34 => (intro w hSw; (try dsimp only at hSw); go_simp) <;> with_reducible rfl
      try simp only [Act.put, List.setIfInBounds_toArray, List.set_cons_zero, List.set_cons_succ]
      refine tkY 10 ⟨some 26, .binOp .neq 3 (.tmp 20) (.tmp 25) 3, 4, "ref.go:125", #[⟨4, .data⟩, ⟨9, .data⟩], none⟩ ?v10z35 hHeld ?y10z35 ?r10z35
      case y10z35 => (intro w hSw; (try dsimp only at hSw); go_simp) <;> with_reducible rfl
      try simp only [Act.put, List.setIfInBounds_toArray, List.set_cons_zero, List.set_cons_succ]
      refine tkY 11 ⟨some 27, .move (.tmp 26), 4, "ref.go:125", #[⟨10, .data⟩], none⟩ ?v11z36 hHeld ?y11z36 ?r11z36
      case y11z36 => (intro w hSw; (try dsimp only at hSw); go_simp) <;> with_reducible rfl
      try simp only [Act.put, List.setIfInBounds_toArray, List.set_cons_zero, List.set_cons_succ]
      refine tkY 12 ⟨some 28, .move (.tmp 0), 33, "ref.go:125", #[⟨11, .guard⟩], some (11, false)⟩ ?v12z37 hHeld ?y12z37 ?r12z37
      case y12z37 => (intro w hSw; (try dsimp only at hSw); go_simp) <;> with_reducible rfl
      try simp only [Act.put, List.setIfInBounds_toArray, List.set_cons_zero, List.set_cons_succ]
      refine tkY 13 ⟨some 29, .move (.tmp 5), 3, "ref.go:125", #[⟨11, .guard⟩], some (11, false)⟩ ?v13z38 hHeld ?y13z38 ?r13z38
      case y13z38 => (intro w hSw; (try dsimp only at hSw); go_simp) <;> with_reducible rfl
      try simp only [Act.put, List.setIfInBounds_toArray, List.set_cons_zero, List.set_cons_succ]
      refine tkY 14 ⟨some 30, .indexAddr 33 (.tmp 28) (.tmp 29), 0, "ref.go:125", #[⟨12, .data⟩, ⟨13, .data⟩, ⟨11, .guard⟩], some (11, false)⟩ ?v14z39 hHeld ?y14z39 ?r14z39
      case y14z39 => (intro w hSw; (try dsimp only at hSw); go_simp) <;> with_reducible rfl
      try simp only [Act.put, List.setIfInBounds_toArray, List.set_cons_zero, List.set_cons_succ]
      refine tkY 15 ⟨some 31, .fieldAddr 26 (.tmp 30) 1, 0, "ref.go:125", #[⟨14, .data⟩, ⟨11, .guard⟩], some (11, false)⟩ ?v15z40 hHeld ?y15z40 ?r15z40
      case y15z40 => (intro w hSw; (try dsimp only at hSw); go_simp) <;> with_reducible rfl
      try simp only [Act.put, List.setIfInBounds_toArray, List.set_cons_zero, List.set_cons_succ]
      refine tkY 16 ⟨some 32, .load 24 (.tmp 31), 24, "ref.go:125", #[⟨15, .data⟩, ⟨11, .guard⟩], some (11, false)⟩ ?v16z41 hHeld ?y16z41 ?r16z41
      case y16z41 => (intro w hSw; (try dsimp only at hSw); go_simp) <;> with_reducible rfl
      try simp only [Act.put, List.setIfInBounds_toArray, List.set_cons_zero, List.set_cons_succ]
      refine tkY 17 ⟨some 33, .move (.tmp 1), 33, "ref.go:125", #[⟨11, .guard⟩], some (11, false)⟩ ?v17z42 hHeld ?y17z42 ?r17z42
      case y17z42 => (intro w hSw; (try dsimp only at hSw); go_simp) <;> with_reducible rfl
      try simp only [Act.put, List.setIfInBounds_toArray, List.set_cons_zero, List.set_cons_succ]
      refine tkY 18 ⟨some 34, .move (.tmp 5), 3, "ref.go:125", #[⟨11, .guard⟩], some (11, false)⟩ ?v18z43 hHeld ?y18z43 ?r18z43
      case y18z43 => (intro w hSw; (try dsimp only at hSw); go_simp) <;> with_reducible rfl
      try simp only [Act.put, List.setIfInBounds_toArray, List.set_cons_zero, List.set_cons_succ]
      refine tkY 19 ⟨some 35, .indexAddr 33 (.tmp 33) (.tmp 34), 0, "ref.go:125", #[⟨17, .data⟩, ⟨18, .data⟩, ⟨11, .guard⟩], some (11, false)⟩ ?v19z44 hHeld ?y19z44 ?r19z44
      case y19z44 => (intro w hSw; (try dsimp only at hSw); go_simp) <;> with_reducible rfl
      try simp only [Act.put, List.setIfInBounds_toArray, List.set_cons_zero, List.set_cons_succ]
      refine tkY 20 ⟨some 36, .fieldAddr 26 (.tmp 35) 1, 0, "ref.go:125", #[⟨19, .data⟩, ⟨11, .guard⟩], some (11, false)⟩ ?v20z45 hHeld ?y20z45 ?r20z45
      case y20z45 => (intro w hSw; (try dsimp only at hSw); go_simp) <;> with_reducible rfl
      try simp only [Act.put, List.setIfInBounds_toArray, List.set_cons_zero, List.set_cons_succ]
      refine tkY 21 ⟨some 37, .load 24 (.tmp 36), 24, "ref.go:125", #[⟨20, .data⟩, ⟨11, .guard⟩], some (11, false)⟩ ?v21z46 hHeld ?y21z46 ?r21z46
      case y21z46 => (intro w hSw; (try dsimp only at hSw); go_simp) <;> with_reducible rfl
      try simp only [Act.put, List.setIfInBounds_toArray, List.set_cons_zero, List.set_cons_succ]
      refine wpAnyH_ready (rs := [22]) (by kernel_rfl) (by simp) ?_
      refine AllReadyH.cons (o := ⟨some 38, .call { callee := .value (.func 23), args := #[.tmp 32, .tmp 37], argTypes := #[24, 24] }, 4, "ref.go:125", #[⟨16, .data⟩, ⟨21, .data⟩, ⟨11, .chain⟩, ⟨11, .guard⟩], some (11, false)⟩) rfl (fun K hK => ?_) AllReadyH.nil
      go_simp
      refine (HS1.out _ hbd).mono ?_
      rintro e w9 ⟨rfl, c9⟩
      have hb9 := hbd.trans (c9.mono hbd.size)
      replace hHeld := (HC.out _ hb9).2
      refine hK.out _ _ ?_ (fun _ => ?_)
      · exact hHeld
      clear hK K
      try simp only [Act.put, List.setIfInBounds_toArray, List.set_cons_zero, List.set_cons_succ]
      refine tkY 23 ⟨some 39, .unOp .not 4 (.tmp 38), 4, "ref.go:125", #[⟨22, .data⟩, ⟨11, .guard⟩], some (11, false)⟩ ?v23z47 hHeld ?y23z47 ?r23z47
      case y23z47 => (intro w hSw; (try dsimp only at hSw); go_simp) <;> with_reducible rfl
      try simp only [Act.put, List.setIfInBounds_toArray, List.set_cons_zero, List.set_cons_succ]
      refine tkY 24 ⟨some 40, .pick (.tmp 27) (.const (.bool true)) (.tmp 39), 4, "ref.go:125", #[⟨11, .data⟩, ⟨23, .data⟩], none⟩ ?v24z48 hHeld ?y24z48 ?r24z48
      case y24z48 => (intro w hSw; (try dsimp only at hSw); go_simp) <;> with_reducible rfl
      try simp only [Act.put, List.setIfInBounds_toArray, List.set_cons_zero, List.set_cons_succ]
      refine wpAnyH_done (by kernel_rfl) ?_ _
      refine NoPanic.normal ?_
      go_wp2
      go_roundw
      case rel => first | exact ⟨2, by omega, rfl, hb9⟩ | ((repeat apply Exists.intro); exact ⟨⟨2, by omega, rfl, hb9⟩, rfl⟩)
      case measure => simp [Go.RowKit.intOf]
    · go_wp2
      go_ret
      exact ⟨rfl, hb⟩

end Go.Proofs.YtcdikkgkjjopmaaGreatDoor
