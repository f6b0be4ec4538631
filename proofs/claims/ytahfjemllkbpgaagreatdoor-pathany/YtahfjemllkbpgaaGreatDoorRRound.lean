/- What this text proves: the walks of the document's right, word, adds and round (annalsref01) over this program. -/
import Derived.Test.YtahfjemllkbpgaaGreatDoorSum
namespace Go.Proofs.YtahfjemllkbpgaaGreatDoor
open Go.RowKit

theorem right7 (x : UInt32) (w : World) : Calls Tryz.prog 86 #[.int .u32 (x.toNat : Int), .int .i64 7] w fun e w' => e = .returned (.int .u32 ((rotr x 7).toNat : Int)) ∧ ∃ n, w' = w.drewN n := right_any x 7 (by decide) (by decide) w
theorem right18 (x : UInt32) (w : World) : Calls Tryz.prog 86 #[.int .u32 (x.toNat : Int), .int .i64 18] w fun e w' => e = .returned (.int .u32 ((rotr x 18).toNat : Int)) ∧ ∃ n, w' = w.drewN n := right_any x 18 (by decide) (by decide) w
theorem right17 (x : UInt32) (w : World) : Calls Tryz.prog 86 #[.int .u32 (x.toNat : Int), .int .i64 17] w fun e w' => e = .returned (.int .u32 ((rotr x 17).toNat : Int)) ∧ ∃ n, w' = w.drewN n := right_any x 17 (by decide) (by decide) w
theorem right19 (x : UInt32) (w : World) : Calls Tryz.prog 86 #[.int .u32 (x.toNat : Int), .int .i64 19] w fun e w' => e = .returned (.int .u32 ((rotr x 19).toNat : Int)) ∧ ∃ n, w' = w.drewN n := right_any x 19 (by decide) (by decide) w
theorem right6 (x : UInt32) (w : World) : Calls Tryz.prog 86 #[.int .u32 (x.toNat : Int), .int .i64 6] w fun e w' => e = .returned (.int .u32 ((rotr x 6).toNat : Int)) ∧ ∃ n, w' = w.drewN n := right_any x 6 (by decide) (by decide) w
theorem right11 (x : UInt32) (w : World) : Calls Tryz.prog 86 #[.int .u32 (x.toNat : Int), .int .i64 11] w fun e w' => e = .returned (.int .u32 ((rotr x 11).toNat : Int)) ∧ ∃ n, w' = w.drewN n := right_any x 11 (by decide) (by decide) w
theorem right25 (x : UInt32) (w : World) : Calls Tryz.prog 86 #[.int .u32 (x.toNat : Int), .int .i64 25] w fun e w' => e = .returned (.int .u32 ((rotr x 25).toNat : Int)) ∧ ∃ n, w' = w.drewN n := right_any x 25 (by decide) (by decide) w
theorem right2 (x : UInt32) (w : World) : Calls Tryz.prog 86 #[.int .u32 (x.toNat : Int), .int .i64 2] w fun e w' => e = .returned (.int .u32 ((rotr x 2).toNat : Int)) ∧ ∃ n, w' = w.drewN n := right_any x 2 (by decide) (by decide) w
theorem right13 (x : UInt32) (w : World) : Calls Tryz.prog 86 #[.int .u32 (x.toNat : Int), .int .i64 13] w fun e w' => e = .returned (.int .u32 ((rotr x 13).toNat : Int)) ∧ ∃ n, w' = w.drewN n := right_any x 13 (by decide) (by decide) w
theorem right22 (x : UInt32) (w : World) : Calls Tryz.prog 86 #[.int .u32 (x.toNat : Int), .int .i64 22] w fun e w' => e = .returned (.int .u32 ((rotr x 22).toNat : Int)) ∧ ∃ n, w' = w.drewN n := right_any x 22 (by decide) (by decide) w

theorem word_sum (x0 x1 x2 x3 : UInt8) : ((UInt32.ofNat (x0.toNat * 16777216 + x1.toNat * 65536 + x2.toNat * 256 + x3.toNat)).toNat : Int) = (x0.toNat : Int) * 16777216 + (x1.toNat : Int) * 65536 + (x2.toNat : Int) * 256 + (x3.toNat : Int) := by
  have h0 := x0.toNat_lt
  have h1 := x1.toNat_lt
  have h2 := x2.toNat_lt
  have h3 := x3.toNat_lt
  rw [ofNat32 _ (by omega)]
  omega

set_option maxRecDepth 100000 in
set_option maxHeartbeats 400000 in
theorem rword_any (b o n c : Nat) (l : List UInt8) (w : World) (h : HB w (.slice (some ⟨b, o, none⟩) n c) l) (hn : 4 ≤ n) :
    Calls Tryz.prog 85 #[.slice (some ⟨b, o, none⟩) n c] w fun e w' => e = .returned (.int .u32 ((wordAt l 0).toNat : Int)) ∧ ∃ k, w' = w.drewN k := by
  have q0 := h.get 0 (by omega)
  have q1 := h.get 1 (by omega)
  have q2 := h.get 2 (by omega)
  have q3 := h.get 3 (by omega)
  simp only [Nat.add_zero] at q0
  unfold wordAt
  simp only [Nat.mul_zero, Nat.zero_add]
  generalize l.getD 0 0 = x0 at *
  generalize l.getD 1 0 = x1 at *
  generalize l.getD 2 0 = x2 at *
  generalize l.getD 3 0 = x3 at *
  have HS : Hid (((UInt32.ofNat (x0.toNat * 16777216 + x1.toNat * 65536 + x2.toNat * 256 + x3.toNat)).toNat : Int) = (x0.toNat : Int) * 16777216 + (x1.toNat : Int) * 65536 + (x2.toNat : Int) * 256 + (x3.toNat : Int)) := word_sum x0 x1 x2 x3
  have h0 := x0.toNat_lt
  have h1 := x1.toNat_lt
  have h2 := x2.toNat_lt
  have h3 := x3.toNat_lt
  have hn1 : (1 : Int) < (n : Int) := by omega
  have hn2 : (2 : Int) < (n : Int) := by omega
  have hn3 : (3 : Int) < (n : Int) := by omega
  have hn0 : (0 : Int) < (n : Int) := by omega
  clear h
  go_enter Tryz.func85, Tryz.ntmps85
  go_wp2
  go_quiet (fail)
  go_wp2
  go_ret
  refine ⟨ret_int ?_, _, rfl⟩
  rw [HS.out]

theorem rword_gen (v : Value) (l : List UInt8) (w : World) (h : HB w v l) (hn : 4 ≤ l.length) :
    Calls Tryz.prog 85 #[v] w fun e w' => e = .returned (.int .u32 ((wordAt l 0).toNat : Int)) ∧ ∃ k, w' = w.drewN k := by
  obtain ⟨p, c, rfl⟩ := h.shape
  obtain ⟨b, o, rfl, _⟩ := h.addr (by omega)
  exact rword_any b o _ c l w h hn

/-- A round with its two numbers added first. -/
def rndA (s : St) (a : UInt32) : St :=
  ⟨UInt32.ofNat ((UInt32.ofNat (s.h.toNat + (bsig1 s.e).toNat + (chf s.e s.f s.g).toNat + a.toNat)).toNat + (bsig0 s.a).toNat + (majf s.a s.b s.c).toNat), s.a, s.b, s.c, UInt32.ofNat (s.d.toNat + (UInt32.ofNat (s.h.toNat + (bsig1 s.e).toNat + (chf s.e s.f s.g).toNat + a.toNat)).toNat), s.e, s.f, s.g⟩
theorem rndA_eq (s : St) (k w : UInt32) : rndA s (addw k w) = rnd s k w := by
  have e : UInt32.ofNat (s.h.toNat + (bsig1 s.e).toNat + (chf s.e s.f s.g).toNat + (addw k w).toNat) = tOf s k w := by
    apply UInt32.toNat_inj.1
    unfold tOf addw
    rw [ofNat32m, ofNat32m, ofNat32m]
    omega
  unfold rndA rnd
  rw [e]

theorem aA_eq (s : St) (a : UInt32) : ((s.h.toNat : Int) + ((bsig1 s.e).toNat : Int) + ((chf s.e s.f s.g).toNat : Int) + (a.toNat : Int) + ((bsig0 s.a).toNat : Int) + ((majf s.a s.b s.c).toNat : Int)) % 4294967296 = ((rndA s a).a.toNat : Int) := by
  show _ = ((UInt32.ofNat _).toNat : Int)
  rw [ofNat32m, ofNat32m]
  omega
theorem eA_eq (s : St) (a : UInt32) : ((s.d.toNat : Int) + ((s.h.toNat : Int) + ((bsig1 s.e).toNat : Int) + ((chf s.e s.f s.g).toNat : Int) + (a.toNat : Int))) % 4294967296 = ((rndA s a).e.toNat : Int) := by
  show _ = ((UInt32.ofNat _).toNat : Int)
  rw [ofNat32m, ofNat32m]
  omega

set_option maxRecDepth 100000 in
set_option maxHeartbeats 1000000 in
theorem rround_any (s : St) (a : UInt32) (w : World) :
    Calls Tryz.prog 87 #[.agg #[.int .u32 (s.a.toNat : Int), .int .u32 (s.b.toNat : Int), .int .u32 (s.c.toNat : Int), .int .u32 (s.d.toNat : Int), .int .u32 (s.e.toNat : Int), .int .u32 (s.f.toNat : Int), .int .u32 (s.g.toNat : Int), .int .u32 (s.h.toNat : Int)], .int .u32 (a.toNat : Int)] w fun e w' => ∃ M : St, Hid (M = rndA s a) ∧ e = .returned (.agg #[.int .u32 (M.a.toNat : Int), .int .u32 (M.b.toNat : Int), .int .u32 (M.c.toNat : Int), .int .u32 (M.d.toNat : Int), .int .u32 (M.e.toNat : Int), .int .u32 (M.f.toNat : Int), .int .u32 (M.g.toNat : Int), .int .u32 (M.h.toNat : Int)]) ∧ Below w.heap.size w w' := by
  have z0 : AR ((w.alloc (.cells #[.int .u32 (s.a.toNat : Int), .int .u32 (s.b.toNat : Int), .int .u32 (s.c.toNat : Int), .int .u32 (s.d.toNat : Int), .int .u32 (s.e.toNat : Int), .int .u32 (s.f.toNat : Int), .int .u32 (s.g.toNat : Int), .int .u32 (s.h.toNat : Int)] 90)).alloc (.cells #[.int .u32 0, .int .u32 0, .int .u32 0, .int .u32 0, .int .u32 0, .int .u32 0, .int .u32 0, .int .u32 0] 90)) w.heap.size 90 (stL s) := (AR.new w 90 (stL s) _ rfl).alloc _
  have z1 : AR ((w.alloc (.cells #[.int .u32 (s.a.toNat : Int), .int .u32 (s.b.toNat : Int), .int .u32 (s.c.toNat : Int), .int .u32 (s.d.toNat : Int), .int .u32 (s.e.toNat : Int), .int .u32 (s.f.toNat : Int), .int .u32 (s.g.toNat : Int), .int .u32 (s.h.toNat : Int)] 90)).alloc (.cells #[.int .u32 0, .int .u32 0, .int .u32 0, .int .u32 0, .int .u32 0, .int .u32 0, .int .u32 0, .int .u32 0] 90)) (w.heap.size + 1) 90 (List.replicate 8 0) := by
    have := AR.new (w.alloc (.cells #[.int .u32 (s.a.toNat : Int), .int .u32 (s.b.toNat : Int), .int .u32 (s.c.toNat : Int), .int .u32 (s.d.toNat : Int), .int .u32 (s.e.toNat : Int), .int .u32 (s.f.toNat : Int), .int .u32 (s.g.toNat : Int), .int .u32 (s.h.toNat : Int)] 90)) 90 (List.replicate 8 0) _ rfl
    rwa [World.size_alloc] at this
  have zb : Below w.heap.size w ((w.alloc (.cells #[.int .u32 (s.a.toNat : Int), .int .u32 (s.b.toNat : Int), .int .u32 (s.c.toNat : Int), .int .u32 (s.d.toNat : Int), .int .u32 (s.e.toNat : Int), .int .u32 (s.f.toNat : Int), .int .u32 (s.g.toNat : Int), .int .u32 (s.h.toNat : Int)] 90)).alloc (.cells #[.int .u32 0, .int .u32 0, .int .u32 0, .int .u32 0, .int .u32 0, .int .u32 0, .int .u32 0, .int .u32 0] 90)) := ((Below.refl _ w).alloc (Nat.le_refl _) _).alloc (by simp) _
  have hsg : IntKind.u32.signed = false := rfl
  go_enter Tryz.func87, Tryz.ntmps87
  go_wp2
  generalize ((w.alloc (.cells #[.int .u32 (s.a.toNat : Int), .int .u32 (s.b.toNat : Int), .int .u32 (s.c.toNat : Int), .int .u32 (s.d.toNat : Int), .int .u32 (s.e.toNat : Int), .int .u32 (s.f.toNat : Int), .int .u32 (s.g.toNat : Int), .int .u32 (s.h.toNat : Int)] 90)).alloc (.cells #[.int .u32 0, .int .u32 0, .int .u32 0, .int .u32 0, .int .u32 0, .int .u32 0, .int .u32 0, .int .u32 0] 90)) = w1 at *
  obtain ⟨c0, c1, c2, c3, c4, c5, c6, c7, _⟩ := ar8 z0
  go_quiet (first | (go_at_call_of 86 (Value.int IntKind.i64 2); exact Calls.quiet_of (right2 s.a _)) | (go_at_call_of 86 (Value.int IntKind.i64 13); exact Calls.quiet_of (right13 s.a _)) | (go_at_call_of 86 (Value.int IntKind.i64 22); exact Calls.quiet_of (right22 s.a _)))
  rw [bsig0_eq s.a]
  have y0 : AR (w1.drewN nq) w.heap.size 90 (stL s) := z0
  have y1 : AR (w1.drewN nq) (w.heap.size + 1) 90 (List.replicate 8 0) := z1
  have yb : Below w.heap.size w (w1.drewN nq) := below_drewN zb _
  clear z0 z1 zb c0 c1 c2 c3 c4 c5 c6 c7
  generalize w1.drewN nq = w2 at *
  obtain ⟨c0, c1, c2, c3, c4, c5, c6, c7, _⟩ := ar8 y0
  go_wp2
  go_quiet (first | (go_at_call_of 86 (Value.int IntKind.i64 6); exact Calls.quiet_of (right6 s.e _)) | (go_at_call_of 86 (Value.int IntKind.i64 11); exact Calls.quiet_of (right11 s.e _)) | (go_at_call_of 86 (Value.int IntKind.i64 25); exact Calls.quiet_of (right25 s.e _)))
  rw [bsig1_eq s.e]
  have x0 : AR (w2.drewN nq) w.heap.size 90 (stL s) := y0
  have x1 : AR (w2.drewN nq) (w.heap.size + 1) 90 (List.replicate 8 0) := y1
  have xb : Below w.heap.size w (w2.drewN nq) := below_drewN yb _
  clear y0 y1 yb c0 c1 c2 c3 c4 c5 c6 c7
  generalize w2.drewN nq = w3 at *
  obtain ⟨c0, c1, c2, c3, c4, c5, c6, c7, _⟩ := ar8 x0
  go_wp2_with (refine wpList_store_row rfl 90 (.tmp 4) (.tmp 90) rfl (w.heap.size + 1) _ rfl rfl 90 _ x1 ?si ?sh ?sa ?_)
  case si => rw [i8w]; simp
  case sh => simp [wcs]
  case sa => exact all8 _ _ _ _ _ _ _ _
  rw [chf_eq s.e s.f s.g, majf_eq s.a s.b s.c, aA_eq s a, eA_eq s a]
  refine bodyPost_ret ?_ rfl ⟨rndA s a, rfl, rfl, Below.row xb (by omega : w.heap.size ≤ w.heap.size + 1) _⟩
  exact results_cell_row Tryz.results87 _ _ (w.heap.size + 1) 90 _ _ _ rfl (setRow_heap w3 (w.heap.size + 1) _ _ 90 (0, 0) x1) Tryz.underlying90 rfl (by rw [i8w]; simp)

end Go.Proofs.YtahfjemllkbpgaaGreatDoor
