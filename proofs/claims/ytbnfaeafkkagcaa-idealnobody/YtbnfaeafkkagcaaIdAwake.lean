/- What this text proves: the walks of ideal's New, and of annalslaw16's small and awake over this program. -/
import Derived.Test.YtbnfaeafkkagcaaIdDo
import Derived.Lib.SlBytesConst
namespace Go.Proofs.Ytbnfaeafkkagcaa
open Go.RowKit

set_option maxRecDepth 100000 in
set_option maxHeartbeats 400000 in
theorem idSmall_any (w : World) : Calls Try.prog 22 #[] w fun x w' => x = .returned (.agg #[.int .i64 4, .int .i64 2, .int .i64 2, .int .i64 4, .int .i64 10, .int .i64 781, .int .i64 1, .int .i64 3]) ∧ Below w.heap.size w w' := by
  have b0 := (Below.refl w.heap.size w).alloc (Nat.le_refl _) (.cells #[.int .i64 4, .int .i64 2, .int .i64 2, .int .i64 4, .int .i64 10, .int .i64 781, .int .i64 1, .int .i64 3] 28)
  go_enter Try.func22, Try.ntmps22
  go_wp2
  refine bodyPost_ret (v := .agg #[.int .i64 4, .int .i64 2, .int .i64 2, .int .i64 4, .int .i64 10, .int .i64 781, .int .i64 1, .int .i64 3]) ?_ rfl ?_
  · simp only [results, Try.results22]
    go_simp
  · exact ⟨rfl, b0⟩

theorem owns_lit (w : World) (base : Nat) (e : TypeId) (v : Value) (hb : base ≤ w.heap.size) : (w.alloc (.cells #[v] e)).ownsRow base e 1 (.slice (some ⟨w.heap.size, 0, none⟩) 1 1) 1 [v] :=
  ⟨by simp, .inr ⟨w.heap.size, 1, #[v], rfl, hb, heap_alloc_new w _, Nat.le_refl _, by unfold maxLen; omega, rfl, rfl⟩⟩

set_option maxRecDepth 100000 in
set_option maxHeartbeats 800000 in
theorem new_ok (s h mi mk ch ar ca pg : Int) (w : World) (hz : chkV s h mi mk ch ar ca pg = 0) : Calls Try.prog 21 #[.agg #[.int .i64 s, .int .i64 h, .int .i64 mi, .int .i64 mk, .int .i64 ch, .int .i64 ar, .int .i64 ca, .int .i64 pg]] w fun x w' => ∃ g pt ct pb cb, x = .returned (.tuple #[.pointer (some ⟨g, 0, none⟩), .int .i64 0]) ∧ IM w' w.heap.size g s h mi mk ch ar ca pg [0] [.slice none 0 0] 0 pt ct pb cb ∧ Below w.heap.size w w' := by
  have b0 := (Below.refl w.heap.size w).alloc (Nat.le_refl _) (.cells #[.int .i64 s, .int .i64 h, .int .i64 mi, .int .i64 mk, .int .i64 ch, .int .i64 ar, .int .i64 ca, .int .i64 pg] 28)
  have g0 := heap_alloc_new w (.cells #[.int .i64 s, .int .i64 h, .int .i64 mi, .int .i64 mk, .int .i64 ch, .int .i64 ar, .int .i64 ca, .int .i64 pg] 28)
  obtain ⟨V, hV⟩ : ∃ V, w.alloc (.cells #[.int .i64 s, .int .i64 h, .int .i64 mi, .int .i64 mk, .int .i64 ch, .int .i64 ar, .int .i64 ca, .int .i64 pg] 28) = V := ⟨_, rfl⟩
  rw [hV] at b0 g0
  obtain ⟨q0, q1, q2, q3, q4, q5, q6, q7⟩ := par_cells g0
  have hC := chk_any s h mi mk ch ar ca pg V
  rw [hz] at hC
  clear hz
  go_enter Try.func21, Try.ntmps21
  go_wp2_with (first | (go_at_call 36; refine hC.mono ?_; rintro e w1 ⟨rfl, c1⟩; have g1 := (c1.block _ (Array.getElem?_eq_some_iff.1 g0).1).trans g0; obtain ⟨p0, p1, p2, p3, p4, p5, p6, p7⟩ := par_cells g1))
  have bw := b0.trans (c1.mono b0.size)
  have hb : w.heap.size ≤ w1.heap.size := bw.size
  have o1 := owns_lit w1 w.heap.size 3 (.int .i64 0) hb
  have bI := (Below.refl w1.heap.size w1).alloc (Nat.le_refl _) (.cells #[.int .i64 0] 3)
  have sI : (w1.alloc (.cells #[.int .i64 0] 3)).heap.size = w1.heap.size + 1 := by simp
  have o2 := owns_lit (w1.alloc (.cells #[.int .i64 0] 3)) w.heap.size 23 (.slice none 0 0) (by omega)
  have bB := (Below.refl _ (w1.alloc (.cells #[.int .i64 0] 3))).alloc (Nat.le_refl _) (.cells #[.slice none 0 0] 23)
  have sB : ((w1.alloc (.cells #[.int .i64 0] 3)).alloc (.cells #[.slice none 0 0] 23)).heap.size = w1.heap.size + 1 + 1 := by simp
  have o1b := owns_later o1 bB
  have bM := fun o => (Below.refl _ ((w1.alloc (.cells #[.int .i64 0] 3)).alloc (.cells #[.slice none 0 0] 23))).alloc (Nat.le_refl _) o
  have o1c := fun o => owns_later o1b (bM o)
  have o2c := fun o => owns_later o2 (bM o)
  have gM := fun o => heap_alloc_new ((w1.alloc (.cells #[.int .i64 0] 3)).alloc (.cells #[.slice none 0 0] 23)) o
  have bAll := fun o => bw.trans ((bI.trans (bB.mono bI.size)).trans ((bM o).mono (bI.trans (bB.mono bI.size)).size) |>.mono bw.size)
  rw [sI] at o2c
  rw [sB] at gM
  clear o1 o2 o1b
  go_ret2
  refine ⟨_, _, _, _, _, rfl, ⟨gM _, o1c _, o2c _, by omega⟩, bAll _⟩

theorem chk_small : chkV 4 2 2 4 10 781 1 3 = 0 := by decide

theorem hb_blk {W : World} {L : Nat} {fr : Nat × Nat} (h : W.heap[L]? = some (.cells #[.int .u8 97] 5 fr)) : HB W (.slice (some ⟨L, 0, none⟩) 1 1) [97] := by
  refine ⟨_, 1, rfl, Nat.le_refl _, by unfold maxLen; omega, (fun h => by cases h), fun _ => ⟨_, 0, rfl, fun i x hx => ?_⟩⟩
  rw [Nat.zero_add, cell_of_row _ _ i _ _ _ h]
  cases i with
  | zero => simp at hx; subst hx; rfl
  | succ i => simp at hx

theorem ba_lit {W : World} {L M : Nat} {fr : Nat × Nat} (h1 : W.heap[L]? = some (.cells #[.int .u8 97] 5 fr)) (h2 : W.heap[M]? = some (.cells #[.slice (some ⟨L, 0, none⟩) 1 1, .slice none 0 0] 57 (0, 0))) : BA W (.slice (some ⟨M, 0, none⟩) 1 1) [([97], [])] := by
  refine ⟨_, 1, rfl, Nat.le_refl _, by unfold maxLen; omega, fun _ => ⟨_, 0, rfl, fun k x hx => ?_⟩⟩
  cases k with
  | zero =>
    simp at hx
    subst hx
    exact ⟨_, _, _, _, by rw [cell_of_row _ _ _ _ _ _ h2]; rfl, by rw [cell_of_row _ _ _ _ _ _ h2]; rfl, hb_blk h1, HB.nil _⟩
  | succ k => simp at hx

theorem chk_one1 : ChkIs 2 4 [([97], [])] 0 := by
  refine .inr (.inr (.inr (.inr ⟨by simp, by simp, ?_, ?_, rfl⟩)))
  · rintro ⟨x, hx, h⟩
    simp at hx
    subst hx
    simp at h
  · rintro ⟨i, j, x, y, hij, hj, _⟩
    simp at hj
    omega

theorem field2 (a0 a1 a3 a4 a5 a6 a7 a8 : Value) (b : Bool) (w : World) : (Instr.field 38 (.agg #[a0, a1, .bool b, a3, a4, a5, a6, a7, a8]) 2).run Try.prog w = .ok (.bool b) w := by
  simp [Instr.field, run_underlying Try.underlying38, go_sem]
  rfl

theorem field0 (e : Int) (a1 a2 a3 a4 a5 a6 a7 a8 : Value) (w : World) : (Instr.field 38 (.agg #[.int .i64 e, a1, a2, a3, a4, a5, a6, a7, a8]) 0).run Try.prog w = .ok (.int .i64 e) w := by
  simp [Instr.field, run_underlying Try.underlying38, go_sem]
  rfl

set_option maxRecDepth 100000 in
set_option maxHeartbeats 2000000 in
theorem idAwake_any (w : World) : Calls Try.prog 12 #[] w fun x w' => x = .returned (.bool true) ∧ Below w.heap.size w w' := by
  have kc := fun (w : World) (C : Array Value) (n c : Nat) => Lib.run_convert_bytes_const (P := Try.prog) w 22 5 C n c Try.underlying22 Try.underlying5
  have hf2 := fun a0 a1 a3 a4 a5 a6 a7 a8 b w => field2 a0 a1 a3 a4 a5 a6 a7 a8 b w
  have hN := fun W => new_ok 4 2 2 4 10 781 1 3 W chk_small
  go_enter Try.func12, Try.ntmps12
  go_wp2_with (first
    | (go_at_call 22; refine (idSmall_any _).mono ?_; rintro e w0 ⟨rfl, c0⟩)
    | (go_at_call 21; refine (hN _).mono ?_; rintro e w1 ⟨g, pt, ct, pb, cb, rfl, HI, c1⟩)
    | fail)
  have e1 := c0.trans (c1.mono c0.size)
  have bL := (Below.refl w1.heap.size w1).alloc (Nat.le_refl _) (.cells #[.int .u8 97] 5 (1, 2))
  have gL := heap_alloc_new w1 (.cells #[.int .u8 97] 5 (1, 2))
  have sL : (w1.alloc (.cells #[.int .u8 97] 5 (1, 2))).heap.size = w1.heap.size + 1 := by simp
  have bM := (Below.refl _ (w1.alloc (.cells #[.int .u8 97] 5 (1, 2)))).alloc (Nat.le_refl _) (.cells #[.slice (some ⟨w1.heap.size, 0, none⟩) 1 1, .slice none 0 0] 57)
  have gM := heap_alloc_new (w1.alloc (.cells #[.int .u8 97] 5 (1, 2))) (.cells #[.slice (some ⟨w1.heap.size, 0, none⟩) 1 1, .slice none 0 0] 57)
  rw [sL] at gM
  have gL2 := (bM.block _ (Array.getElem?_eq_some_iff.1 gL).1).trans gL
  have bLM := bL.trans (bM.mono bL.size)
  have e2 := e1.trans (bLM.mono e1.size)
  have H2 := HI.later bLM
  have hb2 : w0.heap.size ≤ ((w1.alloc (.cells #[.int .u8 97] 5 (1, 2))).alloc (.cells #[.slice (some ⟨w1.heap.size, 0, none⟩) 1 1, .slice none 0 0] 57)).heap.size := Nat.le_trans c1.size bLM.size
  have hD := do_publish w0.heap.size g 4 2 2 4 10 781 1 3 0 [0] [.slice none 0 0] pt pb ct cb 0 0 0 0 0 0 false (.slice none 0 0) (.slice (some ⟨w1.heap.size + 1, 0, none⟩) 1 1) [([97], [])] ((w1.alloc (.cells #[.int .u8 97] 5 (1, 2))).alloc (.cells #[.slice (some ⟨w1.heap.size, 0, none⟩) 1 1, .slice none 0 0] 57)) H2 hb2 (by decide) (by decide) (by decide)
    (by intro u hu; simp at hu; subst hu; exact ⟨none, 0, 0, rfl, by omega⟩)
    (fun W hk => ba_lit (hk.2 _ _ _ _ gL2 (by decide) (by decide) (by decide)) (hk.2 _ _ _ _ gM (by decide) (by decide) (by decide))) chk_one1 (by decide)
    (by intro x hx; simp at hx; subst hx; simp) (by decide) (by decide)
  clear HI H2 gL gM gL2 bL bM bLM hN sL c1
  have hD2 : Calls Try.prog 5 #[.pointer (some ⟨g, 0, none⟩), .agg #[.int .i64 1, .slice none 0 0, .int .i64 0, .int .i64 0, .int .i64 0, .bool false, .int .i64 0, .int .i64 0, .int .i64 0, .slice (some ⟨w1.heap.size + 1, 0, none⟩) 1 1]] ((w1.alloc (.cells #[.int .u8 97] 5 (1, 2))).alloc (.cells #[.slice (some ⟨w1.heap.size, 0, none⟩) 1 1, .slice none 0 0] 57)) fun x w' => ∃ gR pt' ct' pb' cb', x = .returned (.agg #[.int .i64 0, .int .i64 1, .bool false, .bool false, .slice none 0 0, .int .i64 0, .slice none 0 0, .slice none 0 0, .bool false]) ∧ IM w' w0.heap.size g 4 2 2 4 10 781 1 3 [0, 0] [.slice none 0 0, .slice (some ⟨gR, 0, none⟩) 1 1] 0 pt' ct' pb' cb' ∧ BR w' gR gR 1 [([97], [])] ∧ KP w0.heap.size ((w1.alloc (.cells #[.int .u8 97] 5 (1, 2))).alloc (.cells #[.slice (some ⟨w1.heap.size, 0, none⟩) 1 1, .slice none 0 0] 57)) w' := hD
  clear hD
  refine hD2.mono ?_
  rintro e w2 ⟨gR, pt2, ct2, pb2, cb2, rfl, H3, br3, k3⟩
  have e3 : Below w.heap.size w w2 := e2.trans (k3.1.mono c0.size)
  have b4 := (Below.refl w2.heap.size w2).alloc (Nat.le_refl _) (.cells #[.int .i64 0, .int .i64 1, .bool false, .bool false, .slice none 0 0, .int .i64 0, .slice none 0 0, .slice none 0 0, .bool false] 38)
  have g4 := heap_alloc_new w2 (.cells #[.int .i64 0, .int .i64 1, .bool false, .bool false, .slice none 0 0, .int .i64 0, .slice none 0 0, .slice none 0 0, .bool false] 38)
  have H4 := H3.later b4
  have br4 := br3.tk (TK.of_below (T := 3) b4) (by decide) (by decide)
  have e4 := e3.trans (b4.mono e3.size)
  clear hD2 e1 e2 k3 hb2 H3 br3 b4 e3
  have hCh := changes_ok w0.heap.size g 4 2 2 4 10 781 1 3 [0, 0] [.slice none 0 0, .slice (some ⟨gR, 0, none⟩) 1 1] 0 pt2 ct2 pb2 cb2 _ H4 (by decide) (by simp) (by intro u hu; simp at hu; rcases hu with rfl | rfl; exact ⟨none, 0, 0, rfl, by omega⟩; exact ⟨_, 1, 1, rfl, by omega⟩)
  have hCh2 : Calls Try.prog 7 #[.pointer (some ⟨g, 0, none⟩)] (w2.alloc (.cells #[.int .i64 0, .int .i64 1, .bool false, .bool false, .slice none 0 0, .int .i64 0, .slice none 0 0, .slice none 0 0, .bool false] 38)) fun e w' => e = .returned (.int .i64 1) ∧ w' = w2.alloc (.cells #[.int .i64 0, .int .i64 1, .bool false, .bool false, .slice none 0 0, .int .i64 0, .slice none 0 0, .slice none 0 0, .bool false] 38) := hCh
  clear hCh
  go_wp2_with fail
  refine hCh2.mono ?_
  rintro e w5 ⟨rfl, hw⟩
  subst hw
  clear hCh2
  generalize w2.alloc (.cells #[.int .i64 0, .int .i64 1, .bool false, .bool false, .slice none 0 0, .int .i64 0, .slice none 0 0, .slice none 0 0, .bool false] 38) = W3 at *
  have bL := (Below.refl W3.heap.size W3).alloc (Nat.le_refl _) (.cells #[.int .u8 97] 5 (1, 2))
  have gL := heap_alloc_new W3 (.cells #[.int .u8 97] 5 (1, 2))
  have brL := br4.tk (TK.of_below (T := 3) bL) (by decide) (by decide)
  have hAs := do_asof w0.heap.size g 4 2 2 4 10 781 1 3 [0, 0] [.slice none 0 0, .slice (some ⟨gR, 0, none⟩) 1 1] 0 pt2 ct2 pb2 cb2 _ (H4.later bL) (by decide) (by decide) (.slice (some ⟨W3.heap.size, 0, none⟩) 1 1) (.slice (some ⟨gR, 0, none⟩) 1 1) (.slice none 0 0) [([97], [])] [97] 1 (by decide) (by decide) (by decide) rfl (brL.ba rfl (by decide)) (hb_blk gL) ([97], []) rfl rfl (by simp) 0 0 0 0 0 false
  have hAs2 : Calls Try.prog 5 #[.pointer (some ⟨g, 0, none⟩), .agg #[.int .i64 3, .slice (some ⟨W3.heap.size, 0, none⟩) 1 1, .int .i64 0, .int .i64 1, .int .i64 0, .bool false, .int .i64 0, .int .i64 0, .int .i64 0, .slice none 0 0]] (W3.alloc (.cells #[.int .u8 97] 5 (1, 2))) fun e w' => ∃ p3 c3, e = .returned (.agg #[.int .i64 0, .int .i64 0, .bool true, .bool false, .slice p3 0 c3, .int .i64 1, .slice none 0 0, .slice none 0 0, .bool false]) ∧ Below (W3.alloc (.cells #[.int .u8 97] 5 (1, 2))).heap.size (W3.alloc (.cells #[.int .u8 97] 5 (1, 2))) w' := hAs
  have e5 := e4.trans (bL.mono e4.size)
  clear hAs H4 br4 brL gL bL e4
  go_wp2_with fail
  refine hAs2.mono ?_
  rintro e w6 ⟨p3, c3, rfl, c6⟩
  have e6 := e5.trans (c6.mono e5.size)
  clear hAs2 c6 e5
  go_wp2
  go_ret
  exact ⟨rfl, e6⟩

end Go.Proofs.Ytbnfaeafkkagcaa
