/- What this text proves: the walk of sha.spell over this program: a state's words as bytes. -/
import Derived.Test.YtahfjemllkbpgaaGreatDoorMix
import Derived.Test.YtahfjemllkbpgaaGreatDoorPad
namespace Go.Proofs.YtahfjemllkbpgaaGreatDoor
open Go.RowKit

theorem spellL_all (s : St) : spellL (stL s) 8 = spellSt s := by simp [spellL, stL, spellSt]

theorem index8_0 (s : St) (w : World) : (Instr.index 90 (.agg #[.int .u32 (s.a.toNat : Int), .int .u32 (s.b.toNat : Int), .int .u32 (s.c.toNat : Int), .int .u32 (s.d.toNat : Int), .int .u32 (s.e.toNat : Int), .int .u32 (s.f.toNat : Int), .int .u32 (s.g.toNat : Int), .int .u32 (s.h.toNat : Int)]) (.int .i64 0)).run Tryz.prog w = .ok (.int .u32 (s.a.toNat : Int)) w := by kernel_rfl
theorem index8_1 (s : St) (w : World) : (Instr.index 90 (.agg #[.int .u32 (s.a.toNat : Int), .int .u32 (s.b.toNat : Int), .int .u32 (s.c.toNat : Int), .int .u32 (s.d.toNat : Int), .int .u32 (s.e.toNat : Int), .int .u32 (s.f.toNat : Int), .int .u32 (s.g.toNat : Int), .int .u32 (s.h.toNat : Int)]) (.int .i64 1)).run Tryz.prog w = .ok (.int .u32 (s.b.toNat : Int)) w := by kernel_rfl
theorem index8_2 (s : St) (w : World) : (Instr.index 90 (.agg #[.int .u32 (s.a.toNat : Int), .int .u32 (s.b.toNat : Int), .int .u32 (s.c.toNat : Int), .int .u32 (s.d.toNat : Int), .int .u32 (s.e.toNat : Int), .int .u32 (s.f.toNat : Int), .int .u32 (s.g.toNat : Int), .int .u32 (s.h.toNat : Int)]) (.int .i64 2)).run Tryz.prog w = .ok (.int .u32 (s.c.toNat : Int)) w := by kernel_rfl
theorem index8_3 (s : St) (w : World) : (Instr.index 90 (.agg #[.int .u32 (s.a.toNat : Int), .int .u32 (s.b.toNat : Int), .int .u32 (s.c.toNat : Int), .int .u32 (s.d.toNat : Int), .int .u32 (s.e.toNat : Int), .int .u32 (s.f.toNat : Int), .int .u32 (s.g.toNat : Int), .int .u32 (s.h.toNat : Int)]) (.int .i64 3)).run Tryz.prog w = .ok (.int .u32 (s.d.toNat : Int)) w := by kernel_rfl
theorem index8_4 (s : St) (w : World) : (Instr.index 90 (.agg #[.int .u32 (s.a.toNat : Int), .int .u32 (s.b.toNat : Int), .int .u32 (s.c.toNat : Int), .int .u32 (s.d.toNat : Int), .int .u32 (s.e.toNat : Int), .int .u32 (s.f.toNat : Int), .int .u32 (s.g.toNat : Int), .int .u32 (s.h.toNat : Int)]) (.int .i64 4)).run Tryz.prog w = .ok (.int .u32 (s.e.toNat : Int)) w := by kernel_rfl
theorem index8_5 (s : St) (w : World) : (Instr.index 90 (.agg #[.int .u32 (s.a.toNat : Int), .int .u32 (s.b.toNat : Int), .int .u32 (s.c.toNat : Int), .int .u32 (s.d.toNat : Int), .int .u32 (s.e.toNat : Int), .int .u32 (s.f.toNat : Int), .int .u32 (s.g.toNat : Int), .int .u32 (s.h.toNat : Int)]) (.int .i64 5)).run Tryz.prog w = .ok (.int .u32 (s.f.toNat : Int)) w := by kernel_rfl
theorem index8_6 (s : St) (w : World) : (Instr.index 90 (.agg #[.int .u32 (s.a.toNat : Int), .int .u32 (s.b.toNat : Int), .int .u32 (s.c.toNat : Int), .int .u32 (s.d.toNat : Int), .int .u32 (s.e.toNat : Int), .int .u32 (s.f.toNat : Int), .int .u32 (s.g.toNat : Int), .int .u32 (s.h.toNat : Int)]) (.int .i64 6)).run Tryz.prog w = .ok (.int .u32 (s.g.toNat : Int)) w := by kernel_rfl
theorem index8_7 (s : St) (w : World) : (Instr.index 90 (.agg #[.int .u32 (s.a.toNat : Int), .int .u32 (s.b.toNat : Int), .int .u32 (s.c.toNat : Int), .int .u32 (s.d.toNat : Int), .int .u32 (s.e.toNat : Int), .int .u32 (s.f.toNat : Int), .int .u32 (s.g.toNat : Int), .int .u32 (s.h.toNat : Int)]) (.int .i64 7)).run Tryz.prog w = .ok (.int .u32 (s.h.toNat : Int)) w := by kernel_rfl
theorem index8 (s : St) (k : Nat) (x : UInt32) (hx : (stL s)[k]? = some x) (w : World) : (Instr.index 90 (.agg #[.int .u32 (s.a.toNat : Int), .int .u32 (s.b.toNat : Int), .int .u32 (s.c.toNat : Int), .int .u32 (s.d.toNat : Int), .int .u32 (s.e.toNat : Int), .int .u32 (s.f.toNat : Int), .int .u32 (s.g.toNat : Int), .int .u32 (s.h.toNat : Int)]) (.int .i64 (k : Int))).run Tryz.prog w = .ok (.int .u32 (x.toNat : Int)) w := by
  match k, hx with
  | 0, hx => simp [stL] at hx; subst hx; exact index8_0 s w
  | 1, hx => simp [stL] at hx; subst hx; exact index8_1 s w
  | 2, hx => simp [stL] at hx; subst hx; exact index8_2 s w
  | 3, hx => simp [stL] at hx; subst hx; exact index8_3 s w
  | 4, hx => simp [stL] at hx; subst hx; exact index8_4 s w
  | 5, hx => simp [stL] at hx; subst hx; exact index8_5 s w
  | 6, hx => simp [stL] at hx; subst hx; exact index8_6 s w
  | 7, hx => simp [stL] at hx; subst hx; exact index8_7 s w

/-- Noughts. -/
def zero32 : List UInt8 := List.replicate 32 0

theorem spellL_length (L : List UInt32) (k : Nat) (hL : L.length = 8) (hk : k ≤ 8) : (spellL L k).length = 32 := by
  unfold spellL
  rw [List.length_append, flat_length, List.length_take, hL, List.length_replicate]
  omega

theorem owns_cell {w : World} {base : Nat} {e : TypeId} {g n : Nat} {l : List UInt8} (h : w.ownsRow base e 1 (.slice (some ⟨g, 0, none⟩) n n) n (bcs l)) (j : Nat) (hj : j < n) : ∃ y : UInt8, w.cell? ⟨g, j, none⟩ = some (.int .u8 (y.toNat : Int)) := by
  have hl : j < l.length := by
    have := h.1
    rw [bcs_length] at this
    omega
  refine ⟨l[j], ?_⟩
  rw [h.cellAt _ (by omega), bcs_get, List.getElem?_eq_getElem hl]
  rfl

set_option maxRecDepth 100000 in
set_option maxHeartbeats 1000000 in
theorem spell_any (s : St) (w : World) :
    Calls Tryz.prog 61 #[stV s] w fun e w' => ∃ c, e = .returned (.slice (some ⟨w.heap.size + 1, 0, none⟩) 32 c) ∧ w'.ownsRow w.heap.size 5 1 (.slice (some ⟨w.heap.size + 1, 0, none⟩) 32 c) 32 (bcs (spellSt s)) ∧ Below w.heap.size w w' := by
  have hmk : ∀ w : World, (Instr.makeSlice 22 (.int .i64 32) (.int .i64 32)).run Tryz.prog w = .ok (.slice (some ⟨w.heap.size, 0, none⟩) 32 32) (w.alloc (.cells (bcs zero32).toArray 5)) := fun _ => by kernel_rfl
  rw [← spellL_all]
  obtain ⟨L, hL⟩ : ∃ L, L = stL s := ⟨_, rfl⟩
  have hix : ∀ (k : Nat) (x : UInt32), L[k]? = some x → ∀ w, (Instr.index 90 (.agg #[.int .u32 (s.a.toNat : Int), .int .u32 (s.b.toNat : Int), .int .u32 (s.c.toNat : Int), .int .u32 (s.d.toNat : Int), .int .u32 (s.e.toNat : Int), .int .u32 (s.f.toNat : Int), .int .u32 (s.g.toNat : Int), .int .u32 (s.h.toNat : Int)]) (.int .i64 (k : Int))).run Tryz.prog w = .ok (.int .u32 (x.toNat : Int)) w := by
    intro k x hx w
    rw [hL] at hx
    exact index8 s k x hx w
  have HIX : Hid (∀ (k : Nat) (x : UInt32), L[k]? = some x → ∀ w, (Instr.index 90 (.agg #[.int .u32 (s.a.toNat : Int), .int .u32 (s.b.toNat : Int), .int .u32 (s.c.toNat : Int), .int .u32 (s.d.toNat : Int), .int .u32 (s.e.toNat : Int), .int .u32 (s.f.toNat : Int), .int .u32 (s.g.toNat : Int), .int .u32 (s.h.toNat : Int)]) (.int .i64 (k : Int))).run Tryz.prog w = .ok (.int .u32 (x.toNat : Int)) w) := hix
  have hL8 : L.length = 8 := by rw [hL]; rfl
  have HL : Hid (L.length = 8) := hL8
  rw [← hL]
  clear hix hL hL8
  have z1 : ((w.alloc (.cells #[.int .u32 (s.a.toNat : Int), .int .u32 (s.b.toNat : Int), .int .u32 (s.c.toNat : Int), .int .u32 (s.d.toNat : Int), .int .u32 (s.e.toNat : Int), .int .u32 (s.f.toNat : Int), .int .u32 (s.g.toNat : Int), .int .u32 (s.h.toNat : Int)] 90)).alloc (.cells (bcs zero32).toArray 5)).ownsRow w.heap.size 5 1 (.slice (some ⟨w.heap.size + 1, 0, none⟩) 32 32) 32 (bcs (spellL L 0)) := by
    have := World.ownsRow_lit (w.alloc (.cells #[.int .u32 (s.a.toNat : Int), .int .u32 (s.b.toNat : Int), .int .u32 (s.c.toNat : Int), .int .u32 (s.d.toNat : Int), .int .u32 (s.e.toNat : Int), .int .u32 (s.f.toNat : Int), .int .u32 (s.g.toNat : Int), .int .u32 (s.h.toNat : Int)] 90)) (base := w.heap.size) (e := 5) (size := 1) (bcs zero32).toArray 32 (by simp) (by unfold maxLen; omega) (by simp [bcs, zero32])
    rw [World.size_alloc] at this
    exact this
  have zb : Below w.heap.size w ((w.alloc (.cells #[.int .u32 (s.a.toNat : Int), .int .u32 (s.b.toNat : Int), .int .u32 (s.c.toNat : Int), .int .u32 (s.d.toNat : Int), .int .u32 (s.e.toNat : Int), .int .u32 (s.f.toNat : Int), .int .u32 (s.g.toNat : Int), .int .u32 (s.h.toNat : Int)] 90)).alloc (.cells (bcs zero32).toArray 5)) := ((Below.refl _ w).alloc (Nat.le_refl _) _).alloc (by simp) _
  unfold stV
  go_enter Tryz.func61, Tryz.ntmps61
  go_wp2
  generalize ((w.alloc (.cells #[.int .u32 (s.a.toNat : Int), .int .u32 (s.b.toNat : Int), .int .u32 (s.c.toNat : Int), .int .u32 (s.d.toNat : Int), .int .u32 (s.e.toNat : Int), .int .u32 (s.f.toNat : Int), .int .u32 (s.g.toNat : Int), .int .u32 (s.h.toNat : Int)] 90)).alloc (.cells (bcs zero32).toArray 5)) = w1 at *
  go_loopw [8] (fun i wr => ∃ k : Nat, k ≤ 8 ∧ i = .int .i64 k ∧ wr.ownsRow w.heap.size 5 1 (.slice (some ⟨w.heap.size + 1, 0, none⟩) 32 32) 32 (bcs (spellL L k)) ∧ Below w.heap.size w wr)
    (fun i _ => 8 - (intOf i).toNat)
  case atStart => exact ⟨0, Nat.zero_le _, rfl, z1, zb⟩
  case round =>
    clear z1 zb hmk
    obtain ⟨k, hk, rfl, hown, hbe⟩ := hrel
    by_cases hlt : k < 8
    · obtain ⟨x, hx⟩ : ∃ x, L[k]? = some x := ⟨_, List.getElem?_eq_getElem (by rw [HL.out]; exact hlt)⟩
      have hi := HIX.out k x hx
      have HX : Hid (L[k]? = some x) := hx
      clear hx
      have hxx := w32 x
      obtain ⟨y0, q0⟩ := owns_cell hown (4 * k) (by omega)
      obtain ⟨y1, q1⟩ := owns_cell hown (4 * k + 1) (by omega)
      obtain ⟨y2, q2⟩ := owns_cell hown (4 * k + 2) (by omega)
      obtain ⟨y3, q3⟩ := owns_cell hown (4 * k + 3) (by omega)
      have f0 := hown.frozenAt (4 * k)
      have f1 := hown.frozenAt (4 * k + 1)
      have f2 := hown.frozenAt (4 * k + 2)
      have f3 := hown.frozenAt (4 * k + 3)
      go_wp2
      have p0 := owns_put hown (4 * k) (UInt8.ofNat (x.toNat / 16777216)) (.int .u8 ((x.toNat : Int) / 16777216)) (by simp [bc]; omega)
      have p1 := owns_put p0 (4 * k + 1) (UInt8.ofNat (x.toNat / 65536)) (.int .u8 ((x.toNat : Int) / 65536 % 256)) (by simp [bc])
      have p2 := owns_put p1 (4 * k + 2) (UInt8.ofNat (x.toNat / 256)) (.int .u8 ((x.toNat : Int) / 256 % 256)) (by simp [bc])
      have p3 := owns_put p2 (4 * k + 3) (UInt8.ofNat x.toNat) (.int .u8 ((x.toNat : Int) % 256)) (by simp [bc])
      rw [spellL_step L k x HX.out hlt] at p3
      exact ⟨⟨k + 1, by omega, by go_num, p3, (((hbe.setCell (by simp) _).setCell (by simp) _).setCell (by simp) _).setCell (by simp) _⟩, by simp [intOf]; omega⟩
    · have hk8 : k = 8 := by omega
      subst hk8
      go_wp2
      go_ret
      exact ⟨_, rfl, hown, hbe⟩

end Go.Proofs.YtahfjemllkbpgaaGreatDoor
