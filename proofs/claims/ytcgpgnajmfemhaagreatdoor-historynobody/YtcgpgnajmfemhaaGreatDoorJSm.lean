/- What this text proves: the walk of sha.spell over this program: a state's words as bytes. What this text proves: plain facts about SHA-256's blocks: those of a text's front, and of its padded rest; no program is named. What this text proves: the walk of sha.Sum over this program: SHA-256 of any bytes, in new memory, where its two tables lie in their variables. -/
import Derived.Test.YtcgpgnajmfemhaaGreatDoorJMix
import Derived.Test.YtcgpgnajmfemhaaGreatDoorJPad
import Derived.Test.YtcgpgnajmfemhaaGreatDoorJSha
import Derived.Deep.RegionWith
namespace Go.Proofs.YtcgpgnajmfemhaaGreatDoor
open Go.RowKit

theorem spellL_all (s : St) : spellL (stL s) 8 = spellSt s := by simp [spellL, stL, spellSt]

theorem index8_0 (s : St) (w : World) : (Instr.index 217 (.agg #[.int .u32 (s.a.toNat : Int), .int .u32 (s.b.toNat : Int), .int .u32 (s.c.toNat : Int), .int .u32 (s.d.toNat : Int), .int .u32 (s.e.toNat : Int), .int .u32 (s.f.toNat : Int), .int .u32 (s.g.toNat : Int), .int .u32 (s.h.toNat : Int)]) (.int .i64 0)).run Tryz.prog w = .ok (.int .u32 (s.a.toNat : Int)) w := by kernel_rfl
theorem index8_1 (s : St) (w : World) : (Instr.index 217 (.agg #[.int .u32 (s.a.toNat : Int), .int .u32 (s.b.toNat : Int), .int .u32 (s.c.toNat : Int), .int .u32 (s.d.toNat : Int), .int .u32 (s.e.toNat : Int), .int .u32 (s.f.toNat : Int), .int .u32 (s.g.toNat : Int), .int .u32 (s.h.toNat : Int)]) (.int .i64 1)).run Tryz.prog w = .ok (.int .u32 (s.b.toNat : Int)) w := by kernel_rfl
theorem index8_2 (s : St) (w : World) : (Instr.index 217 (.agg #[.int .u32 (s.a.toNat : Int), .int .u32 (s.b.toNat : Int), .int .u32 (s.c.toNat : Int), .int .u32 (s.d.toNat : Int), .int .u32 (s.e.toNat : Int), .int .u32 (s.f.toNat : Int), .int .u32 (s.g.toNat : Int), .int .u32 (s.h.toNat : Int)]) (.int .i64 2)).run Tryz.prog w = .ok (.int .u32 (s.c.toNat : Int)) w := by kernel_rfl
theorem index8_3 (s : St) (w : World) : (Instr.index 217 (.agg #[.int .u32 (s.a.toNat : Int), .int .u32 (s.b.toNat : Int), .int .u32 (s.c.toNat : Int), .int .u32 (s.d.toNat : Int), .int .u32 (s.e.toNat : Int), .int .u32 (s.f.toNat : Int), .int .u32 (s.g.toNat : Int), .int .u32 (s.h.toNat : Int)]) (.int .i64 3)).run Tryz.prog w = .ok (.int .u32 (s.d.toNat : Int)) w := by kernel_rfl
theorem index8_4 (s : St) (w : World) : (Instr.index 217 (.agg #[.int .u32 (s.a.toNat : Int), .int .u32 (s.b.toNat : Int), .int .u32 (s.c.toNat : Int), .int .u32 (s.d.toNat : Int), .int .u32 (s.e.toNat : Int), .int .u32 (s.f.toNat : Int), .int .u32 (s.g.toNat : Int), .int .u32 (s.h.toNat : Int)]) (.int .i64 4)).run Tryz.prog w = .ok (.int .u32 (s.e.toNat : Int)) w := by kernel_rfl
theorem index8_5 (s : St) (w : World) : (Instr.index 217 (.agg #[.int .u32 (s.a.toNat : Int), .int .u32 (s.b.toNat : Int), .int .u32 (s.c.toNat : Int), .int .u32 (s.d.toNat : Int), .int .u32 (s.e.toNat : Int), .int .u32 (s.f.toNat : Int), .int .u32 (s.g.toNat : Int), .int .u32 (s.h.toNat : Int)]) (.int .i64 5)).run Tryz.prog w = .ok (.int .u32 (s.f.toNat : Int)) w := by kernel_rfl
theorem index8_6 (s : St) (w : World) : (Instr.index 217 (.agg #[.int .u32 (s.a.toNat : Int), .int .u32 (s.b.toNat : Int), .int .u32 (s.c.toNat : Int), .int .u32 (s.d.toNat : Int), .int .u32 (s.e.toNat : Int), .int .u32 (s.f.toNat : Int), .int .u32 (s.g.toNat : Int), .int .u32 (s.h.toNat : Int)]) (.int .i64 6)).run Tryz.prog w = .ok (.int .u32 (s.g.toNat : Int)) w := by kernel_rfl
theorem index8_7 (s : St) (w : World) : (Instr.index 217 (.agg #[.int .u32 (s.a.toNat : Int), .int .u32 (s.b.toNat : Int), .int .u32 (s.c.toNat : Int), .int .u32 (s.d.toNat : Int), .int .u32 (s.e.toNat : Int), .int .u32 (s.f.toNat : Int), .int .u32 (s.g.toNat : Int), .int .u32 (s.h.toNat : Int)]) (.int .i64 7)).run Tryz.prog w = .ok (.int .u32 (s.h.toNat : Int)) w := by kernel_rfl
theorem index8 (s : St) (k : Nat) (x : UInt32) (hx : (stL s)[k]? = some x) (w : World) : (Instr.index 217 (.agg #[.int .u32 (s.a.toNat : Int), .int .u32 (s.b.toNat : Int), .int .u32 (s.c.toNat : Int), .int .u32 (s.d.toNat : Int), .int .u32 (s.e.toNat : Int), .int .u32 (s.f.toNat : Int), .int .u32 (s.g.toNat : Int), .int .u32 (s.h.toNat : Int)]) (.int .i64 (k : Int))).run Tryz.prog w = .ok (.int .u32 (x.toNat : Int)) w := by
  match k, hx with
  | 0, hx => simp [stL] at hx; subst hx; exact index8_0 s w
  | 1, hx => simp [stL] at hx; subst hx; exact index8_1 s w
  | 2, hx => simp [stL] at hx; subst hx; exact index8_2 s w
  | 3, hx => simp [stL] at hx; subst hx; exact index8_3 s w
  | 4, hx => simp [stL] at hx; subst hx; exact index8_4 s w
  | 5, hx => simp [stL] at hx; subst hx; exact index8_5 s w
  | 6, hx => simp [stL] at hx; subst hx; exact index8_6 s w
  | 7, hx => simp [stL] at hx; subst hx; exact index8_7 s w

/-- Noughts. -/
def zero32 : List UInt8 := List.replicate 32 0

theorem spellL_length (L : List UInt32) (k : Nat) (hL : L.length = 8) (hk : k ≤ 8) : (spellL L k).length = 32 := by
  unfold spellL
  rw [List.length_append, flat_length, List.length_take, hL, List.length_replicate]
  omega

theorem owns_cell {w : World} {base : Nat} {e : TypeId} {g n : Nat} {l : List UInt8} (h : w.ownsRow base e 1 (.slice (some ⟨g, 0, none⟩) n n) n (bcs l)) (j : Nat) (hj : j < n) : ∃ y : UInt8, w.cell? ⟨g, j, none⟩ = some (.int .u8 (y.toNat : Int)) := by
  have hl : j < l.length := by
    have := h.1
    rw [bcs_length] at this
    omega
  refine ⟨l[j], ?_⟩
  rw [h.cellAt _ (by omega), bcs_get, List.getElem?_eq_getElem hl]
  rfl

set_option maxRecDepth 100000 in
set_option maxHeartbeats 1000000 in
theorem spell_any (s : St) (w : World) :
    Calls Tryz.prog 160 #[stV s] w fun e w' => ∃ c, e = .returned (.slice (some ⟨w.heap.size + 1, 0, none⟩) 32 c) ∧ w'.ownsRow w.heap.size 5 1 (.slice (some ⟨w.heap.size + 1, 0, none⟩) 32 c) 32 (bcs (spellSt s)) ∧ Below w.heap.size w w' := by
  have hmk : ∀ w : World, (Instr.makeSlice 37 (.int .i64 32) (.int .i64 32)).run Tryz.prog w = .ok (.slice (some ⟨w.heap.size, 0, none⟩) 32 32) (w.alloc (.cells (bcs zero32).toArray 5)) := fun _ => by kernel_rfl
  rw [← spellL_all]
  obtain ⟨L, hL⟩ : ∃ L, L = stL s := ⟨_, rfl⟩
  have hix : ∀ (k : Nat) (x : UInt32), L[k]? = some x → ∀ w, (Instr.index 217 (.agg #[.int .u32 (s.a.toNat : Int), .int .u32 (s.b.toNat : Int), .int .u32 (s.c.toNat : Int), .int .u32 (s.d.toNat : Int), .int .u32 (s.e.toNat : Int), .int .u32 (s.f.toNat : Int), .int .u32 (s.g.toNat : Int), .int .u32 (s.h.toNat : Int)]) (.int .i64 (k : Int))).run Tryz.prog w = .ok (.int .u32 (x.toNat : Int)) w := by
    intro k x hx w
    rw [hL] at hx
    exact index8 s k x hx w
  have HIX : Hid (∀ (k : Nat) (x : UInt32), L[k]? = some x → ∀ w, (Instr.index 217 (.agg #[.int .u32 (s.a.toNat : Int), .int .u32 (s.b.toNat : Int), .int .u32 (s.c.toNat : Int), .int .u32 (s.d.toNat : Int), .int .u32 (s.e.toNat : Int), .int .u32 (s.f.toNat : Int), .int .u32 (s.g.toNat : Int), .int .u32 (s.h.toNat : Int)]) (.int .i64 (k : Int))).run Tryz.prog w = .ok (.int .u32 (x.toNat : Int)) w) := hix
  have hL8 : L.length = 8 := by rw [hL]; rfl
  have HL : Hid (L.length = 8) := hL8
  rw [← hL]
  clear hix hL hL8
  have z1 : ((w.alloc (.cells #[.int .u32 (s.a.toNat : Int), .int .u32 (s.b.toNat : Int), .int .u32 (s.c.toNat : Int), .int .u32 (s.d.toNat : Int), .int .u32 (s.e.toNat : Int), .int .u32 (s.f.toNat : Int), .int .u32 (s.g.toNat : Int), .int .u32 (s.h.toNat : Int)] 217)).alloc (.cells (bcs zero32).toArray 5)).ownsRow w.heap.size 5 1 (.slice (some ⟨w.heap.size + 1, 0, none⟩) 32 32) 32 (bcs (spellL L 0)) := by
    have := World.ownsRow_lit (w.alloc (.cells #[.int .u32 (s.a.toNat : Int), .int .u32 (s.b.toNat : Int), .int .u32 (s.c.toNat : Int), .int .u32 (s.d.toNat : Int), .int .u32 (s.e.toNat : Int), .int .u32 (s.f.toNat : Int), .int .u32 (s.g.toNat : Int), .int .u32 (s.h.toNat : Int)] 217)) (base := w.heap.size) (e := 5) (size := 1) (bcs zero32).toArray 32 (by simp) (by unfold maxLen; omega) (by simp [bcs, zero32])
    rw [World.size_alloc] at this
    exact this
  have zb : Below w.heap.size w ((w.alloc (.cells #[.int .u32 (s.a.toNat : Int), .int .u32 (s.b.toNat : Int), .int .u32 (s.c.toNat : Int), .int .u32 (s.d.toNat : Int), .int .u32 (s.e.toNat : Int), .int .u32 (s.f.toNat : Int), .int .u32 (s.g.toNat : Int), .int .u32 (s.h.toNat : Int)] 217)).alloc (.cells (bcs zero32).toArray 5)) := ((Below.refl _ w).alloc (Nat.le_refl _) _).alloc (by simp) _
  unfold stV
  go_enter Tryz.func160, Tryz.ntmps160
  go_wp2
  generalize ((w.alloc (.cells #[.int .u32 (s.a.toNat : Int), .int .u32 (s.b.toNat : Int), .int .u32 (s.c.toNat : Int), .int .u32 (s.d.toNat : Int), .int .u32 (s.e.toNat : Int), .int .u32 (s.f.toNat : Int), .int .u32 (s.g.toNat : Int), .int .u32 (s.h.toNat : Int)] 217)).alloc (.cells (bcs zero32).toArray 5)) = w1 at *
  go_loopw [8] (fun i wr => ∃ k : Nat, k ≤ 8 ∧ i = .int .i64 k ∧ wr.ownsRow w.heap.size 5 1 (.slice (some ⟨w.heap.size + 1, 0, none⟩) 32 32) 32 (bcs (spellL L k)) ∧ Below w.heap.size w wr)
    (fun i _ => 8 - (intOf i).toNat)
  case atStart => exact ⟨0, Nat.zero_le _, rfl, z1, zb⟩
  case round =>
    clear z1 zb hmk
    obtain ⟨k, hk, rfl, hown, hbe⟩ := hrel
    by_cases hlt : k < 8
    · obtain ⟨x, hx⟩ : ∃ x, L[k]? = some x := ⟨_, List.getElem?_eq_getElem (by rw [HL.out]; exact hlt)⟩
      have hi := HIX.out k x hx
      have HX : Hid (L[k]? = some x) := hx
      clear hx
      have hxx := w32 x
      obtain ⟨y0, q0⟩ := owns_cell hown (4 * k) (by omega)
      obtain ⟨y1, q1⟩ := owns_cell hown (4 * k + 1) (by omega)
      obtain ⟨y2, q2⟩ := owns_cell hown (4 * k + 2) (by omega)
      obtain ⟨y3, q3⟩ := owns_cell hown (4 * k + 3) (by omega)
      have f0 := hown.frozenAt (4 * k)
      have f1 := hown.frozenAt (4 * k + 1)
      have f2 := hown.frozenAt (4 * k + 2)
      have f3 := hown.frozenAt (4 * k + 3)
      go_wp2
      have p0 := owns_put hown (4 * k) (UInt8.ofNat (x.toNat / 16777216)) (.int .u8 ((x.toNat : Int) / 16777216)) (by simp [bc]; omega)
      have p1 := owns_put p0 (4 * k + 1) (UInt8.ofNat (x.toNat / 65536)) (.int .u8 ((x.toNat : Int) / 65536 % 256)) (by simp [bc])
      have p2 := owns_put p1 (4 * k + 2) (UInt8.ofNat (x.toNat / 256)) (.int .u8 ((x.toNat : Int) / 256 % 256)) (by simp [bc])
      have p3 := owns_put p2 (4 * k + 3) (UInt8.ofNat x.toNat) (.int .u8 ((x.toNat : Int) % 256)) (by simp [bc])
      rw [spellL_step L k x HX.out hlt] at p3
      exact ⟨⟨k + 1, by omega, by go_num, p3, (((hbe.setCell (by simp) _).setCell (by simp) _).setCell (by simp) _).setCell (by simp) _⟩, by simp [intOf]; omega⟩
    · have hk8 : k = 8 := by omega
      subst hk8
      go_wp2
      go_ret
      exact ⟨_, rfl, hown, hbe⟩

end Go.Proofs.YtcgpgnajmfemhaaGreatDoor

namespace Go.Proofs.YtcgpgnajmfemhaaGreatDoor

theorem mixes_front (s : St) (l r : List UInt8) : ∀ n, 64 * n ≤ l.length → mixes s (l ++ r) n = mixes s l n := by
  intro n
  induction n with
  | zero => intro _; rfl
  | succ n ih =>
    intro h
    have h1 : 64 * n ≤ l.length := by omega
    rw [mixes, mixes, ih h1, List.drop_append_of_le_length h1, List.take_append_of_le_length (by simp; omega)]

theorem mixes_behind (s : St) (t : List UInt8) (q : Nat) : ∀ n, mixes s t (q + n) = mixes (mixes s t q) (t.drop (64 * q)) n := by
  intro n
  induction n with
  | zero => rfl
  | succ n ih =>
    rw [← Nat.add_assoc, mixes, mixes, ih, List.drop_drop, Nat.mul_add]

/-- What is mixed behind q whole blocks of a text is the padding of its rest. -/
theorem tail_eq (l : List UInt8) (q : Nat) (h1 : 64 * q ≤ l.length) (h2 : l.length < 64 * q + 64) :
    (l ++ padding l.length).drop (64 * q) = padL (l.drop (64 * q)) (64 * blocks (l.length - 64 * q)) (8 * l.length) 8 ∧ blocks l.length = q + blocks (l.length - 64 * q) := by
  refine ⟨?_, by unfold blocks; omega⟩
  rw [List.drop_append_of_le_length h1]
  unfold padL padding
  congr 2
  congr 1
  · congr 1
    simp only [List.length_drop]
    unfold blocks
    omega

end Go.Proofs.YtcgpgnajmfemhaaGreatDoor

namespace Go.Proofs.YtcgpgnajmfemhaaGreatDoor
open Go.RowKit

/-- The first state lies in its variable. -/
def ST0 (w : World) : Prop := ∃ t fr, w.heap[0]? = some (.cells (wcs (stL startSt)).toArray t fr)
theorem ST0.later {w w' : World} (h : ST0 w) (hb : Below w.heap.size w w') : ST0 w' := by
  obtain ⟨t, fr, h⟩ := h
  exact ⟨t, fr, by rw [hb.block 0 (Array.getElem?_eq_some_iff.1 h).1]; exact h⟩

/-- Both tables lie in their variables. -/
def Tabs (w : World) : Prop := ST0 w ∧ KT w
theorem Tabs.later {w w' : World} (h : Tabs w) (hb : Below w.heap.size w w') : Tabs w' := ⟨h.1.later hb, h.2.later hb⟩

theorem stV_eq (s : St) : stV s = .agg (wcs (stL s)).toArray := rfl

theorem ar8 {w : World} {g : Nat} {t : TypeId} {s : St} (h : AR w g t (stL s)) : w.cell? ⟨g, 0, none⟩ = some (.int .u32 (s.a.toNat : Int)) ∧ w.cell? ⟨g, 1, none⟩ = some (.int .u32 (s.b.toNat : Int)) ∧ w.cell? ⟨g, 2, none⟩ = some (.int .u32 (s.c.toNat : Int)) ∧ w.cell? ⟨g, 3, none⟩ = some (.int .u32 (s.d.toNat : Int)) ∧ w.cell? ⟨g, 4, none⟩ = some (.int .u32 (s.e.toNat : Int)) ∧ w.cell? ⟨g, 5, none⟩ = some (.int .u32 (s.f.toNat : Int)) ∧ w.cell? ⟨g, 6, none⟩ = some (.int .u32 (s.g.toNat : Int)) ∧ w.cell? ⟨g, 7, none⟩ = some (.int .u32 (s.h.toNat : Int)) ∧ w.frozen? ⟨g, 0, none⟩ = false ∧ w.frozen? ⟨g, 1, none⟩ = false ∧ w.frozen? ⟨g, 2, none⟩ = false ∧ w.frozen? ⟨g, 3, none⟩ = false ∧ w.frozen? ⟨g, 4, none⟩ = false ∧ w.frozen? ⟨g, 5, none⟩ = false ∧ w.frozen? ⟨g, 6, none⟩ = false ∧ w.frozen? ⟨g, 7, none⟩ = false :=
  ⟨h.cell 0 _ rfl, h.cell 1 _ rfl, h.cell 2 _ rfl, h.cell 3 _ rfl, h.cell 4 _ rfl, h.cell 5 _ rfl, h.cell 6 _ rfl, h.cell 7 _ rfl, h.free 0, h.free 1, h.free 2, h.free 3, h.free 4, h.free 5, h.free 6, h.free 7⟩

theorem mix_lit (s : St) (v : Value) (l : List UInt8) (w : World) (h : HB w v l) (hl : l.length = 64) (hK : KT w) :
    Calls Tryz.prog 158 #[.agg #[.int .u32 (s.a.toNat : Int), .int .u32 (s.b.toNat : Int), .int .u32 (s.c.toNat : Int), .int .u32 (s.d.toNat : Int), .int .u32 (s.e.toNat : Int), .int .u32 (s.f.toNat : Int), .int .u32 (s.g.toNat : Int), .int .u32 (s.h.toNat : Int)], v] w fun e w' => ∃ M : St, Hid (M = mixF s l) ∧ e = .returned (.agg #[.int .u32 (M.a.toNat : Int), .int .u32 (M.b.toNat : Int), .int .u32 (M.c.toNat : Int), .int .u32 (M.d.toNat : Int), .int .u32 (M.e.toNat : Int), .int .u32 (M.f.toNat : Int), .int .u32 (M.g.toNat : Int), .int .u32 (M.h.toNat : Int)]) ∧ Below w.heap.size w w' :=
  (mix_any s v l w h hl hK).mono fun _ _ ⟨he, hb⟩ => ⟨mixF s l, rfl, he, hb⟩

/-- Eight words stored one behind the other. -/
def put8 (w : World) (g : Nat) (M : St) : World :=
  (((((((w.setCell ⟨g, 0, none⟩ (.int .u32 (M.a.toNat : Int))).setCell ⟨g, 1, none⟩ (.int .u32 (M.b.toNat : Int))).setCell ⟨g, 2, none⟩ (.int .u32 (M.c.toNat : Int))).setCell ⟨g, 3, none⟩ (.int .u32 (M.d.toNat : Int))).setCell ⟨g, 4, none⟩ (.int .u32 (M.e.toNat : Int))).setCell ⟨g, 5, none⟩ (.int .u32 (M.f.toNat : Int))).setCell ⟨g, 6, none⟩ (.int .u32 (M.g.toNat : Int))).setCell ⟨g, 7, none⟩ (.int .u32 (M.h.toNat : Int))
theorem AR.put8 {w : World} {g : Nat} {t : TypeId} {s : St} (h : AR w g t (stL s)) (M : St) : AR (put8 w g M) g t (stL M) :=
  (((((((h.put 0 M.a _ rfl).put 1 M.b _ rfl).put 2 M.c _ rfl).put 3 M.d _ rfl).put 4 M.e _ rfl).put 5 M.f _ rfl).put 6 M.g _ rfl).put 7 M.h _ rfl
theorem below_put8 {B : Nat} {w0 w : World} (h : Below B w0 w) {g : Nat} (hg : B ≤ g) (M : St) : Below B w0 (put8 w g M) :=
  (((((((h.setCell hg _).setCell hg _).setCell hg _).setCell hg _).setCell hg _).setCell hg _).setCell hg _).setCell hg _

theorem HB.setOther {w : World} {b o n c : Nat} {l : List UInt8} (h : HB w (.slice (some ⟨b, o, none⟩) n c) l) (a : Addr) (u : Value) (hne : b ≠ a.block) : HB (w.setCell a u) (.slice (some ⟨b, o, none⟩) n c) l := by
  obtain ⟨p, cap, e, h1, h2, h3, h4⟩ := h
  refine ⟨p, cap, e, h1, h2, h3, fun hn => ?_⟩
  obtain ⟨b', o', e1, e2⟩ := h4 hn
  refine ⟨b', o', e1, fun i x hx => ?_⟩
  have hb : b' = b := by
    simp only [Value.slice.injEq] at e
    rw [← e.1] at e1
    simp only [Option.some.injEq, Addr.mk.injEq] at e1
    exact e1.1.symm
  rw [← e2 i x hx]
  exact World.cell?_of_block (w := w) (heap_setCell_other w a b' u (by rw [hb]; exact hne))
theorem HB.put8 {w : World} {b o n c : Nat} {l : List UInt8} (h : HB w (.slice (some ⟨b, o, none⟩) n c) l) (g : Nat) (M : St) (hne : b ≠ g) : HB (put8 w g M) (.slice (some ⟨b, o, none⟩) n c) l :=
  (((((((h.setOther _ _ hne).setOther _ _ hne).setOther _ _ hne).setOther _ _ hne).setOther _ _ hne).setOther _ _ hne).setOther _ _ hne).setOther _ _ hne

set_option maxRecDepth 100000 in
set_option maxHeartbeats 2000000 in
theorem sum_any (v : Value) (l : List UInt8) (w : World) (h : HB w v l) (hl : l.length ≤ 140737488355328) (hT : Tabs w) :
    Calls Tryz.prog 115 #[v] w fun e w' => ∃ v', e = .returned v' ∧ w'.ownsRow w.heap.size 5 1 v' 32 (bcs (sha l)) ∧ Below w.heap.size w w' := by
  obtain ⟨p, c, rfl⟩ := h.shape
  obtain ⟨t0, fr0, hS0⟩ := hT.1
  obtain ⟨S0, hS⟩ : ∃ S0, S0 = startSt := ⟨_, rfl⟩
  rw [← hS] at hS0
  have HS : Hid (S0 = startSt) := hS
  clear hS
  have hlen := h.len.2.1
  have hmx := h.len.2.2.1
  unfold maxLen at hmx
  go_enter Tryz.func115, Tryz.ntmps115
  go_wp2_with (first | (refine wpList_load_row rfl 217 (.global 0) rfl 0 rfl t0 _ fr0 _ hS0 Tryz.underlying217 rfl (by rw [i8w]; rfl) ?_) | (refine wpList_store_ar rfl 217 (.tmp 3) (.tmp 8) rfl w.heap.size (stL S0) rfl rfl 217 _ (heap_alloc_new w _) i8w rfl ?_))
  intro w1 g1 hg1
  have hb1 : Below w.heap.size w w1 := ((Below.refl _ w).alloc (Nat.le_refl _) _).grown hg1 (by simp) (by intro k hk; cases hk; exact Nat.le_refl _)
  clear hg1 hS0
  go_wp2
  go_loopw [5] (fun i wr => ∃ k : Nat, 64 * k ≤ l.length ∧ i = .int .i64 ((64 * k : Nat) : Int) ∧ AR wr w.heap.size 217 (stL (mixes S0 l k)) ∧ Below w.heap.size w wr)
    (fun i _ => l.length - (intOf i).toNat)
  case atStart => exact ⟨0, by omega, rfl, g1, hb1⟩
  case round =>
    clear g1 hb1
    obtain ⟨k, hk, rfl, hA, hbe⟩ := hrel
    by_cases hlt : 64 * k + 64 ≤ l.length
    · have HN : mixes S0 l (k + 1) = mixF (mixes S0 l k) ((l.drop (64 * k)).take 64) := rfl
      have hcut := h.cut (64 * k) (64 * k + 64) c (by omega) hlt (by omega) (Nat.le_refl _)
      rw [Nat.add_sub_cancel_left] at hcut
      have hc64 : ((l.drop (64 * k)).take 64).length = 64 := by simp; omega
      have k3 : ∀ w, (Instr.slice 37 (.slice p l.length c) (some (.int .i64 ((64 * k : Nat) : Int))) (some (.int .i64 (((64 * k : Nat) : Int) + 64))) none).run Tryz.prog w = .ok (.slice (cutP p c (64 * k)) 64 (c - 64 * k)) w := by
        intro w
        have := run_cut2 (P := Tryz.prog) Tryz.underlying37 s_u8 p l.length c (64 * k) (64 * k + 64) _ (((64 * k : Nat) : Int) + 64) rfl (by omega) (by omega) (by omega) w
        rwa [Nat.add_sub_cancel_left] at this
      generalize (l.drop (64 * k)).take 64 = X at *
      generalize mixes S0 l k = S at *
      have HN1 : Hid (mixes S0 l (k + 1) = mixF S X) := HN
      have HC : Hid (X.length = 64) := hc64
      clear HN hc64
      obtain ⟨n, hn⟩ : ∃ n, n = 64 * k := ⟨_, rfl⟩
      rw [← hn] at hcut k3 hlt hk ⊢
      have Hn : Hid (n = 64 * k) := hn
      clear hn
      have htest : (n : Int) < (l.length : Int) - (l.length : Int) % 64 := by have := Hn.out; omega
      have hwr : IntKind.i64.wrap ((n : Int) + 64) = (n : Int) + 64 := by rw [IntKind.wrap_i64]; omega
      have hwr2 : wrap64 ((n : Int) + 64) = (n : Int) + 64 := IntWalk.wrap64_in _ ⟨by omega, by omega⟩
      obtain ⟨c0, c1, c2, c3, c4, c5, c6, c7, f0, f1, f2, f3, f4, f5, f6, f7⟩ := ar8 hA
      go_wp2
      go_region_with (go_at_call 158; refine (mix_lit S _ X _ (by exact hcut.later hbe.drew) HC.out (by exact hT.2.later hbe.drew)).mono ?_; rintro e w2 ⟨M, hM, rfl, hb2⟩; have hA2 : AR w2 w.heap.size 217 (stL S) := hA.drew.later hb2; obtain ⟨d0, d1, d2, d3, d4, d5, d6, d7, e0, e1, e2, e3, e4, e5, e6, e7⟩ := ar8 hA2)
      have hA3 := hA2.put8 M
      have hb3 : Below w.heap.size w (put8 w2 w.heap.size M) := below_put8 (hbe.drew.trans (hb2.mono hbe.size)) (Nat.le_refl _) M
      change Exit.inBlock _ _ _ _ (put8 w2 w.heap.size M)
      clear d0 d1 d2 d3 d4 d5 d6 d7 e0 e1 e2 e3 e4 e5 e6 e7 c0 c1 c2 c3 c4 c5 c6 c7 f0 f1 f2 f3 f4 f5 f6 f7 hA2 hb2 hA hbe
      generalize put8 w2 w.heap.size M = w3 at *
      have hA4 : AR w3 w.heap.size 217 (stL (mixes S0 l (k + 1))) := by rw [HN1.out, ← hM.out]; exact hA3
      clear hA3
      go_wp2
      exact ⟨⟨k + 1, by have := Hn.out; omega, by have := Hn.out; congr 1; omega, hA4, hb3⟩, by simp [intOf]; omega⟩
    · have hq : k = l.length / 64 := by omega
      have hw1 : (l.length : Int) - (l.length : Int) % 64 = ((64 * k : Nat) : Int) := by omega
      obtain ⟨ht1, ht2⟩ := tail_eq l k hk (by omega)
      have hmf := mixes_front S0 l (padding l.length) k hk
      have hmb := mixes_behind S0 (l ++ padding l.length) k (blocks (l.length - 64 * k))
      rw [← ht2, hmf, ht1] at hmb
      have hrest := h.behind (64 * k) hk
      have hrl : (l.drop (64 * k)).length = l.length - 64 * k := by simp
      have hrl2 : l.length - 64 * k < 64 := by omega
      have k1 : ∀ w, (Instr.slice 37 (.slice p l.length c) (some (.int .i64 ((64 * k : Nat) : Int))) none none).run Tryz.prog w = .ok (.slice (cutP p c (64 * k)) (l.length - 64 * k) (c - 64 * k)) w := fun w => run_cut (P := Tryz.prog) Tryz.underlying37 s_u8 p l.length c (64 * k) _ rfl hk w
      clear ht1 ht2 hmf
      generalize hS1 : mixes S0 l k = S1 at *
      clear hS1
      generalize l.drop (64 * k) = R at *
      obtain ⟨m, hm⟩ : ∃ m, m = l.length - 64 * k := ⟨_, rfl⟩
      rw [← hm] at hmb hrest hrl hrl2 k1
      clear hm
      subst hrl
      obtain ⟨n, hn⟩ : ∃ n, n = 64 * k := ⟨_, rfl⟩
      rw [← hn] at hw1 k1 hrest ⊢
      have HSH : Hid (sha l = spellSt (mixes S1 (padL R (64 * blocks R.length) (8 * l.length) 8) (blocks R.length))) := by
        show spellSt (mixes startSt _ _) = _
        rw [← HS.out, hmb]
      clear hmb hn hq hlt hk
      go_wp2_with fail
      refine (pad_any _ R l.length _ (hrest.later hbe) hrl2 (by omega)).mono ?_
      rintro e w2 ⟨rfl, hT2, hb2⟩
      have hA2 := hA.later hb2
      have hb02 := hbe.trans (hb2.mono hbe.size)
      have hbn : blocks R.length = (R.length + 72) / 64 := rfl
      have hTl := padL_length R (64 * blocks R.length) (8 * l.length) 8 (by omega) (by omega)
      have hgt : w.heap.size < wr.heap.size := hA.lt
      obtain ⟨g2, hg2⟩ : ∃ g2, g2 = wr.heap.size := ⟨_, rfl⟩
      rw [← hg2] at hT2 hgt ⊢
      generalize padL R (64 * blocks R.length) (8 * l.length) 8 = T at *
      have hB2 : blocks R.length ≤ 2 := by omega
      clear hbn hA hbe hb2 hg2 k1 hrest hrl2
      obtain ⟨N, hN⟩ : ∃ N, N = 64 * blocks R.length := ⟨_, rfl⟩
      have hN2 : N ≤ 128 := by omega
      rw [← hN] at hT2 hTl ⊢
      have HNB : Hid (N = 64 * blocks R.length) := hN
      have HTL : Hid (T.length = N) := hTl
      have hmod : N % 64 = 0 := by omega
      have HMOD : Hid (N % 64 = 0) := hmod
      clear hTl hN hB2 hmod
      obtain ⟨Bn, hBn⟩ : ∃ Bn, Bn = blocks R.length := ⟨_, rfl⟩
      rw [← hBn] at HNB HSH
      clear hBn
      go_wp2
      go_loopw [7] (fun i wr => ∃ k : Nat, 64 * k ≤ N ∧ i = .int .i64 ((64 * k : Nat) : Int) ∧ AR wr w.heap.size 217 (stL (mixes S1 T k)) ∧ Below w.heap.size w wr ∧ HB wr (.slice (some ⟨g2, 0, none⟩) N N) T)
        (fun i _ => N - (intOf i).toNat)
      case atStart => exact ⟨0, by omega, rfl, hA2, hb02, hT2⟩
      case round =>
        clear hA2 hb02 hT2
        obtain ⟨k, hk, rfl, hA, hbe, hh⟩ := hrel
        by_cases hlt : 64 * k + 64 ≤ N
        · have HN : mixes S1 T (k + 1) = mixF (mixes S1 T k) ((T.drop (64 * k)).take 64) := rfl
          have hcut := hh.cut (64 * k) (64 * k + 64) N (by omega) hlt (by omega) (Nat.le_refl _)
          rw [Nat.add_sub_cancel_left] at hcut
          have hc64 : ((T.drop (64 * k)).take 64).length = 64 := by simp [HTL.out]; omega
          obtain ⟨pp, hpp⟩ : ∃ pp, pp = some (⟨g2, 0, none⟩ : Addr) := ⟨_, rfl⟩
          have HPP : Hid (pp = some (⟨g2, 0, none⟩ : Addr)) := hpp
          have k3 : ∀ w, (Instr.slice 37 (.slice pp N N) (some (.int .i64 ((64 * k : Nat) : Int))) (some (.int .i64 (((64 * k : Nat) : Int) + 64))) none).run Tryz.prog w = .ok (.slice (cutP pp N (64 * k)) 64 (N - 64 * k)) w := by
            intro w
            have := run_cut2 (P := Tryz.prog) Tryz.underlying37 s_u8 pp N N (64 * k) (64 * k + 64) _ (((64 * k : Nat) : Int) + 64) rfl (by omega) (by omega) (by omega) w
            rwa [Nat.add_sub_cancel_left] at this
          rw [← hpp] at hcut ⊢
          clear hpp
          generalize (T.drop (64 * k)).take 64 = X at *
          generalize mixes S1 T k = S at *
          have HN1 : Hid (mixes S1 T (k + 1) = mixF S X) := HN
          have HC : Hid (X.length = 64) := hc64
          clear HN hc64
          obtain ⟨n, hn⟩ : ∃ n, n = 64 * k := ⟨_, rfl⟩
          rw [← hn] at hcut k3 hlt hk ⊢
          have Hn : Hid (n = 64 * k) := hn
          clear hn
          have htest : (n : Int) < (N : Int) := by omega
          have hwr : IntKind.i64.wrap ((n : Int) + 64) = (n : Int) + 64 := by rw [IntKind.wrap_i64]; omega
          have hwr2 : wrap64 ((n : Int) + 64) = (n : Int) + 64 := IntWalk.wrap64_in _ ⟨by omega, by omega⟩
          obtain ⟨c0, c1, c2, c3, c4, c5, c6, c7, f0, f1, f2, f3, f4, f5, f6, f7⟩ := ar8 hA
          have hcd : HB wr.drew (.slice (cutP pp N n) 64 (N - n)) X := hcut
          clear hw1
          go_wp2
          go_region_with (go_at_call 158; refine (mix_lit S _ X _ (by exact hcd) HC.out (by exact hT.2.later hbe.drew)).mono ?_; rintro e w2 ⟨M, hM, rfl, hb2⟩; have hA2 : AR w2 w.heap.size 217 (stL S) := hA.drew.later hb2; obtain ⟨d0, d1, d2, d3, d4, d5, d6, d7, e0, e1, e2, e3, e4, e5, e6, e7⟩ := ar8 hA2)
          have hA3 := hA2.put8 M
          have hb3 : Below w.heap.size w (put8 w2 w.heap.size M) := below_put8 (hbe.drew.trans (hb2.mono hbe.size)) (Nat.le_refl _) M
          have hhd : HB wr.drew (.slice (some ⟨g2, 0, none⟩) N N) T := hh
          have hh3 : HB (put8 w2 w.heap.size M) (.slice (some ⟨g2, 0, none⟩) N N) T := (hhd.later hb2).put8 _ M (by omega)
          change Exit.inBlock _ _ _ _ (put8 w2 w.heap.size M)
          clear d0 d1 d2 d3 d4 d5 d6 d7 e0 e1 e2 e3 e4 e5 e6 e7 c0 c1 c2 c3 c4 c5 c6 c7 f0 f1 f2 f3 f4 f5 f6 f7 hA2 hb2 hA hbe hh hhd hcd hcut
          generalize put8 w2 w.heap.size M = w3 at *
          have hA4 : AR w3 w.heap.size 217 (stL (mixes S1 T (k + 1))) := by rw [HN1.out, ← hM.out]; exact hA3
          clear hA3
          go_wp2
          rw [HPP.out]
          exact ⟨⟨k + 1, by have := Hn.out; omega, by have := Hn.out; congr 1; omega, hA4, hb3, hh3⟩, by simp [intOf]; omega⟩
        · have hkB : k = Bn := by have := HNB.out; have := HMOD.out; omega
          have hkN : ¬ ((64 * k : Nat) : Int) < (N : Int) := by have := HMOD.out; omega
          have HSP : Hid (sha l = spellSt (mixes S1 T k)) := by show _ = _; rw [hkB]; exact HSH.out
          clear hlt hk hkB HSH
          generalize mixes S1 T k = S at *
          obtain ⟨c0, c1, c2, c3, c4, c5, c6, c7, f0, f1, f2, f3, f4, f5, f6, f7⟩ := ar8 hA
          go_wp2_with fail
          refine (spell_any S _).mono ?_
          rintro e w3 ⟨c3, rfl, ho3, hb3⟩
          have hb03 := hbe.trans (hb3.mono hbe.size)
          have ho4 : w3.ownsRow w.heap.size 5 1 (.slice (some ⟨wr.heap.size + 1, 0, none⟩) 32 c3) 32 (bcs (sha l)) := by rw [HSP.out]; exact owns_mono ho3 hbe.size
          go_wp2
          go_ret
          exact ⟨_, rfl, ho4, hb03⟩

end Go.Proofs.YtcgpgnajmfemhaaGreatDoor
