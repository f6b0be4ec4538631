/- What this text proves: the walk of seglog.Open over this program, on a device whose sectors are noughts. -/
import Derived.Test.YtnmjggljicanmaaDoorSgWipe
namespace Go.Proofs.YtnmjggljicanmaaDoor
open Go.RowKit

set_option maxRecDepth 100000 in
set_option maxHeartbeats 400000 in
theorem stand_any (v : Value) (w : World) (p : Option Addr) (n c : Nat) (hv : v = .slice p n c) : Calls Tryd.prog 16 #[v] w fun e w' => e = .returned (.func (.func 32) #[] #[.pointer (some ⟨w.heap.size, 0, none⟩)]) ∧ w' = w.alloc (.cells #[v] 22) := by
  subst hv
  go_enter Tryd.func16, Tryd.ntmps16
  go_wp2
  go_ret
  exact ⟨rfl, rfl⟩

theorem new_cell (w : World) (v : Value) (t : TypeId) : (w.alloc (.cells #[v] t)).cell? ⟨w.heap.size, 0, none⟩ = some v := by
  rw [cell_of_row _ _ 0 _ _ _ (heap_alloc_new w (.cells #[v] t))]
  rfl

attribute [local go_sem] Oper.semAt_some

set_option maxRecDepth 100000 in
set_option maxHeartbeats 4000000 in
theorem open_new {bd bn bm : Nat} {s : DevS} {w : World} (h : Dev w bd bn bm s) (hz : ∀ r ∈ s.now, r = nulls) (hdead : s.dead = false) :
    Calls Tryd.prog 5 #[.pointer (some ⟨bd, 0, none⟩)] w fun e w' => ∃ g, e = .returned (.tuple #[.pointer (some ⟨g, 0, none⟩), .int .i64 0]) ∧ LB w' g bd (s.now.length : Int) 0 (.slice none 0 0) false ∧ w.heap.size ≤ g ∧ Below w.heap.size w w' := by
  have hp := h.ok.pos
  have hm := h.ok.most
  obtain ⟨r0, hr0⟩ : ∃ r0, s.now[0]? = some r0 := ⟨_, List.getElem?_eq_getElem (by omega)⟩
  have hRd := read_any h 0 r0 hr0 hdead
  have hIm := fun (W : World) (hb : Below w.heap.size w W) => image_any (h.later hb)
  have hnow : ∀ j, j < s.now.length → nowF s j = nulls := fun j hj => hz _ (List.mem_of_getElem? (nowF_row h.ok j hj).1)
  obtain ⟨SC, hSC⟩ : ∃ SC, SC = Obj.cells (bcs r0).toArray 60 := ⟨_, rfl⟩
  rw [← hSC] at hRd
  have hb1 : Below w.heap.size w (w.alloc SC) := (Below.refl _ w).alloc (Nat.le_refl _) SC
  have hIm1 := hIm _ hb1
  clear hIm hSC hr0
  generalize hN : s.now.length = N at *
  refine (callsIn_wide (n := 6)).1 ?_
  refine callsIn_of_wp_marks Tryd.func5 rfl trivial ?_ rfl
  simp only [Tryd.ntmps5, List.size_toArray, List.length_cons, List.length_nil, Nat.reduceAdd, Nat.reduceSub, Array.replicate_succ, Array.replicate_zero, List.push_toArray, List.append_toArray, List.nil_append, List.cons_append]
  gi_wp2_with (first
    | (refine ⟨trivial, ?_⟩; gi_at_call 15; refine (callsIn_wide.2 hRd).mono ?_; rintro e w1 ⟨rfl, rfl⟩)
    | (refine ⟨trivial, ?_⟩; gi_at_call 10; refine (callsIn_wide.2 hIm1).mono ?_; rintro e w2 ⟨gI, rfl, hI, hb2⟩)
    | (refine ⟨trivial, ?_⟩; gi_at_call 16; refine (callsIn_wide.2 (stand_any _ _ _ _ _ rfl)).mono ?_; rintro e w3 ⟨rfl, rfl⟩))
  have l1 : LB (w2.alloc (.cells #[.pointer (some ⟨bd, 0, none⟩), .int .i64 (N : Int), .int .i64 0, .slice none 0 0, .bool false] 45)) w2.heap.size bd (N : Int) 0 (.slice none 0 0) false := heap_alloc_new w2 _
  have b23 : Below w2.heap.size w2 (w2.alloc (.cells #[.pointer (some ⟨bd, 0, none⟩), .int .i64 (N : Int), .int .i64 0, .slice none 0 0, .bool false] 45)) := (Below.refl _ w2).alloc (Nat.le_refl _) _
  have s3 : (w2.alloc (.cells #[.pointer (some ⟨bd, 0, none⟩), .int .i64 (N : Int), .int .i64 0, .slice none 0 0, .bool false] 45)).heap.size = w2.heap.size + 1 := by simp
  generalize w2.alloc (.cells #[.pointer (some ⟨bd, 0, none⟩), .int .i64 (N : Int), .int .i64 0, .slice none 0 0, .bool false] 45) = w3 at *
  have b34 : Below w3.heap.size w3 ((w3.alloc (.cells #[.pointer (some ⟨w2.heap.size, 0, none⟩)] 28)).alloc (.cells #[.slice (some ⟨gI, 0, none⟩) N N] 22)) := ((Below.refl _ w3).alloc (Nat.le_refl _) _).alloc (by simp) _
  have k4 := cell_later ((Below.refl _ (w3.alloc (.cells #[.pointer (some ⟨w2.heap.size, 0, none⟩)] 28))).alloc (Nat.le_refl _) (.cells #[.slice (some ⟨gI, 0, none⟩) N N] 22)) (new_cell w3 (.pointer (some ⟨w2.heap.size, 0, none⟩)) 28)
  have k5 := new_cell (w3.alloc (.cells #[.pointer (some ⟨w2.heap.size, 0, none⟩)] 28)) (.slice (some ⟨gI, 0, none⟩) N N) 22
  rw [World.size_alloc] at k5
  have s4 : ((w3.alloc (.cells #[.pointer (some ⟨w2.heap.size, 0, none⟩)] 28)).alloc (.cells #[.slice (some ⟨gI, 0, none⟩) N N] 22)).heap.size = w3.heap.size + 2 := by simp
  generalize (w3.alloc (.cells #[.pointer (some ⟨w2.heap.size, 0, none⟩)] 28)).alloc (.cells #[.slice (some ⟨gI, 0, none⟩) N N] 22) = W4 at *
  rw [s3] at k4 k5
  have hI4 := (hI.later b23).later b34
  have himg : ∀ j, j < N → ∃ b, W4.cell? ⟨gI, j, none⟩ = some (.slice (some ⟨b, 0, none⟩) 64 64) ∧ HB W4 (.slice (some ⟨b, 0, none⟩) 64 64) nulls := fun j hj => by
    obtain ⟨b, e1, e2⟩ := hI4.get (fun j hj => by rw [hnow j hj]; exact nulls_len) j hj
    rw [hnow j hj] at e2
    exact ⟨b, e1, e2⟩
  have l4 := l1.same (b34.block _ l1.lt)
  have b04 : Below w.heap.size w W4 := ((hb1.trans (hb2.mono hb1.size)).trans (b23.mono (hb1.trans (hb2.mono hb1.size)).size)).trans (b34.mono (by have := (hb1.trans (hb2.mono hb1.size)).size; omega))
  have hsz : w.heap.size ≤ w2.heap.size := (hb1.trans (hb2.mono hb1.size)).size
  clear hI hI4 hIm1 hRd h hz hnow l1 b23 b34
  obtain ⟨bI, f1, f2⟩ := himg 0 (by omega)
  refine wpIn_rangeFunc_ownF rfl (by omega) (gf := 32) (lb := #[.pointer (some ⟨w2.heap.size + 1 + 1, 0, none⟩)]) rfl trivial (enters_of Tryd.func32 (by kernel_rfl) rfl)
    (stand_zero 5 (w2.heap.size + 1 + 1) gI N bI W4.heap.size W4 (by omega) hp hm k5 f1 f2) belowK_t (belowK_b (Nat.le_refl _)) (Below.refl _ _) (fun _ => rfl)
    (fun _ W => Below W4.heap.size W4 W) (fun _ _ _ => False)
    (ownFrom_below (Nat.le_refl _) (Nat.le_refl _))
    (fun _ _ _ _ _ hs _ _ => hs)
    (Below.refl _ _)
    (fun x => { tmps := #[.pointer (some ⟨bd, 0, none⟩), undef, .pointer none, .int .i64 0, .slice (some ⟨w.heap.size, 0, none⟩) 64 64, .int .i64 0, .slice (some ⟨gI, 0, none⟩) N N, .pointer (some ⟨w2.heap.size + 1, 0, none⟩), x, undef, .tuple #[.slice (some ⟨w.heap.size, 0, none⟩) 64 64, .int .i64 0], .pointer (some ⟨bd, 0, none⟩), .tuple #[.slice (some ⟨w.heap.size, 0, none⟩) 64 64, .int .i64 0], .slice (some ⟨w.heap.size, 0, none⟩) 64 64, .int .i64 0, .int .i64 0, .bool false, undef, .pointer (some ⟨bd, 0, none⟩), .slice (some ⟨gI, 0, none⟩) N N, .pointer (some ⟨bd, 0, none⟩), .slice (some ⟨gI, 0, none⟩) N N, .int .i64 (N : Int), .agg #[.pointer (some ⟨bd, 0, none⟩), .int .i64 (N : Int), .int .i64 0, .slice none 0 0, .bool false], .pointer (some ⟨w2.heap.size, 0, none⟩), .slice (some ⟨gI, 0, none⟩) N N, .func (.func 32) #[] #[.pointer (some ⟨w2.heap.size + 1 + 1, 0, none⟩)], x, undef, undef, undef, undef, undef, undef, undef, undef, undef, undef], defers := [] }) ?assign ?body ?done ?stop
  case assign =>
    intro l x W K hK
    gi_wp2
    exact hK
  case body =>
    intro l pre x W _ h
    exact absurd h (Nat.not_lt_zero _)
  case stop =>
    intro D c pre W _ h
    exact h.elim
  case done =>
    intro D xs W hD _ hB hK
    have l5 := l4.same (hB.block _ l4.lt)
    have k6 := cell_later hB k4
    have hW := wipe_zero (gi := gI) (N := N) (k := 0) l5 (Nat.zero_le _) hm (fun j _ hj => by
      obtain ⟨b, e1, e2⟩ := himg j hj
      exact ⟨b, cell_later hB e1, e2.later hB⟩)
    clear himg f1 f2 k5
    gi_wp2_with (refine ⟨trivial, ?_⟩; gi_at_call 18; refine (callsIn_wide.2 hW).mono ?_; rintro e w5 ⟨rfl, hb5⟩; have k7 := cell_later hb5 k6)
    have hK5 := (hb5.block D (Array.getElem?_eq_some_iff.1 hK).1).trans hK
    have l6 := l5.same (hb5.block _ l5.lt)
    have bP := fun o => belowK_b (w := W4) (Nat.le_refl W4.heap.size) w5 D _ o hD hK5 rfl rfl
    have b05 : Below W4.heap.size W4 w5 := hB.trans (hb5.mono hB.size)
    have lt4 := l4.lt
    refine ⟨by simp, .inl ⟨_, _, rfl, run_takeDeferred hK5, ?_⟩⟩
    exact ⟨_, results_tmp2 rfl _ _ _, _, rfl, l6.same ((bP _).block _ lt4), hsz, (b04.trans ((b05.trans (bP _)).mono b04.size))⟩

end Go.Proofs.YtnmjggljicanmaaDoor
