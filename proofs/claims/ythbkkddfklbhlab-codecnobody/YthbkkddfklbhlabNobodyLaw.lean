/- What this text proves: the walk of the statement CodecNobody over this program: it answers true for any number. -/
import Derived.Test.YthbkkddfklbhlabRdBase
import Derived.Test.YthbkkddfklbhlabCPuts
namespace Go.Proofs.Ythbkkddfklbhlab
open Go.RowKit

/-- A reader that no call made. -/
def NB (w : World) (q : Value) : Prop := q = .pointer none ∨ ∃ g, q = .pointer (some ⟨g, 0, none⟩) ∧ RD w g (.slice none 0 0) 0 false

theorem nb_err (q : Value) (w : World) (h : NB w q) : Calls Try.prog 16 #[q] w fun e w' => e = .returned (.int .i64 2) ∧ w' = w := by
  rcases h with rfl | ⟨g, rfl, h⟩
  · exact rerr_nil w
  · exact rerr_any g _ _ false w h

theorem nb_left (q : Value) (w : World) (h : NB w q) : Calls Try.prog 17 #[q] w fun e w' => e = .returned (.int .i64 0) ∧ w' = w := by
  rcases h with rfl | ⟨g, rfl, h⟩
  · exact rleft_nil w
  · exact rleft_any g none 0 0 _ false w h

theorem nb_end (q : Value) (w : World) (h : NB w q) : Calls Try.prog 18 #[q] w fun e w' => e = .returned (.int .i64 2) ∧ w' = w := by
  rcases h with rfl | ⟨g, rfl, h⟩
  · exact rend_nil w
  · exact rend_any g none 0 0 _ false w h

set_option maxHeartbeats 400000 in
theorem nb_uint (q : Value) (n : Int) (w : World) (h : NB w q) : Calls Try.prog 9 #[q, .int .i64 n] w fun e w' => e = .returned (.int .i64 0) ∧ w' = w := by
  have he := nb_err q w h
  clear h
  go_enter Try.func9, Try.ntmps9
  go_wp2_with (first | (go_at_call 16; refine he.mono ?_; rintro e w' ⟨rfl, rfl⟩))
  go_ret
  exact ⟨rfl, rfl⟩

set_option maxHeartbeats 400000 in
theorem nb_bytes (q : Value) (n : Int) (w : World) (h : NB w q) : Calls Try.prog 12 #[q, .int .i64 n] w fun e w' => e = .returned (.slice none 0 0) ∧ w' = w := by
  have he := nb_err q w h
  have hu := nb_uint q n w h
  clear h
  go_enter Try.func12, Try.ntmps12
  go_wp2_with (first | (go_at_call 16; refine he.mono ?_; rintro e w' ⟨rfl, rfl⟩) | (go_at_call 9; refine hu.mono ?_; rintro e w' ⟨rfl, rfl⟩))
  go_ret
  exact ⟨rfl, rfl⟩

set_option maxHeartbeats 400000 in
theorem nb_flag (q : Value) (w : World) (h : NB w q) : Calls Try.prog 14 #[q] w fun e w' => e = .returned (.bool false) ∧ w' = w := by
  have he := nb_err q w h
  clear h
  go_enter Try.func14, Try.ntmps14
  go_wp2_with (first | (go_at_call 16; refine he.mono ?_; rintro e w' ⟨rfl, rfl⟩))
  go_ret
  exact ⟨rfl, rfl⟩

/-- The world in which the statement's loop goes. -/
def nobodyW (w : World) : World := (w.alloc (.cells #[.slice none 0 0, .int .i64 0, .bool false] 47)).alloc (.cells #[.pointer none, .pointer (some ⟨w.heap.size, 0, none⟩)] 25)

theorem nobody_facts (w : World) : (nobodyW w).cell? ⟨w.heap.size + 1, 0, none⟩ = some (.pointer none) ∧ (nobodyW w).cell? ⟨w.heap.size + 1, 1, none⟩ = some (.pointer (some ⟨w.heap.size, 0, none⟩)) ∧ NB (nobodyW w) (.pointer (some ⟨w.heap.size, 0, none⟩)) ∧ Below w.heap.size w (nobodyW w) := by
  have hg : (nobodyW w).heap[w.heap.size + 1]? = some (.cells #[.pointer none, .pointer (some ⟨w.heap.size, 0, none⟩)] 25) := by
    have := heap_alloc_new (w.alloc (.cells #[.slice none 0 0, .int .i64 0, .bool false] 47)) (.cells #[.pointer none, .pointer (some ⟨w.heap.size, 0, none⟩)] 25)
    rwa [World.size_alloc] at this
  refine ⟨?_, ?_, .inr ⟨_, rfl, ?_⟩, ((Below.refl _ w).alloc (Nat.le_refl _) _).alloc (by simp) _⟩
  · rw [cell_of_row _ _ 0 _ _ _ hg]; rfl
  · rw [cell_of_row _ _ 1 _ _ _ hg]; rfl
  · unfold RD nobodyW
    rw [Below.heap_alloc _ _ _ (by simp)]
    exact heap_alloc_new w _

set_option maxHeartbeats 2000000 in
theorem nobodyWalk (n : Int) (w : World) :
    Calls Try.prog 6 #[.int .i64 n] w fun e w' => e = .returned (.bool true) ∧ Below w.heap.size w w' := by
  obtain ⟨c0, c1, nb, hb⟩ := nobody_facts w
  have ha := codecAwake_any (nobodyW w)
  go_enter Try.func6, Try.ntmps6
  go_wp2
  have HW : Hid ((w.alloc (.cells #[.slice none 0 0, .int .i64 0, .bool false] 47)).alloc (.cells #[.pointer none, .pointer (some ⟨w.heap.size, 0, none⟩)] 25) = nobodyW w) := rfl
  rw [HW.out]
  generalize nobodyW w = W at *
  have nb0 : NB W (.pointer none) := .inl rfl
  clear HW
  go_loopw [9] (fun i wr => ∃ k : Nat, k ≤ 2 ∧ i = .int .i64 k ∧ W = wr) (fun i _ => 2 - (intOf i).toNat)
  case atStart => exact ⟨0, by omega, rfl, rfl⟩
  case round =>
    obtain ⟨k, hk, rfl, rfl⟩ := hrel
    match k, hk with
    | 0, _ =>
      have h1 := nb_err _ _ nb0
      have h2 := nb_left _ _ nb0
      have h3 := nb_end _ _ nb0
      have h4 := nb_uint _ n _ nb0
      have h5 := nb_bytes _ n _ nb0
      have h6 := nb_flag _ _ nb0
      clear nb nb0 ha
      go_wp2_with (first | (go_at_call 16; refine h1.mono ?_; rintro e w' ⟨rfl, hw⟩; subst hw) | (go_at_call 17; refine h2.mono ?_; rintro e w' ⟨rfl, hw⟩; subst hw) | (go_at_call 18; refine h3.mono ?_; rintro e w' ⟨rfl, hw⟩; subst hw) | (go_at_call 9; refine h4.mono ?_; rintro e w' ⟨rfl, hw⟩; subst hw) | (go_at_call 12; refine h5.mono ?_; rintro e w' ⟨rfl, hw⟩; subst hw) | (go_at_call 14; refine h6.mono ?_; rintro e w' ⟨rfl, hw⟩; subst hw))
      exact ⟨⟨1, by omega, rfl, trivial⟩, by simp [intOf]⟩
    | 1, _ =>
      have h1 := nb_err _ _ nb
      have h2 := nb_left _ _ nb
      have h3 := nb_end _ _ nb
      have h4 := nb_uint _ n _ nb
      have h5 := nb_bytes _ n _ nb
      have h6 := nb_flag _ _ nb
      clear nb nb0 ha
      go_wp2_with (first | (go_at_call 16; refine h1.mono ?_; rintro e w' ⟨rfl, hw⟩; subst hw) | (go_at_call 17; refine h2.mono ?_; rintro e w' ⟨rfl, hw⟩; subst hw) | (go_at_call 18; refine h3.mono ?_; rintro e w' ⟨rfl, hw⟩; subst hw) | (go_at_call 9; refine h4.mono ?_; rintro e w' ⟨rfl, hw⟩; subst hw) | (go_at_call 12; refine h5.mono ?_; rintro e w' ⟨rfl, hw⟩; subst hw) | (go_at_call 14; refine h6.mono ?_; rintro e w' ⟨rfl, hw⟩; subst hw))
      exact ⟨⟨2, by omega, rfl, trivial⟩, by simp [intOf]⟩
    | 2, _ =>
      clear nb nb0
      go_wp2_with (first | (go_at_call 20; refine ha.mono ?_; rintro e w' ⟨rfl, hb2⟩))
      go_ret
      exact ⟨rfl, hb.trans (hb2.mono hb.size)⟩

end Go.Proofs.Ythbkkddfklbhlab
