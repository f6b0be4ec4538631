/- What this text proves: the walk of the statements' 'few' over this program: the first ten of a list of parts; and what Text answers, in three words. -/
import Derived.Test.YtbmghnkgbiijmaaDoorText
namespace Go.Proofs.YtbmghnkgbiijmaaDoor
open Go.RowKit

theorem PA.take {w : World} {p : Option Addr} {n c : Nat} {ls : List (List UInt8)} (h : PA w (.slice p n c) ls) (k : Nat) (hk : k ≤ n) : PA w (.slice p k c) (ls.take k) := by
  obtain ⟨p', cap, vs, e, h1, h2, h3, h4, h5, h6⟩ := h
  simp only [Value.slice.injEq] at e
  obtain ⟨rfl, rfl, rfl⟩ := e
  refine ⟨p, c, vs.take k, ?_, by simp; omega, h2, h3, by simp [h4], fun hne => ?_, fun i x l hx hl => ?_⟩
  · congr 1
    simp
    omega
  · obtain ⟨b, o, e, hc⟩ := h5 (fun e => by subst e; simp at hne)
    refine ⟨b, o, e, fun i x hx => hc i x ?_⟩
    rw [List.getElem?_take] at hx
    split at hx
    · exact hx
    · cases hx
  · rw [List.getElem?_take] at hx hl
    split at hx
    · rename_i hik
      rw [if_pos hik] at hl
      exact h6 i x l hx hl
    · cases hx

set_option maxHeartbeats 400000 in
theorem few_any (v : Value) (ls : List (List UInt8)) (w : World) (h : PA w v ls) :
    Calls Tryd.prog 18 #[v] w fun e w' => ∃ p n c, e = .returned (.slice p n c) ∧ PA w (.slice p n c) (ls.take 10) ∧ w' = w := by
  obtain ⟨p, c, rfl⟩ := h.shape
  have hl := h.len.2
  unfold maxLen at hl
  by_cases h10 : ls.length ≤ 10
  · have k1 := fun w => run_upto (P := Tryd.prog) Tryd.underlying32 s_bytes p ls.length c ls.length (ls.length : Int) rfl hl.1 w
    have e : ls.take 10 = ls := List.take_of_length_le h10
    have hp : PA w (.slice p ls.length c) (ls.take 10) := by rw [e]; exact h
    clear h e
    have hm : min (ls.length : Int) 10 = (ls.length : Int) := by omega
    go_enter Tryd.func18, Tryd.ntmps18
    go_wp2
    go_ret
    exact ⟨_, _, _, rfl, hp, rfl⟩
  · have k1 := fun w => run_upto (P := Tryd.prog) Tryd.underlying32 s_bytes p ls.length c 10 10 rfl (by omega) w
    have hp : PA w (.slice p 10 c) (ls.take 10) := h.take 10 (by omega)
    clear h
    have hm : min (ls.length : Int) 10 = 10 := by omega
    go_enter Tryd.func18, Tryd.ntmps18
    go_wp2
    go_ret
    exact ⟨_, _, _, rfl, hp, rfl⟩

/-- Whether there is a text of a tag and parts. -/
def texty (tag : Int) (ls : List (List UInt8)) : Prop := (0 ≤ tag ∧ tag ≤ 255) ∧ fits ls

theorem text_bad (tag : Int) (v : Value) (ls : List (List UInt8)) (w : World) (h : PA w v ls) (hn : ls.length ≤ 1048576) (hb : ¬ texty tag ls) :
    Calls Tryd.prog 19 #[.int .i64 tag, v] w fun e w' => ∃ er, e = .returned (.tuple #[.slice none 0 0, .int .i64 er]) ∧ (er != 0) = true ∧ (er == 0) = false ∧ Below w.heap.size w w' := by
  by_cases ht : 0 ≤ tag ∧ tag ≤ 255
  · exact (text_full tag v ls w ht.1 ht.2 h hn (fun hf => hb ⟨ht, hf⟩)).mono fun e w' ⟨he, hw⟩ => ⟨4, he, rfl, rfl, by subst hw; exact Below.refl _ _⟩
  · obtain ⟨p, c, e⟩ := h.shape
    exact (text_arg tag v w p _ c e (by omega)).mono fun e w' ⟨he, hw⟩ => ⟨1, he, rfl, rfl, by subst hw; exact Below.refl _ _⟩

theorem text_good (tag : Int) (v : Value) (ls : List (List UInt8)) (w : World) (h : PA w v ls) (hn : ls.length ≤ 1048576) (hb : texty tag ls) :
    Calls Tryd.prog 19 #[.int .i64 tag, v] w fun e w' => ∃ p n c, e = .returned (.tuple #[.slice p n c, .int .i64 0]) ∧ HB w' (.slice p n c) (UInt8.ofNat tag.toNat :: body ls) ∧ Below w.heap.size w w' := by
  refine (text_ok tag v ls w hb.1.1 hb.1.2 h hn hb.2).mono fun e w' ⟨v', he, ho, hbe⟩ => ?_
  have hh := HB.of_owns ho
  obtain ⟨p, c, hv⟩ := hh.shape
  subst hv
  exact ⟨_, _, _, he, hh, hbe⟩

theorem text_gen (tag : Int) (v : Value) (ls : List (List UInt8)) (w : World) (h : PA w v ls) (hn : ls.length ≤ 1048576) :
    Calls Tryd.prog 19 #[.int .i64 tag, v] w fun e w' => ∃ p n c er, e = .returned (.tuple #[.slice p n c, .int .i64 er]) ∧ Below w.heap.size w w' := by
  by_cases hb : texty tag ls
  · exact (text_good tag v ls w h hn hb).mono fun e w' ⟨p, n, c, he, _, hbe⟩ => ⟨p, n, c, 0, he, hbe⟩
  · exact (text_bad tag v ls w h hn hb).mono fun e w' ⟨er, he, _, _, hbe⟩ => ⟨none, 0, 0, er, he, hbe⟩

end Go.Proofs.YtbmghnkgbiijmaaDoor
