/- What this text proves: the walks of slices.EqualFunc and SameTexts over this program: they answer whether two slices of slices of bytes hold the same, and leave the world as it was. -/
import Derived.Test.YtahfjemllkbpgaaGreatDoorEqual
namespace Go.Proofs.YtahfjemllkbpgaaGreatDoor
open Go.RowKit

/-- The first k of both are the same. -/
def same (ls ms : List (List UInt8)) (k : Nat) : Prop := ∀ j, j < k → ls[j]? = ms[j]?

theorem same_all {ls ms : List (List UInt8)} (h : ls.length = ms.length) (hs : same ls ms ls.length) : ls = ms := by
  apply List.ext_getElem? 
  intro i
  by_cases hi : i < ls.length
  · exact hs i hi
  · rw [List.getElem?_eq_none (by omega), List.getElem?_eq_none (by omega)]

theorem same_step {ls ms : List (List UInt8)} {k : Nat} {l m : List UInt8} (hs : same ls ms k) (h1 : ls[k]? = some l) (h2 : ms[k]? = some m) (h : (l == m) = true) : same ls ms (k + 1) := by
  intro j hj
  rcases Nat.lt_succ_iff_lt_or_eq.1 hj with h' | rfl
  · exact hs j h'
  · rw [h1, h2, beq_iff_eq.1 h]

theorem same_not {ls ms : List (List UInt8)} {k : Nat} {l m : List UInt8} (h1 : ls[k]? = some l) (h2 : ms[k]? = some m) (h : (l == m) = false) : (ls == ms) = false := by
  rw [beq_eq_false_iff_ne] at h ⊢
  intro e
  subst e
  rw [h1] at h2
  exact h (by simpa using h2)

set_option maxRecDepth 100000 in
set_option maxHeartbeats 1000000 in
theorem eqfunc_any (a b : Value) (ls ms : List (List UInt8)) (w : World) (ha : PA w a ls) (hb : PA w b ms) :
    Calls Tryz.prog 27 #[a, b, .func (.func 14) #[] #[]] w fun e w' => e = .returned (.bool (ls == ms)) ∧ w' = w := by
  obtain ⟨p, c, rfl⟩ := ha.shape
  obtain ⟨q, d, rfl⟩ := hb.shape
  have hla := ha.len.2
  have hlb := hb.len.2
  unfold maxLen at hla hlb
  by_cases hlen : ls.length = ms.length
  · have hne : ((ls.length : Int) != (ms.length : Int)) = false := by simp [hlen]
    by_cases h0 : ls.length = 0
    · have e1 : ls = [] := List.eq_nil_of_length_eq_zero h0
      have e2 : ms = [] := List.eq_nil_of_length_eq_zero (by omega)
      subst e1; subst e2
      clear hlen h0 hne ha hb hla hlb
      go_enter Tryz.func27, Tryz.ntmps27
      go_wp2
      refine wp_loop_rounds 1 ?_
      rw [rounds_succ]
      go_wp2
      go_ret
      exact ⟨rfl, rfl⟩
    · obtain ⟨b1, o1, rfl⟩ := ha.addr (by omega)
      obtain ⟨b2, o2, rfl⟩ := hb.addr (by omega)
      have HL : Hid (ls.length = ms.length) := hlen
      have hge : ls.length ≤ ms.length := by omega
      clear hlen
      go_enter Tryz.func27, Tryz.ntmps27
      go_wp2
      go_loop [17] (fun i => ∃ k : Nat, k ≤ ls.length ∧ i = .int .i64 k ∧ same ls ms k) (fun i => ls.length - (intOf i).toNat)
      case atStart => exact ⟨0, Nat.zero_le _, rfl, fun j hj => absurd hj (Nat.not_lt_zero _)⟩
      case round =>
        obtain ⟨k, hk, rfl, hs⟩ := hrel
        by_cases hlt : k < ls.length
        · obtain ⟨q1, k1, l1, g1, hc1, hb1⟩ := ha.get k hlt
          obtain ⟨q2, k2, l2, g2, hc2, hb2⟩ := hb.get k (by omega)
          by_cases heq : (l1 == l2) = true
          · go_wp2_with (go_at_call 14; refine (equal_any _ _ _ _ _ hb1 hb2).mono ?_; rintro e w' ⟨rfl, rfl⟩)
            go_round
            case rel => exact ⟨k + 1, by omega, by go_num, same_step hs g1.out g2.out heq⟩
            case measure => simp [intOf]; omega
          · have hf : (l1 == l2) = false := by simpa using heq
            clear heq
            have HN : Hid ((ls == ms) = false) := same_not g1.out g2.out hf
            go_wp2_with (go_at_call 14; refine (equal_any _ _ _ _ _ hb1 hb2).mono ?_; rintro e w' ⟨rfl, rfl⟩)
            go_ret
            exact ⟨by simp [HN.out], rfl⟩
        · have hkl : k = ls.length := by omega
          have HS : Hid (ls = ms) := same_all HL.out (by rw [← hkl]; exact hs)
          clear hs hkl
          go_wp2
          go_ret
          exact ⟨by simp [HS.out], rfl⟩
  · have hne : ((ls.length : Int) != (ms.length : Int)) = true := by simp; omega
    have hf : (ls == ms) = false := by
      rw [beq_eq_false_iff_ne]
      intro e
      exact hlen (by rw [e])
    have HF : Hid ((ls == ms) = false) := hf
    clear hf hlen
    go_enter Tryz.func27, Tryz.ntmps27
    go_wp2
    go_ret
    exact ⟨by simp [HF.out], rfl⟩

set_option maxRecDepth 100000 in
set_option maxHeartbeats 400000 in
theorem same_any (a b : Value) (ls ms : List (List UInt8)) (w : World) (ha : PA w a ls) (hb : PA w b ms) :
    Calls Tryz.prog 11 #[a, b] w fun e w' => e = .returned (.bool (ls == ms)) ∧ w' = w := by
  obtain ⟨p, c, rfl⟩ := ha.shape
  obtain ⟨q, d, rfl⟩ := hb.shape
  go_enter Tryz.func11, Tryz.ntmps11
  go_wp2_with (go_at_call 27; refine (eqfunc_any _ _ _ _ _ ha hb).mono ?_; rintro e w' ⟨rfl, rfl⟩)
  go_ret
  exact ⟨rfl, rfl⟩

theorem same_t (a b : Value) (ls ms : List (List UInt8)) (w : World) (ha : PA w a ls) (hb : PA w b ms) (h : ls = ms) :
    Calls Tryz.prog 11 #[a, b] w fun e w' => e = .returned (.bool true) ∧ w' = w := (same_any a b ls ms w ha hb).mono fun e w' ⟨he, hw⟩ => ⟨by rw [he, h]; simp, hw⟩
theorem same_f (a b : Value) (ls ms : List (List UInt8)) (w : World) (ha : PA w a ls) (hb : PA w b ms) (h : ls ≠ ms) :
    Calls Tryz.prog 11 #[a, b] w fun e w' => e = .returned (.bool false) ∧ w' = w := (same_any a b ls ms w ha hb).mono fun e w' ⟨he, hw⟩ => ⟨by rw [he, beq_eq_false_iff_ne.2 h], hw⟩

end Go.Proofs.YtahfjemllkbpgaaGreatDoor
