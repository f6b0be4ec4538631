/- What this text proves: the walks of slices.Index and slices.Contains at a slice of numbers over this program. -/
import Derived.Test.YtikkldjghgcaeaaDoorInts
namespace Go.Proofs.YtikkldjghgcaeaaDoor
open Go.RowKit

/-- Where a number stands first in a list. -/
def ixI (l : List Nat) (x : Nat) : Int := if x ∈ l then (l.idxOf x : Int) else -1

theorem ixI_at (l : List Nat) (x k : Nat) (h : l[k]? = some x) (hn : x ∉ l.take k) : ixI l x = (k : Int) := by
  have hk := (List.getElem?_eq_some_iff.1 h).1
  have hm : x ∈ l := List.mem_of_getElem? h
  unfold ixI
  rw [if_pos hm]
  have e : l = l.take k ++ x :: l.drop (k + 1) := by
    conv => lhs; rw [← List.take_append_drop k l]
    congr 1
    rw [List.drop_eq_getElem_cons hk]
    congr 1
    exact (List.getElem?_eq_some_iff.1 h).2
  have e2 : l.idxOf x = k := by
    conv => lhs; rw [e]
    rw [List.idxOf_append, if_neg hn]
    simp
    omega
  rw [e2]

set_option maxHeartbeats 1000000 in
theorem index_any (v : Value) (l : List Nat) (x : Nat) (w : World) (h : IA w v l) :
    Calls Tryd.prog 19 #[v, .int .i64 (x : Int)] w fun e w' => e = .returned (.int .i64 (ixI l x)) ∧ w' = w := by
  obtain ⟨p, c, rfl⟩ := h.shape
  have hm := h.len_le
  unfold maxLen at hm
  have HI : Hid (∀ k, l[k]? = some x → x ∉ l.take k → ixI l x = (k : Int)) := fun k h1 h2 => ixI_at l x k h1 h2
  have HN : Hid (x ∉ l → ixI l x = -1) := fun hn => by unfold ixI; rw [if_neg hn]
  generalize ixI l x = R at *
  go_enter Tryd.func19, Tryd.ntmps19
  go_wp2
  go_loopw [8] (fun i wr => ∃ k : Nat, k ≤ l.length ∧ i = .int .i64 k ∧ Hid (x ∉ l.take k) ∧ wr = w) (fun i _ => l.length - (intOf i).toNat)
  case atStart => exact ⟨0, Nat.zero_le _, rfl, fun h => by simp at h, rfl⟩
  case round =>
    obtain ⟨k, hk, rfl, hno, hwr⟩ := hrel
    subst hwr
    by_cases hlt : k < l.length
    · obtain ⟨b, o, rfl, f1⟩ := h.addr (by omega)
      have c1 := f1 k l[k] (List.getElem?_eq_getElem hlt)
      have HY : Hid (l[k]? = some l[k]) := List.getElem?_eq_getElem hlt
      generalize l[k] = y at *
      clear f1
      have hlt2 : (k : Int) < (l.length : Int) := by omega
      by_cases hxy : x = y
      · have HR : Hid (R = (k : Int)) := HI.out k (by rw [hxy]; exact HY.out) hno.out
        have hb : ((x : Int) == (y : Int)) = true := by simp; omega
        have hb2 : decide ((x : Int) = (y : Int)) = true := by simp; omega
        clear hxy HI HN
        go_wp2
        go_ret
        rw [HR.out]
        exact ⟨rfl, rfl⟩
      · have hb : ((x : Int) == (y : Int)) = false := by simp; omega
        have hb2 : decide ((x : Int) = (y : Int)) = false := by simp; omega
        have HN2 : Hid (x ∉ l.take (k + 1)) := by
          show ¬ _
          rw [List.take_add_one, HY.out]
          have := hno.out
          simp [this]
          exact hxy
        clear hxy HI HN
        go_wp2
        go_roundw
        case rel => first | exact ⟨k + 1, by omega, by go_num, HN2, trivial⟩ | ((repeat apply Exists.intro); exact ⟨⟨k + 1, by omega, by go_num, HN2, trivial⟩, rfl⟩)
        case measure => simp [intOf]; omega
    · have HR : Hid (R = -1) := HN.out (by have := hno.out; rwa [List.take_of_length_le (by omega)] at this)
      clear HI HN
      go_wp2
      go_ret
      rw [HR.out]
      exact ⟨rfl, rfl⟩

set_option maxHeartbeats 1000000 in
theorem contains_yes (v : Value) (l : List Nat) (x : Nat) (w : World) (h : IA w v l) (hx : x ∈ l) :
    Calls Tryd.prog 15 #[v, .int .i64 (x : Int)] w fun e w' => e = .returned (.bool true) ∧ w' = w := by
  have hI := index_any v l x w h
  have e : ixI l x = ((l.idxOf x : Nat) : Int) := by unfold ixI; rw [if_pos hx]
  rw [e] at hI
  generalize l.idxOf x = K at *
  clear h hx e
  go_enter Tryd.func15, Tryd.ntmps15
  go_wp2_with fail
  refine hI.mono ?_
  rintro y w1 ⟨rfl, hw⟩
  subst hw
  clear hI
  go_wp2
  go_ret
  exact ⟨by simp, rfl⟩

end Go.Proofs.YtikkldjghgcaeaaDoor
