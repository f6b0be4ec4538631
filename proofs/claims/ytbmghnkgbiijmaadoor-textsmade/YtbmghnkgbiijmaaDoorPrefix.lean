/- What this text proves: the walk of bytes.HasPrefix over this program. -/
import Derived.Test.YtbmghnkgbiijmaaDoorEqual
namespace Go.Proofs.YtbmghnkgbiijmaaDoor
open Go.RowKit

theorem HB.front {w : World} {p : Option Addr} {n c : Nat} {l : List UInt8} (h : HB w (.slice p n c) l) (k : Nat) (hk : k ≤ n) : HB w (.slice p k c) (l.take k) := by
  have hl := h.len
  have := h.cut 0 k c (Nat.zero_le _) hk (by omega) (Nat.le_refl _)
  have e : cutP p c 0 = p := by
    unfold cutP
    split
    · rfl
    · cases p <;> simp [Addr.add]
  rwa [e, Nat.sub_zero, List.drop_zero, Nat.sub_zero] at this

set_option maxHeartbeats 400000 in
theorem prefix_any (a b : Value) (l m : List UInt8) (w : World) (ha : HB w a l) (hb : HB w b m) :
    Calls Tryd.prog 15 #[a, b] w fun e w' => e = .returned (.bool (decide (m.length ≤ l.length) && (l.take m.length == m))) ∧ w' = w := by
  obtain ⟨p, c, rfl⟩ := ha.shape
  obtain ⟨q, d, rfl⟩ := hb.shape
  have hl := ha.len.2
  have hm := hb.len.2
  unfold maxLen at hl hm
  by_cases hle : m.length ≤ l.length
  · have k1 := fun w => run_upto (P := Tryd.prog) Tryd.underlying22 s_u8 p l.length c m.length (m.length : Int) rfl (by omega) w
    have hf := ha.front m.length hle
    have hd : decide ((m.length : Int) ≤ (l.length : Int)) = true := by simp; omega
    have HD : Hid (decide (m.length ≤ l.length) = true) := by show decide (m.length ≤ l.length) = true; simpa using hle
    clear ha
    go_enter Tryd.func15, Tryd.ntmps15
    go_wp2_with (go_at_call 9; refine (equal_any _ _ _ _ _ hf hb).mono ?_; rintro e w' ⟨rfl, rfl⟩)
    go_ret
    exact ⟨by rw [HD.out]; rfl, rfl⟩
  · have hd : decide ((m.length : Int) ≤ (l.length : Int)) = false := by simp; omega
    have HD : Hid (decide (m.length ≤ l.length) = false) := by show decide (m.length ≤ l.length) = false; simpa using hle
    clear ha hb
    go_enter Tryd.func15, Tryd.ntmps15
    go_wp2
    go_ret
    exact ⟨by rw [HD.out]; rfl, rfl⟩

theorem prefix_t (a b : Value) (l m : List UInt8) (w : World) (ha : HB w a l) (hb : HB w b m) (h1 : m.length ≤ l.length) (h2 : l.take m.length = m) :
    Calls Tryd.prog 15 #[a, b] w fun e w' => e = .returned (.bool true) ∧ w' = w :=
  (prefix_any a b l m w ha hb).mono fun e w' ⟨he, hw⟩ => ⟨by rw [he, h2]; simp [h1], hw⟩

end Go.Proofs.YtbmghnkgbiijmaaDoor
