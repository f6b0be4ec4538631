/- What this text proves: one step of the code's reader and one of the document's answer alike, whatever is read (any state of theirs). -/
import Derived.Test.YtpnginemjcphcaaReadsPre
namespace Go.Proofs.Ytpnginemjcphcaa
open Go.RowKit

theorem only_cell {g b i : Nat} {w w' : World} {v : Value} (ho : Only g w w') (h : w.cell? ⟨b, i, none⟩ = some v) (hne : b ≠ g) : w'.cell? ⟨b, i, none⟩ = some v :=
  (World.cell?_of_block (ho.block b hne (cell_lt h))).trans h

theorem bytesF_fell (l : List UInt8) (most : Int) (h : (bytesF l most).1 ≠ 0) : (bytesF l most).2.2 = [] := by
  unfold bytesF at h ⊢
  simp only at h ⊢
  split
  · rfl
  · rename_i h1
    rw [if_neg h1] at h
    split
    · rfl
    · rename_i h2
      rw [if_neg h2] at h
      exact absurd rfl h

theorem bytesF_le (l : List UInt8) (most : Int) : (bytesF l most).2.2.length ≤ l.length := by
  have := uintF_le l most
  unfold bytesF
  simp only
  split
  · simp
  · split
    · simp
    · simp only [List.length_drop]
      omega

theorem flagF_fell (l : List UInt8) (h : (flagF l).1 ≠ 0) : (flagF l).2.2 = [] := by
  cases l with
  | nil => rfl
  | cons x r =>
    unfold flagF at h ⊢
    simp only at h ⊢
    split
    · rfl
    · rename_i h1
      rw [if_neg h1] at h
      exact absurd rfl h

theorem flagF_le (l : List UInt8) : (flagF l).2.2.length ≤ l.length := by
  cases l with
  | nil => simp [flagF]
  | cons x r =>
    unfold flagF
    simp only
    split <;> simp

theorem step_uint (g gx : Nat) (l : List UInt8) (e most : Int) (he : e ≠ 0 → l = []) (hsz : l.length ≤ 140737488355328) : ∃ (N : Int) (l' : List UInt8) (e' : Int), (e' ≠ 0 → l' = []) ∧ l'.length ≤ l.length ∧
    (∀ w, RR w g l e → Calls Try.prog 7 #[.pointer (some ⟨g, 0, none⟩), .int .i64 most] w fun x w' => x = .returned (.int .i64 N) ∧ RR w' g l' e' ∧ Only g w w') ∧
    (∀ w, XR w gx l e → Calls Try.prog 8 #[.pointer (some ⟨gx, 0, none⟩), .int .i64 most] w fun x w' => x = .returned (.int .i64 N) ∧ XR w' gx l' e' ∧ Only gx w w') := by
  by_cases h0 : e = 0
  · subst h0
    refine ⟨(uintF l most).2.1, (uintF l most).2.2, (uintF l most).1, fun h => ?_, uintF_le l most, fun w h => uint_any g l most w h, fun w h => xuint_any gx l most w h hsz⟩
    rw [uintF_fell l most h]
  · obtain rfl := he h0
    refine ⟨0, [], e, fun _ => rfl, Nat.le_refl _, fun w h => (uint_stays g [] e most w h h0).mono fun x w' ⟨hx, hw⟩ => ⟨hx, by subst hw; exact h, by subst hw; exact Only.refl _ _⟩, fun w h => (xuint_stays gx e most w h h0).mono fun x w' ⟨hx, hw⟩ => ⟨hx, by subst hw; exact h, by subst hw; exact Only.refl _ _⟩⟩

theorem step_bytes (g gx : Nat) (l : List UInt8) (e most : Int) (he : e ≠ 0 → l = []) (hsz : l.length ≤ 140737488355328) : ∃ (B : List UInt8) (l' : List UInt8) (e' : Int), (e' ≠ 0 → l' = []) ∧ l'.length ≤ l.length ∧
    (∀ w, RR w g l e → Calls Try.prog 10 #[.pointer (some ⟨g, 0, none⟩), .int .i64 most] w fun x w' => ∃ p c, x = .returned (.slice p B.length c) ∧ HB w' (.slice p B.length c) B ∧ RR w' g l' e' ∧ Only g w w') ∧
    (∀ w, XR w gx l e → Calls Try.prog 11 #[.pointer (some ⟨gx, 0, none⟩), .int .i64 most] w fun x w' => ∃ p c, x = .returned (.slice p B.length c) ∧ HB w' (.slice p B.length c) B ∧ XR w' gx l' e' ∧ Only gx w w') := by
  by_cases h0 : e = 0
  · subst h0
    refine ⟨(bytesF l most).2.1, (bytesF l most).2.2, (bytesF l most).1, fun h => bytesF_fell l most h, ?_, fun w h => (bytes_any g l most w h hsz).mono fun x w' ⟨p, c, h1, h2, h3, h4⟩ => ⟨p, c, h1, h2.1, h3, h4⟩, fun w h => (xbytes_any gx l most w h hsz).mono fun x w' ⟨p, c, h1, h2, h3, h4⟩ => ⟨p, c, h1, h2.1, h3, h4⟩⟩
    exact bytesF_le l most
  · obtain rfl := he h0
    refine ⟨[], [], e, fun _ => rfl, Nat.le_refl _, fun w h => (bytes_stays g [] e most w h h0).mono fun x w' ⟨hx, hw⟩ => ⟨none, 0, hx, HB.nil _, by subst hw; exact h, by subst hw; exact Only.refl _ _⟩, fun w h => (xbytes_stays gx e most w h h0).mono fun x w' ⟨hx, hw⟩ => ⟨none, 0, hx, HB.nil _, by subst hw; exact h, by subst hw; exact Only.refl _ _⟩⟩

theorem step_flag (g gx : Nat) (l : List UInt8) (e : Int) (he : e ≠ 0 → l = []) (hsz : l.length ≤ 140737488355328) : ∃ (B : Bool) (l' : List UInt8) (e' : Int), (e' ≠ 0 → l' = []) ∧ l'.length ≤ l.length ∧
    (∀ w, RR w g l e → Calls Try.prog 12 #[.pointer (some ⟨g, 0, none⟩)] w fun x w' => x = .returned (.bool B) ∧ RR w' g l' e' ∧ Only g w w') ∧
    (∀ w, XR w gx l e → Calls Try.prog 13 #[.pointer (some ⟨gx, 0, none⟩)] w fun x w' => x = .returned (.bool B) ∧ XR w' gx l' e' ∧ Only gx w w') := by
  by_cases h0 : e = 0
  · subst h0
    refine ⟨(flagF l).2.1, (flagF l).2.2, (flagF l).1, ?_, ?_, fun w h => flag_any g l w h, fun w h => xflag_any gx l w h hsz⟩
    · exact fun h => flagF_fell l h
    · exact flagF_le l
  · obtain rfl := he h0
    refine ⟨false, [], e, fun _ => rfl, Nat.le_refl _, fun w h => (flag_stays g [] e w h h0).mono fun x w' ⟨hx, hw⟩ => ⟨hx, by subst hw; exact h, by subst hw; exact Only.refl _ _⟩, fun w h => (xflag_stays gx e w h h0).mono fun x w' ⟨hx, hw⟩ => ⟨hx, by subst hw; exact h, by subst hw; exact Only.refl _ _⟩⟩

theorem u64_natR (n : Int) : ∃ U : Nat, IntKind.u64.wrap n = (U : Int) ∧ U < 18446744073709551616 := by
  have e : IntKind.u64.wrap n = n % 18446744073709551616 := by simp [IntKind.wrap, IntKind.bits, IntKind.signed]
  exact ⟨(n % 18446744073709551616).toNat, by rw [e]; omega, by omega⟩

end Go.Proofs.Ytpnginemjcphcaa
