/- What this text proves: the walks of annalsref04's reader over this program, told whatever its error. (By program: mktlrx.py.) -/
import Derived.Test.YtldmbfemoepfkaaTlRdP
import Derived.Test.YtldmbfemoepfkaaXText
namespace Go.Proofs.Ytldmbfemoepfkaa
open Go.RowKit

theorem XR.tk {T : TypeId} {g : Nat} {w w' : World} {l : List UInt8} {e : Int} (h : XR w g l e) (t : TK T w w') (hT : 5 ≠ T) (hR : 47 ≠ T) : XR w' g l e := by
  obtain ⟨p, c, h1, h2⟩ := h
  exact ⟨p, c, t g _ _ _ h1 hR, h2.tk t hT⟩
theorem XR.typed {g : Nat} {w : World} {l : List UInt8} {e : Int} (h : XR w g l e) : ∃ cs f, w.heap[g]? = some (.cells cs 47 f) := by
  obtain ⟨p, c, h1, h2⟩ := h
  exact ⟨_, _, h1⟩

theorem xuint_all (g : Nat) (l : List UInt8) (e most : Int) (w : World) (h : XR w g l e) (he : e ≠ 0 → l = []) (hsz : l.length ≤ 140737488355328) : Calls Try.prog 17 #[.pointer (some ⟨g, 0, none⟩), .int .i64 most] w fun x w' => x = .returned (.int .i64 ((rdU l e most).2.1 : Int)) ∧ XR w' g (rdU l e most).2.2 (rdU l e most).1 ∧ Only g w w' := by
  unfold rdU
  by_cases h0 : e = 0
  · subst h0
    rw [if_pos rfl]
    exact xuint_any g l most w h hsz
  · rw [if_neg h0]
    obtain rfl := he h0
    refine (xuint_stays g e most w h h0).mono ?_
    rintro x w' ⟨rfl, rfl⟩
    exact ⟨rfl, h, Only.refl _ _⟩

theorem xbytes_all (g : Nat) (l : List UInt8) (e most : Int) (w : World) (h : XR w g l e) (he : e ≠ 0 → l = []) (hsz : l.length ≤ 140737488355328) : Calls Try.prog 39 #[.pointer (some ⟨g, 0, none⟩), .int .i64 most] w fun x w' => ∃ v, x = .returned v ∧ ∃ p c, v = .slice p (rdB l e most).2.1.length c ∧ HBN w' g (.slice p (rdB l e most).2.1.length c) (rdB l e most).2.1 ∧ XR w' g (rdB l e most).2.2 (rdB l e most).1 ∧ Only g w w' := by
  unfold rdB
  by_cases h0 : e = 0
  · subst h0
    rw [if_pos rfl]
    exact (xbytes_any g l most w h hsz).mono fun x w' ⟨p, c, h1, h2, h3, h4⟩ => ⟨_, h1, p, c, rfl, h2, h3, h4⟩
  · rw [if_neg h0]
    obtain rfl := he h0
    refine (xbytes_stays g e most w h h0).mono ?_
    rintro x w' ⟨rfl, rfl⟩
    exact ⟨_, rfl, none, 0, rfl, HBN.nil _ _, h, Only.refl _ _⟩

theorem bytesF_fell (l : List UInt8) (most : Int) (h : (bytesF l most).1 ≠ 0) : (bytesF l most).2.2 = [] := by
  unfold bytesF at h ⊢
  dsimp only at h ⊢
  split
  · rfl
  · split
    · rfl
    · rename_i h1 h2
      rw [if_neg h1, if_neg h2] at h
      exact absurd rfl h
theorem rdU_fellX (l : List UInt8) (e most : Int) (he : e ≠ 0 → l = []) : (rdU l e most).1 ≠ 0 → (rdU l e most).2.2 = [] := by
  unfold rdU
  split
  · intro h; rw [uintF_fell l most h]
  · rename_i h; intro _; exact he h
theorem rdB_fell (l : List UInt8) (e most : Int) (he : e ≠ 0 → l = []) : (rdB l e most).1 ≠ 0 → (rdB l e most).2.2 = [] := by
  unfold rdB
  split
  · exact bytesF_fell l most
  · rename_i h; intro _; exact he h
theorem flagF_fell (l : List UInt8) (h : (flagF l).1 ≠ 0) : (flagF l).2.2 = [] := by
  cases l with
  | nil => rfl
  | cons x r =>
    unfold flagF at h ⊢
    simp only at h ⊢
    split
    · rfl
    · rename_i hx
      rw [if_neg hx] at h
      exact absurd rfl h

theorem xflag_all (g : Nat) (l : List UInt8) (e : Int) (w : World) (h : XR w g l e) (he : e ≠ 0 → l = []) (hsz : l.length ≤ 140737488355328) : Calls Try.prog 19 #[.pointer (some ⟨g, 0, none⟩)] w fun x w' => x = .returned (.bool (rdG l e).2.1) ∧ XR w' g (rdG l e).2.2 (rdG l e).1 ∧ Only g w w' := by
  unfold rdG
  by_cases h0 : e = 0
  · subst h0
    rw [if_pos rfl]
    exact xflag_any g l w h hsz
  · rw [if_neg h0]
    obtain rfl := he h0
    refine (xflag_stays g e w h h0).mono ?_
    rintro x w' ⟨rfl, rfl⟩
    exact ⟨rfl, h, Only.refl g w'⟩
theorem rdG_fell (l : List UInt8) (e : Int) (he : e ≠ 0 → l = []) : (rdG l e).1 ≠ 0 → (rdG l e).2.2 = [] := by
  unfold rdG
  by_cases h0 : e = 0
  · rw [if_pos h0]; exact flagF_fell l
  · rw [if_neg h0]; exact fun _ => he h0
end Go.Proofs.Ytldmbfemoepfkaa
