/- What this text proves: a slice of bindings, as the claim's reading has it, holds no more bytes than the reading's bulk. -/
import Derived.Test.YtnojghdgpglcjaaOpenBind
import Derived.Test.YtnojghdgpglcjaaCRdPlain
namespace Go.Proofs.Ytnojghdgpglcjaa
open Go.ChangeShapes Go.WideShapes Go.ChangeAt Go.RowKit

theorem all_bulk {H : Type} : ∀ (bs : List (List UInt8 × List UInt8)) (elems : List (DataW H)), elems.length = bs.length → (∀ (i : Nat) x y, bs[i]? = some x → elems[i]? = some y → ∃ d e, y = .agg [d, e] ∧ AsLong d x.1 ∧ AsLong e x.2) → bulkB bs ≤ Rows.uptoBulkAll elems
  | [], _, _, _ => by simp [bulkB]
  | x :: t, [], h, _ => by simp at h
  | x :: t, y :: r, h, hz => by
    obtain ⟨d, e, rfl, h1, h2⟩ := hz 0 x y rfl rfl
    have b1 := hb_bulk h1
    have b2 := hb_bulk h2
    have ih := all_bulk t r (by simpa using h) (fun i x y hx hy => hz (i + 1) x y (by simpa using hx) (by simpa using hy))
    have e1 : bulkB (x :: t) = (x.1.length + x.2.length) + bulkB t := by simp [bulkB]
    rw [e1]
    simp only [Rows.uptoBulkAll, Rows.uptoBulk]
    omega

theorem binds_bulk {H : Type} {d0 : DataW H} {bs : List (List UInt8 × List UInt8)} (h : bs = [] ∨ ∃ elems spare, d0 = .slice elems spare ∧ elems.length = bs.length ∧ ∀ (i : Nat) x y, bs[i]? = some x → elems[i]? = some y → ∃ d e, y = .agg [d, e] ∧ AsLong d x.1 ∧ AsLong e x.2) : bulkB bs ≤ Rows.uptoBulk d0 := by
  rcases h with rfl | ⟨elems, spare, rfl, h1, h2⟩
  · simp [bulkB]
  · have := all_bulk bs elems h1 h2
    simp only [Rows.uptoBulk]
    omega

end Go.Proofs.Ytnojghdgpglcjaa
