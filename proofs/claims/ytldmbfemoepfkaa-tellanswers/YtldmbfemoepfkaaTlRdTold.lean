/- What this text holds: what ReadAnswer answers, told (no walk). -/
import Derived.Test.YtldmbfemoepfkaaTlRdP
namespace Go.Proofs.Ytldmbfemoepfkaa
open Go.RowKit

/-- An answer's cells, all of them noughts. -/
def zeroC : Array Value := #[.int .i64 0, .int .i64 0, .bool false, .bool false, .slice none 0 0, .int .i64 0, .slice none 0 0, .slice none 0 0, .bool false]

/-- What ReadAnswer answers. -/
def RdTold (d : Int × List UInt8 × AA) (w : World) (x : Ending) (w' : World) : Prop :=
  Below w.heap.size w w' ∧ (d.1 = 0 → ∃ kv iv ev rv, x = .returned (.tuple #[.agg (ansC d.2.2 kv iv ev), rv, .int .i64 0]) ∧ AnsV w' d.2.2 kv iv ev ∧ HB w' rv d.2.1) ∧ (d.1 ≠ 0 → x = .returned (.tuple #[.agg zeroC, .slice none 0 0, .int .i64 d.1]))

theorem setCell_selfR {w : World} {g i : Nat} {cs : Array Value} {T : TypeId} {v : Value} (hg : w.heap[g]? = some (.cells cs T (0, 0))) (hv : cs[i]? = some v) : w.setCell ⟨g, i, none⟩ v = w := by
  have hc : cs.setIfInBounds i v = cs := by
    apply Array.ext_getElem?
    intro j
    rw [Array.getElem?_setIfInBounds]
    split
    · rename_i h
      subst h
      split
      · exact hv.symm
      · rename_i h; rw [Array.getElem?_eq_none (by omega)] at hv; cases hv
    · rfl
  have hh : (w.setCell ⟨g, i, none⟩ v).heap = w.heap := by
    apply Array.ext_getElem?
    intro k
    by_cases hk : k = g
    · subst hk
      rw [heap_setCell_same w k i cs T v hg, hc, hg]
    · exact Below.heap_setCell w ⟨g, i, none⟩ v k hk
  show { w with heap := (w.setCell ⟨g, i, none⟩ v).heap } = w
  rw [hh]

end Go.Proofs.Ytldmbfemoepfkaa
