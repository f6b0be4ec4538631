/- What this text proves: a ledger in memory; the walks of ledger's calls at a ledger that no call made, of annalslaw23.small, of ledger's missing and mayBe over this program. What this text proves: the walk of ledger's mayBe over this program. -/
import Derived.Test.YtcgpgnajmfemhaaGreatDoorJN1
import Derived.Test.YtcgpgnajmfemhaaGreatDoorJL1
import Derived.Test.YtcgpgnajmfemhaaGreatDoorJQ1
import Derived.Test.YtcgpgnajmfemhaaGreatDoorJQ12
namespace Go.Proofs.YtcgpgnajmfemhaaGreatDoor
open Go.RowKit

/-- Block g holds a ledger's parameters, its log's place, and its totals. -/
def LG (w : World) (g gl : Nat) (s h mi mk ch ar ca pg n c t : Int) : Prop :=
  w.heap[g]? = some (.cells #[.int .i64 s, .int .i64 h, .int .i64 mi, .int .i64 mk, .int .i64 ch, .int .i64 ar, .int .i64 ca, .int .i64 pg, .pointer (some ⟨gl, 0, none⟩), .int .i64 n, .int .i64 c, .int .i64 t] 97 (0, 0))

theorem LG.cells {w : World} {g gl : Nat} {s h mi mk ch ar ca pg n c t : Int} (k : LG w g gl s h mi mk ch ar ca pg n c t) :
    (w.cell? ⟨g, 0, none⟩ = some (.int .i64 s) ∧ w.cell? ⟨g, 1, none⟩ = some (.int .i64 h) ∧ w.cell? ⟨g, 2, none⟩ = some (.int .i64 mi) ∧ w.cell? ⟨g, 3, none⟩ = some (.int .i64 mk) ∧ w.cell? ⟨g, 4, none⟩ = some (.int .i64 ch) ∧ w.cell? ⟨g, 5, none⟩ = some (.int .i64 ar) ∧ w.cell? ⟨g, 6, none⟩ = some (.int .i64 ca) ∧ w.cell? ⟨g, 7, none⟩ = some (.int .i64 pg)) ∧ w.cell? ⟨g, 8, none⟩ = some (.pointer (some ⟨gl, 0, none⟩)) ∧ w.cell? ⟨g, 9, none⟩ = some (.int .i64 n) ∧ w.cell? ⟨g, 10, none⟩ = some (.int .i64 c) ∧ w.cell? ⟨g, 11, none⟩ = some (.int .i64 t) := by
  refine ⟨⟨?_, ?_, ?_, ?_, ?_, ?_, ?_, ?_⟩, ?_, ?_, ?_, ?_⟩ <;> rw [cell_of_row w g _ _ _ _ k] <;> rfl
theorem LG.same {w w' : World} {g gl : Nat} {s h mi mk ch ar ca pg n c t : Int} (k : LG w g gl s h mi mk ch ar ca pg n c t) (e : w'.heap[g]? = w.heap[g]?) : LG w' g gl s h mi mk ch ar ca pg n c t := e.trans k
theorem LG.lt {w : World} {g gl : Nat} {s h mi mk ch ar ca pg n c t : Int} (k : LG w g gl s h mi mk ch ar ca pg n c t) : g < w.heap.size := (Array.getElem?_eq_some_iff.1 k).1
theorem LG.free {w : World} {g gl : Nat} {s h mi mk ch ar ca pg n c t : Int} (k : LG w g gl s h mi mk ch ar ca pg n c t) (i : Nat) : w.frozen? ⟨g, i, none⟩ = false := by
  unfold LG at k
  simp [World.frozen?, k]

set_option maxRecDepth 100000 in
set_option maxHeartbeats 400000 in
theorem lmiss_nil (w : World) : Calls Tryz.prog 45 #[.pointer none] w fun e w' => e = .returned (.bool true) ∧ w' = w := by
  go_enter Tryz.func45, Tryz.ntmps45
  go_wp2
  go_ret
  exact ⟨rfl, rfl⟩

set_option maxRecDepth 100000 in
set_option maxHeartbeats 400000 in
theorem lmiss_raw (g : Nat) (w : World) (h0 : w.cell? ⟨g, 8, none⟩ = some (.pointer none)) : Calls Tryz.prog 45 #[.pointer (some ⟨g, 0, none⟩)] w fun e w' => e = .returned (.bool true) ∧ w' = w := by
  go_enter Tryz.func45, Tryz.ntmps45
  go_wp2
  go_ret
  exact ⟨rfl, rfl⟩

set_option maxRecDepth 100000 in
set_option maxHeartbeats 400000 in
theorem lmiss_no (g gl : Nat) (w : World) (h0 : w.cell? ⟨g, 8, none⟩ = some (.pointer (some ⟨gl, 0, none⟩))) : Calls Tryz.prog 45 #[.pointer (some ⟨g, 0, none⟩)] w fun e w' => e = .returned (.bool false) ∧ w' = w := by
  go_enter Tryz.func45, Tryz.ntmps45
  go_wp2
  go_ret
  exact ⟨rfl, rfl⟩

set_option maxRecDepth 100000 in
set_option maxHeartbeats 400000 in
theorem lpub_nil (v : Value) (t : Int) (u : Value) (w : World) (hm : ∀ w, v = .pointer none ∨ (∃ g, v = .pointer (some ⟨g, 0, none⟩) ∧ w.cell? ⟨g, 8, none⟩ = some (.pointer none)) → Calls Tryz.prog 45 #[v] w fun e w' => e = .returned (.bool true) ∧ w' = w) (hv : v = .pointer none ∨ (∃ g, v = .pointer (some ⟨g, 0, none⟩) ∧ w.cell? ⟨g, 8, none⟩ = some (.pointer none))) :
    Calls Tryz.prog 24 #[v, .agg #[.int .i64 t, u]] w fun e w' => e = .returned (.int .i64 2) ∧ Below w.heap.size w w' := by
  have bA := (Below.refl w.heap.size w).alloc (Nat.le_refl _) (.cells #[.int .i64 t, u] 66)
  have hM := hm (w.alloc (.cells #[.int .i64 t, u] 66)) (by
    rcases hv with h | ⟨g, h1, h2⟩
    · exact .inl h
    · exact .inr ⟨g, h1, cell_later bA h2⟩)
  clear hm hv
  go_enter Tryz.func24, Tryz.ntmps24
  go_wp2_with (go_at_call 45; refine hM.mono ?_; rintro e w1 ⟨rfl, rfl⟩)
  go_ret
  exact ⟨rfl, bA⟩

set_option maxRecDepth 100000 in
set_option maxHeartbeats 400000 in
theorem lents_nil (v : Value) (w : World) (hm : Calls Tryz.prog 45 #[v] w fun e w' => e = .returned (.bool true) ∧ w' = w) : Calls Tryz.prog 41 #[v] w fun e w' => e = .returned (.slice none 0 0) ∧ w' = w := by
  go_enter Tryz.func41, Tryz.ntmps41
  go_wp2_with (go_at_call 45; refine hm.mono ?_; rintro e w1 ⟨rfl, rfl⟩)
  go_ret
  exact ⟨rfl, rfl⟩

set_option maxRecDepth 100000 in
set_option maxHeartbeats 400000 in
theorem lstop_nil (v : Value) (w : World) (hm : Calls Tryz.prog 45 #[v] w fun e w' => e = .returned (.bool true) ∧ w' = w) : Calls Tryz.prog 36 #[v] w fun e w' => e = .returned (.bool true) ∧ w' = w := by
  go_enter Tryz.func36, Tryz.ntmps36
  go_wp2_with (go_at_call 45; refine hm.mono ?_; rintro e w1 ⟨rfl, rfl⟩)
  go_ret
  exact ⟨rfl, rfl⟩

theorem lchk_small : chkV 4 4 3 6 30 2100 0 3 = 0 := by decide

end Go.Proofs.YtcgpgnajmfemhaaGreatDoor

namespace Go.Proofs.YtcgpgnajmfemhaaGreatDoor
open Go.RowKit

/-- What mayBe answers. -/
def MayTold (t mi mk : Int) (bs : List (List UInt8 × List UInt8)) (w : World) (x : Ending) (w' : World) : Prop :=
  ∃ b : Bool, x = .returned (.bool b) ∧ (b = true ↔ 0 ≤ t ∧ t ≤ 1125899906842624 ∧ ChkIs mi mk bs 0) ∧ Below w.heap.size w w'

set_option maxRecDepth 100000 in
set_option maxHeartbeats 1600000 in
theorem lmay_any (s h mi mk ch ar ca pg t : Int) (v : Value) (bs : List (List UInt8 × List UInt8)) (w : World) (hv : BA w v bs) :
    Calls Tryz.prog 79 #[.agg #[.int .i64 s, .int .i64 h, .int .i64 mi, .int .i64 mk, .int .i64 ch, .int .i64 ar, .int .i64 ca, .int .i64 pg], .agg #[.int .i64 t, v]] w (MayTold t mi mk bs w) := by
  obtain ⟨p, c, rfl⟩ := hv.shape
  have b0 := (Below.refl w.heap.size w).alloc (Nat.le_refl _) (.cells #[.int .i64 s, .int .i64 h, .int .i64 mi, .int .i64 mk, .int .i64 ch, .int .i64 ar, .int .i64 ca, .int .i64 pg] 25)
  have g0 := heap_alloc_new w (.cells #[.int .i64 s, .int .i64 h, .int .i64 mi, .int .i64 mk, .int .i64 ch, .int .i64 ar, .int .i64 ca, .int .i64 pg] 25)
  obtain ⟨V, hV⟩ : ∃ V, w.alloc (.cells #[.int .i64 s, .int .i64 h, .int .i64 mi, .int .i64 mk, .int .i64 ch, .int .i64 ar, .int .i64 ca, .int .i64 pg] 25) = V := ⟨_, rfl⟩
  rw [hV] at b0 g0
  have sV : V.heap.size = w.heap.size + 1 := by rw [← hV]; simp
  have b1 := (Below.refl V.heap.size V).alloc (Nat.le_refl _) (.cells #[.int .i64 t, .slice p bs.length c] 66)
  have g1 := heap_alloc_new V (.cells #[.int .i64 t, .slice p bs.length c] 66)
  obtain ⟨U, hU⟩ : ∃ U, V.alloc (.cells #[.int .i64 t, .slice p bs.length c] 66) = U := ⟨_, rfl⟩
  rw [hU] at b1 g1
  have g2 := (b1.block _ (by omega)).trans g0
  obtain ⟨q0, q1, q2, q3, q4, q5, q6, q7⟩ := par_cells g2
  have e0 : U.cell? ⟨V.heap.size, 0, none⟩ = some (.int .i64 t) := by rw [cell_of_row _ _ _ _ _ _ g1]; rfl
  have e1 : U.cell? ⟨V.heap.size, 1, none⟩ = some (.slice p bs.length c) := by rw [cell_of_row _ _ _ _ _ _ g1]; rfl
  have f0 := e0
  have f1 := e1
  rw [sV] at f0 f1
  have bU := b0.trans (b1.mono b0.size)
  have hC := check_any s h mi mk ch ar ca pg (.slice p bs.length c) bs U (hv.later bU)
  clear g0 g1 g2 hv b0 b1
  by_cases h0 : 0 ≤ t
  · by_cases h1 : t ≤ 1125899906842624
    · go_enter Tryz.func79, Tryz.ntmps79
      go_wp2_with (go_at_call 22; refine hC.mono ?_; rintro e w1 ⟨er, rfl, hk, hb1⟩)
      go_ret
      refine ⟨er == 0, rfl, ⟨fun h => ⟨h0, h1, ?_⟩, fun h => ?_⟩, bU.trans (hb1.mono bU.size)⟩
      · have : er = 0 := by simpa using h
        subst this
        exact hk
      · rw [chk_one hk h.2.2]
        rfl
    · have h1' : 1125899906842624 < t := by omega
      go_enter Tryz.func79, Tryz.ntmps79
      go_wp2
      go_ret
      exact ⟨_, rfl, ⟨fun h => (by cases h), fun h => by omega⟩, bU⟩
  · have h0' : t < 0 := by omega
    go_enter Tryz.func79, Tryz.ntmps79
    go_wp2
    go_ret
    exact ⟨_, rfl, ⟨fun h => (by cases h), fun h => by omega⟩, bU⟩

end Go.Proofs.YtcgpgnajmfemhaaGreatDoor
