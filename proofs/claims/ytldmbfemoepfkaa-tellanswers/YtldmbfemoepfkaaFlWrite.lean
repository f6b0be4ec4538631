/- What this text proves: the walks of fields.Writer's Number, Text, Flag and Written over this program. -/
import Derived.Test.YtldmbfemoepfkaaFlPut
namespace Go.Proofs.Ytldmbfemoepfkaa
open Go.RowKit

theorem Wrote.after {T : TypeId} {g base : Nat} {l : List UInt8} {w w1 w2 : World} (h : Wrote T g base l w1 w2) (hb : Below w.heap.size w w1) (hs : base ≤ w.heap.size) : Wrote T g base l w w2 :=
  ⟨h.1, (hb.mono hs).trans h.2.1, (TKB.of_below hb).trans h.2.2⟩

set_option maxHeartbeats 1000000 in
theorem wnumber_any (T : TypeId) (hT : T ≠ 5) (g base : Nat) (a : Addr) (n m : Int) (l : List UInt8) (w : World) (h : WRT T w g base l) (hg : base ≤ g) (ha : w.cell? a = some (.int .i64 n)) (hbig : l.length ≤ 140737488355100) :
    Calls Try.prog 68 #[.pointer (some ⟨g, 0, none⟩), .pointer (some a), .int .i64 m] w fun e w' => e = .returned (.tuple #[]) ∧ Wrote T g base (l ++ numL (clampN n)) w w' := by
  have hbase := h.choose_spec.choose_spec.2.2
  have hl9 : (numL (clampN n)).length ≤ 9 := by have := clampN_le n; have := cnt_le8 (clampN n) (by omega); rw [numL_length]; omega
  have hU := cuint_any _ [] n w (HB.nil w) (by simp)
  rw [List.nil_append] at hU
  generalize numL (clampN n) = R at hU hl9 ⊢
  go_enter Try.func68, Try.ntmps68
  go_wp2_with fail
  refine hU.mono ?_
  rintro e w1 ⟨p1, c1, rfl, hown, hb1⟩
  have hP := put_any T hT g base _ l R w1 (h.later hb1) hg (HB.of_owns hown) (by omega)
  clear hU hown
  go_wp2_with fail
  refine hP.mono ?_
  rintro e w2 ⟨rfl, hW⟩
  have hW2 := hW.after hb1 hbase
  clear hP hW h ha
  go_wp2
  go_end0
  exact ⟨rfl, hW2⟩

set_option maxHeartbeats 1000000 in
theorem wtext_any (T : TypeId) (hT : T ≠ 5) (g base : Nat) (a : Addr) (v : Value) (s : List UInt8) (m : Int) (l : List UInt8) (w : World) (h : WRT T w g base l) (hg : base ≤ g) (ha : w.cell? a = some v) (hv : HB w v s) (hbig : l.length + s.length ≤ 140737488355100) :
    Calls Try.prog 70 #[.pointer (some ⟨g, 0, none⟩), .pointer (some a), .int .i64 m] w fun e w' => e = .returned (.tuple #[]) ∧ Wrote T g base (l ++ bytesL s) w w' := by
  have hbase := h.choose_spec.choose_spec.2.2
  have hl9 : (bytesL s).length ≤ s.length + 9 := by unfold bytesL; rw [List.length_append, numL_length]; have := cnt_le8 s.length (by omega); omega
  have hU := cbytes_any _ v [] s w (HB.nil w) hv (by simp; omega)
  rw [List.nil_append] at hU
  generalize bytesL s = R at hU hl9 ⊢
  obtain ⟨q, d, rfl⟩ := hv.shape
  go_enter Try.func70, Try.ntmps70
  go_wp2_with fail
  refine hU.mono ?_
  rintro e w1 ⟨p1, c1, rfl, hown, hb1⟩
  have hP := put_any T hT g base _ l R w1 (h.later hb1) hg (HB.of_owns hown) (by omega)
  clear hU hown
  go_wp2_with fail
  refine hP.mono ?_
  rintro e w2 ⟨rfl, hW⟩
  have hW2 := hW.after hb1 hbase
  clear hP hW h ha
  go_wp2
  go_end0
  exact ⟨rfl, hW2⟩

set_option maxHeartbeats 1000000 in
theorem wflag_any (T : TypeId) (hT : T ≠ 5) (g base : Nat) (a : Addr) (b : Bool) (l : List UInt8) (w : World) (h : WRT T w g base l) (hg : base ≤ g) (ha : w.cell? a = some (.bool b))
    (hk : ∀ w', Below base w w' → TKB T w w' → w'.cell? a = some (.bool b)) (hbig : l.length ≤ 140737488355100) :
    Calls Try.prog 67 #[.pointer (some ⟨g, 0, none⟩), .pointer (some a)] w fun e w' => e = .returned (.bool b) ∧ Wrote T g base (l ++ flagL b) w w' := by
  have hbase := h.choose_spec.choose_spec.2.2
  have hl9 : (flagL b).length ≤ 9 := by unfold flagL; simp
  have hU := cflag_any _ [] b w (HB.nil w) (by simp)
  rw [List.nil_append] at hU
  generalize flagL b = R at hU hl9 ⊢
  go_enter Try.func67, Try.ntmps67
  go_wp2_with fail
  refine hU.mono ?_
  rintro e w1 ⟨p1, c1, rfl, hown, hb1⟩
  have hP := put_any T hT g base _ l R w1 (h.later hb1) hg (HB.of_owns hown) (by omega)
  clear hU hown
  go_wp2_with fail
  refine hP.mono ?_
  rintro e w2 ⟨rfl, hW⟩
  have hW2 := hW.after hb1 hbase
  have hc := hk w2 hW2.2.1 hW2.2.2
  clear hP hW h ha hk
  go_wp2
  go_ret
  exact ⟨rfl, hW2⟩

set_option maxHeartbeats 1000000 in
theorem written_any (T : TypeId) (g base : Nat) (l : List UInt8) (w : World) (h : WRT T w g base l) :
    Calls Try.prog 23 #[.pointer (some ⟨g, 0, none⟩)] w fun e w' => ∃ p c, e = .returned (.slice p l.length c) ∧ w.ownsRow base 5 1 (.slice p l.length c) l.length (bcs l) ∧ w' = w := by
  obtain ⟨p, c, hc, hown, hbase⟩ := h
  have c0 : w.cell? ⟨g, 0, none⟩ = some (.slice p l.length c) := by rw [cell_of_row _ _ _ _ _ _ hc]; rfl
  clear hc
  go_enter Try.func23, Try.ntmps23
  go_wp2
  go_ret
  exact ⟨p, c, rfl, hown, rfl⟩

end Go.Proofs.Ytldmbfemoepfkaa
