/- What this text proves: the walk of the statement TextsSplit over this program: it answers true for any bytes (no more than 4294967296 of them), and writes nothing that was there. -/
import Derived.Test.YtbmghnkgbiijmaaRSplit
import Derived.Test.YtbmghnkgbiijmaaClone
import Derived.Test.YtbmghnkgbiijmaaAwake
namespace Go.Proofs.Ytbmghnkgbiijmaa
open Go.RowKit

theorem rsplit_none (v : Value) (l : List UInt8) (w : World) (h : HB w v l) (hsz : l.length ≤ 4294967296) (hn : splitF l = none) :
    Calls Try.prog 6 #[v] w fun e w' => e = .returned (.tuple #[.int .i64 0, .slice none 0 0, .int .i64 3]) ∧ Below w.heap.size w w' := (rsplit_any v l w h hsz).mono fun _ _ s => s.err hn
theorem rsplit_some (v : Value) (l : List UInt8) (w : World) (h : HB w v l) (hsz : l.length ≤ 4294967296) {t : UInt8} {ps : List (List UInt8)} (hs : splitF l = some (t, ps)) :
    Calls Try.prog 6 #[v] w fun e w' => ∃ p c, e = .returned (.tuple #[.int .i64 (t.toNat : Int), .slice p ps.length c, .int .i64 0]) ∧ PA w' (.slice p ps.length c) ps ∧ Below w.heap.size w w' := (rsplit_any v l w h hsz).mono fun _ _ s => s.fine hs
theorem split_none (v : Value) (l : List UInt8) (w : World) (h : HB w v l) (hsz : l.length ≤ 4294967296) (hn : splitF l = none) :
    Calls Try.prog 5 #[v] w fun e w' => e = .returned (.tuple #[.int .i64 0, .slice none 0 0, .int .i64 3]) ∧ Below w.heap.size w w' := (split_any v l w h hsz).mono fun _ _ s => s.err hn
theorem split_some (v : Value) (l : List UInt8) (w : World) (h : HB w v l) (hsz : l.length ≤ 4294967296) {t : UInt8} {ps : List (List UInt8)} (hs : splitF l = some (t, ps)) :
    Calls Try.prog 5 #[v] w fun e w' => ∃ p c, e = .returned (.tuple #[.int .i64 (t.toNat : Int), .slice p ps.length c, .int .i64 0]) ∧ PA w' (.slice p ps.length c) ps ∧ Below w.heap.size w w' := (split_any v l w h hsz).mono fun _ _ s => s.fine hs

set_option maxHeartbeats 2000000 in
theorem walk (v : Value) (l : List UInt8) (w : World) (h : HB w v l) (hsz : l.length ≤ 4294967296) :
    Calls Try.prog 3 #[v] w fun e w' => e = .returned (.bool true) ∧ Below w.heap.size w w' := by
  obtain ⟨p, c, rfl⟩ := h.shape
  match hs : splitF l with
  | none =>
    have HS : Hid (splitF l = none) := hs
    clear hs
    go_enter Try.func3, Try.ntmps3
    go_wp2_with fail
    refine (clone_any _ l _ h (by omega)).mono ?_
    rintro e w1 ⟨p1, c1, rfl, hh1, hb1⟩
    go_wp2_with fail
    refine (split_none _ l _ hh1 hsz HS.out).mono ?_
    rintro e w2 ⟨rfl, hb2⟩
    have hb02 := hb1.trans (hb2.mono hb1.size)
    go_wp2_with fail
    refine (rsplit_none _ l _ (h.later hb02) hsz HS.out).mono ?_
    rintro e w3 ⟨rfl, hb3⟩
    have hb03 := hb02.trans (hb3.mono hb02.size)
    have hh3 := (hh1.later hb2).later hb3
    have h3 := h.later hb03
    clear hh1 hb1 hb2 hb3 hb02
    go_wp2_with fail
    refine (same_any _ _ [] [] _ (PA.nil _) (PA.nil _)).mono ?_
    rintro e w4 ⟨rfl, rfl⟩
    go_wp2_with fail
    refine (equal_any _ _ l l _ hh3 h3).mono ?_
    rintro e w5 ⟨rfl, rfl⟩
    have hbb : (l == l) = true := by simp
    go_wp2_with fail
    refine (awake_any _).mono ?_
    rintro e w6 ⟨rfl, hb6⟩
    have hb06 := hb03.trans (hb6.mono hb03.size)
    go_wp2
    go_ret
    exact ⟨rfl, hb06⟩
  | some (t, ps) =>
    have HS : Hid (splitF l = some (t, ps)) := hs
    clear hs
    go_enter Try.func3, Try.ntmps3
    go_wp2_with fail
    refine (clone_any _ l _ h (by omega)).mono ?_
    rintro e w1 ⟨p1, c1, rfl, hh1, hb1⟩
    go_wp2_with fail
    refine (split_some _ l _ hh1 hsz HS.out).mono ?_
    rintro e w2 ⟨p2, c2, rfl, hp2, hb2⟩
    have hb02 := hb1.trans (hb2.mono hb1.size)
    go_wp2_with fail
    refine (rsplit_some _ l _ (h.later hb02) hsz HS.out).mono ?_
    rintro e w3 ⟨p3, c3, rfl, hp3, hb3⟩
    have hb03 := hb02.trans (hb3.mono hb02.size)
    have hh3 := (hh1.later hb2).later hb3
    have hp23 := hp2.later hb3
    have h3 := h.later hb03
    clear hh1 hb1 hb2 hb3 hb02 hp2
    go_wp2_with fail
    refine (same_any _ _ ps ps _ hp23 hp3).mono ?_
    rintro e w4 ⟨rfl, rfl⟩
    have hba : (ps == ps) = true := by simp
    go_wp2_with fail
    refine (equal_any _ _ l l _ hh3 h3).mono ?_
    rintro e w5 ⟨rfl, rfl⟩
    have hbb : (l == l) = true := by simp
    go_wp2_with fail
    refine (awake_any _).mono ?_
    rintro e w6 ⟨rfl, hb6⟩
    have hb06 := hb03.trans (hb6.mono hb03.size)
    go_wp2
    go_ret
    exact ⟨rfl, hb06⟩

end Go.Proofs.Ytbmghnkgbiijmaa
