/- What this text proves: the walk of annalslaw14.awake over this program: it answers true. -/
import Derived.Test.YtpndpmkoegmbkaaDoorJSk
namespace Go.Proofs.YtpndpmkoegmbkaaDoor
open Go.RowKit

theorem way70 : wayI 7 0 = [6, 4, 0] := by decide +kernel
theorem next60 : nextI 6 0 = 4 := by decide +kernel

set_option maxRecDepth 100000 in
set_option maxHeartbeats 1000000 in
theorem skAwake_any (w : World) (hT : TD w) :
    Calls Tryd.prog 10 #[] w fun x w' => x = .returned (.bool true) ∧ Below w.heap.size w w' := by
  have hW := way_any 7 0 w hT
  rw [way70] at hW
  have hN := fun w (h : TD w) => next_any 6 0 w (by omega) h
  rw [next60] at hN
  obtain ⟨L, hL⟩ : ∃ L : List Nat, L = [6, 4, 0] := ⟨_, rfl⟩
  rw [← hL] at hW
  have HL : Hid (L = [6, 4, 0]) := hL
  clear hL
  go_enter Tryd.func10, Tryd.ntmps10
  go_wp2_with fail
  refine hW.mono ?_
  rintro x w1 ⟨v1, rfl, hown, hb1⟩
  clear hW
  obtain ⟨p1, c1, rfl⟩ := owns_shape hown
  have hA := (Below.refl w1.heap.size w1).alloc (Nat.le_refl _) (.cells #[.int .i64 6, .int .i64 4, .int .i64 0] 3)
  have hI := (IA.of_owns hown).later hA
  have hJ : IA (w1.alloc (.cells #[.int .i64 6, .int .i64 4, .int .i64 0] 3)) (.slice (some ⟨w1.heap.size, 0, none⟩) 3 3) L := IA.litF w1 3 L _ 3 (0, 0) (by rw [HL.out]; rfl) (by rw [HL.out]; rfl) (by decide)
  have hE := slequal_same _ _ L _ hI hJ
  have hbA := hb1.trans (hA.mono hb1.size)
  have hTA := hT.later hbA
  clear hI hJ hown hA hT
  go_wp2_with fail
  refine hE.mono ?_
  rintro x w2 ⟨rfl, hb2⟩
  have hbB := hbA.trans (hb2.mono hbA.size)
  have hTB := hTA.later hb2
  clear hE hbA hb2 hTA
  go_wp2_with fail
  refine (hN _ hTB).mono ?_
  rintro x w3 ⟨rfl, hb3⟩
  have hbC := hbB.trans (hb3.mono hbB.size)
  clear hN
  go_wp2
  go_ret
  exact ⟨rfl, hbC⟩

end Go.Proofs.YtpndpmkoegmbkaaDoor
