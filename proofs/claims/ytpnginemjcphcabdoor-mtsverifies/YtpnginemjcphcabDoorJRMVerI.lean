/- What this text proves: the walk of the document's Verify (annalsref06) over this program, where the signature's number and its path's length are right. -/
import Derived.Test.YtpnginemjcphcabDoorJRMVer
namespace Go.Proofs.YtpnginemjcphcabDoor
open Go.RowKit

set_option maxRecDepth 100000 in
set_option maxHeartbeats 4000000 in
theorem rver_rec (size : Int) (h i : Nat) (pv dv ca pa : Value) (ls ps : List (List UInt8)) (D pub : List UInt8) (w : World) (hpv : HB w pv pub) (hdv : HB w dv D) (hc : PA w ca ls) (hp : PA w pa ps) (hh : h ≤ 8) (hi : i < 2 ^ h) (hL : ps.length = h)
    (hR : ∀ w', PA w' ca ls → HB w' dv D → Calls Tryd.prog 38 #[.int .i64 size, ca, .int .i64 (i : Int), dv] w' fun e w'' => e = .returned (.tuple #[.slice none 0 0, .int .i64 1]) ∧ Below w'.heap.size w' w'') :
    Calls Tryd.prog 20 #[.int .i64 size, pv, .int .i64 (h : Int), dv, .agg #[.int .i64 (i : Int), ca, pa]] w fun e w' => e = .returned (.bool false) ∧ Below w.heap.size w w' := by
  obtain ⟨p, c, rfl⟩ := hc.shape
  obtain ⟨q, d, rfl⟩ := hp.shape
  obtain ⟨p1, c1, rfl⟩ := hpv.shape
  obtain ⟨p2, c2, rfl⟩ := hdv.shape
  rw [hL] at hp ⊢
  clear hL
  have hPW := pow_wrap h hh
  have hh8 : (h : Int) ≤ 8 := by omega
  have hd1 : decide ((h : Int) < 0) = false := by simp
  have hd2 : decide (8 < (h : Int)) = false := by simpa using hh8
  have hd3 : decide ((i : Int) < 0) = false := by simp
  have hd4 : decide (((2 ^ h : Nat) : Int) ≤ (i : Int)) = false := by
    rw [decide_eq_false_iff_not]
    omega
  generalize 2 ^ h = N at *
  have hd4c : decide (IntKind.i64.wrap ((2 : Int) ^ h) ≤ (i : Int)) = false := by
    rw [IntKind.wrap_i64]
    unfold wrap64 at hPW
    first | (rw [hPW]; exact hd4) | (rw [decide_eq_false_iff_not] at hd4 ⊢; omega)
  have hd4b : decide (wrap64 ((2 : Int) ^ h) ≤ (i : Int)) = false := by rw [hPW]; exact hd4
  have b1 := (Below.refl _ w).alloc (Nat.le_refl _) (.cells #[.int .i64 (i : Int), .slice p ls.length c, .slice q h d] 30)
  have g1 : (w.alloc (.cells #[.int .i64 (i : Int), .slice p ls.length c, .slice q h d] 30)).heap[w.heap.size]? = some (.cells #[.int .i64 (i : Int), .slice p ls.length c, .slice q h d] 30 (0, 0)) := heap_alloc_new w _
  go_enter Tryd.func20, Tryd.ntmps20
  go_wp2
  go_region
  have hb1 := b1.drew
  go_wp2_with fail
  refine (hR _ (hc.later hb1) (hdv.later hb1)).mono ?_
  rintro e w2 ⟨rfl, hb2⟩
  go_wp2
  go_ret
  exact ⟨rfl, hb1.trans (hb2.mono hb1.size)⟩

end Go.Proofs.YtpnginemjcphcabDoor
