/- What this text proves: the walk of annalslaw08.awake over this program: it answers true. -/
import Derived.Test.YtnmjggljicanmaaDoorSgAppend
import Derived.Test.YtnmjggljicanmaaDoorSgOpen
import Derived.Lib.SlBytesConst
namespace Go.Proofs.YtnmjggljicanmaaDoor
open Go.RowKit

theorem new_alive (n : Nat) : Alive (DevS.new n) n 0 := ⟨rfl, rfl, by simp [DevS.new, DevS.made], Nat.le_refl _⟩
theorem new_zero (n : Nat) : ∀ r ∈ (DevS.new n).now, r = nulls := fun _ h => (List.mem_replicate.1 h).2

set_option maxRecDepth 100000 in
set_option maxHeartbeats 3200000 in
theorem sawake_any (w : World) (hT : Tabs w) (hs : 3 ≤ w.heap.size) : Calls Tryd.prog 12 #[] w fun e w' => e = .returned (.bool true) ∧ Below w.heap.size w w' := by
  have hN := new_any 10 w (by omega) (by omega)
  have hA := new_alive 10
  have hZ := new_zero 10
  have hD : (DevS.new 10).dead = false := rfl
  generalize DevS.new 10 = S0 at *
  have kc := fun (w : World) => Lib.run_convert_bytes_const (P := Tryd.prog) w 31 5 #[.int .u8 97] 1 1 Tryd.underlying31 Tryd.underlying5
  have ht : tsec 1 = 1 := rfl
  have hR : roomF 10 2 = 436 := rfl
  go_enter Tryd.func12, Tryd.ntmps12
  go_wp2_with (first
    | (go_at_call 4; refine hN.mono ?_; rintro e w1 ⟨bd, bn, bm, rfl, hd1, hbd, hbn, hbm, hb1⟩; have hO := open_new hd1 hZ hD; rw [hA.2.2.1] at hO)
    | (go_at_call 5; refine hO.mono ?_; rintro e w2 ⟨g, rfl, l2, hg2, hb2⟩; have bx := (Below.refl _ w2).alloc (Nat.le_refl _) (.cells #[.int .u8 97] 5 (1, 2)); have hAp := append_ok (b := [97]) (base := w2.heap.size) (k := 0) (c := 0) (r := 0) (vs := []) (N := 10) (l2.same (bx.block _ l2.lt)) (World.ownsRow_nil _ _ _ _) (by simp) ((hd1.later hb2).later bx) hA ((hT.later hb1).later hb2 |>.later bx) ⟨by omega, by omega, by omega⟩ (HB.litF w2 5 [97] _ 1 (1, 2) rfl rfl (by unfold maxLen; omega)) (by rintro a e; cases e; have e1 := (hd1.later hb2).db.lt; have e2 := (hd1.later hb2).sr.lt; have e3 := (hd1.later hb2).dm.lt; simp only; omega) (by simp) (by simp) (by rw [show ([97] : List UInt8).length = 1 from rfl, ht]; omega) (by omega) (by omega) (by omega))
    | (go_at_call 6; refine hAp.mono ?_; rintro e w3 ⟨rfl, p3, c3, l3, hp3⟩; have hLn := slen_any l3; have hRm := sroom_any (n := 10) (x := 2) l3 (by omega) (by omega); rw [hR] at hRm)
    | (go_at_call 30; refine hLn.mono ?_; rintro e w4 ⟨rfl, rfl⟩)
    | (go_at_call 8; refine hRm.mono ?_; rintro e w5 ⟨rfl, hb5⟩))
  go_ret
  have B2 : Below w.heap.size w (w2.alloc (.cells #[.int .u8 97] 5 (1, 2))) := (hb1.trans (hb2.mono hb1.size)).trans (bx.mono (hb1.trans (hb2.mono hb1.size)).size)
  have hz := hb1.size
  have B4 : Below w.heap.size w w4 := B2.trans (hp3.below B2.size (by
    rintro q (e | e | e | e | e)
    · omega
    · omega
    · omega
    · omega
    · simp [Value.ownBlock] at e))
  exact ⟨rfl, B4.trans (hb5.mono B4.size)⟩

end Go.Proofs.YtnmjggljicanmaaDoor
