/- What this text proves: the walk of annalslaw07.awake over this program: it answers true. -/
import Derived.Test.YtmikhebbcmniaaaDRepeat
import Derived.Test.YtmikhebbcmniaaaDStays
namespace Go.Proofs.Ytmikhebbcmniaaa
open Go.RowKit Go.Maps

theorem awake_now (l : List UInt8) : (((DevS.new 2).write 1 l).crash []).now[1]? = some nulls := by
  have hw := write_eq (new_stops 2) 1 l
  have hn : (DevS.new 2).now = [nulls, nulls] := rfl
  have ho : ((DevS.new 2).write 1 l).old = fun j => if j = 1 then some nulls else none := by
    rw [hw]
    funext j
    rfl
  have hn2 : ((DevS.new 2).write 1 l).now = [nulls, l] := by rw [hw]; rfl
  have hwt : ((DevS.new 2).write 1 l).waits = [1] := by
    unfold DevS.waits
    rw [hn2, ho]
    rfl
  simp only [DevS.crash]
  rw [hwt, hn2, ho]
  rfl

theorem awake_ch (l : List UInt8) : (((DevS.new 2).write 1 l).crash []).ch = 1 := by
  simp only [DevS.crash]
  rw [write_eq (new_stops 2) 1 l]
  rfl

set_option maxRecDepth 100000 in
set_option maxHeartbeats 800000 in
theorem awake_walk (w : World) (S0 S1 S2 : DevS) (L7 : List UInt8) (N0 : List UInt8) (he0 : S0.err = 0) (hn2 : S0.now.length = 2) (hch0 : S0.ch = 0) (hL : L7.length = 64) (hS1 : S0.write 1 L7 = S1) (hS2 : S1.crash [] = S2) (hnow : S2.now[1]? = some N0) (hcd : S2.dead = false) (hch : S2.ch = 1)
    (hN : Calls Try.prog 8 #[.int .i64 2] w fun e w' => ∃ bd bn bm, e = .returned (.tuple #[.pointer (some ⟨bd, 0, none⟩), .int .i64 0]) ∧ Dev w' bd bn bm S0 ∧ w.heap.size ≤ bd ∧ w.heap.size ≤ bn ∧ w.heap.size ≤ bm ∧ Below w.heap.size w w')
    (hR : ∀ W : World, Calls Try.prog 28 #[.slice (some ⟨W.heap.size, 0, none⟩) 1 1, .int .i64 64] (W.alloc (.cells #[.int .u8 7] 5)) fun e w' => e = .returned (.slice (some ⟨W.heap.size + 1, 0, none⟩) 64 64) ∧ HB w' (.slice (some ⟨W.heap.size + 1, 0, none⟩) 64 64) L7 ∧ Below W.heap.size W w')
    (hmk : ∀ W : World, ∃ w', (Instr.makeSlice 31 (.int .i64 64) (.int .i64 64)).run Try.prog W = .ok (.slice (some ⟨W.heap.size, 0, none⟩) 64 64) w' ∧ HB w' (.slice (some ⟨W.heap.size, 0, none⟩) 64 64) N0 ∧ Below W.heap.size W w') :
    Calls Try.prog 10 #[] w fun e w' => e = .returned (.bool true) ∧ Below w.heap.size w w' := by
  go_enter Try.func10, Try.ntmps10
  go_wp2_with (first
    | (go_at_call 8; refine hN.mono ?_; rintro e w1 ⟨bd, bn, bm, rfl, hd1, hbd, hbn, hbm, hb1⟩; have hRp := hR w1)
    | (go_at_call 28; refine hRp.mono ?_; rintro e w2 ⟨rfl, hf2, hb2⟩; have hd2 := hd1.later hb2; have hfar : ∀ a n c, (Value.slice (some ⟨w1.heap.size + 1, 0, none⟩) 64 64) = .slice (some a) n c → a.block ≠ bd ∧ a.block ≠ bn := (by rintro a n c e; cases e; have e1 := hd1.db.lt; have e2 := hd1.sr.lt; constructor <;> simp only <;> omega); have hW := write_any hd2 1 _ _ hf2 (by omega) hL (by omega) hfar; rw [he0, hS1] at hW)
    | (go_at_call 23; refine hW.mono ?_; rintro e w3 ⟨rfl, hd3, hp3⟩; have hC := crash_any hd3 (.slice none 0 0) [] (HB.nil w3) (fun h => absurd rfl h); rw [hS2] at hC)
    | (go_at_call 25; refine hC.mono ?_; rintro e w4 ⟨rfl, bm4, hd4, hbm4, hp4⟩; have hRd := read_any hd4 1 N0 hnow hcd)
    | (go_at_call 17; refine hRd.mono ?_; rintro e w5 ⟨rfl, rfl⟩; have hd5 := hd4.later ((Below.refl _ w4).alloc (Nat.le_refl _) (.cells (bcs N0).toArray 76)); obtain ⟨w6, hmk6, hn6, hb6⟩ := hmk (w4.alloc (.cells (bcs N0).toArray 76)); rw [World.size_alloc] at hmk6 hn6; have hl0 : N0.length = 64 := hd4.ok.rows N0 (List.mem_of_getElem? hnow); have hx5 : HB (w4.alloc (.cells (bcs N0).toArray 76)) (.slice (some ⟨w4.heap.size, 0, none⟩) 64 64) N0 := (by have := HB.block (t := 76) (l := N0) (heap_alloc_new w4 (.cells (bcs N0).toArray 76)) (by rw [hl0]; unfold maxLen; omega); rw [hl0] at this; exact this); have hE := equal_t _ _ _ _ _ (hx5.later hb6) hn6 rfl; have hG := changes_any (hd5.later hb6); rw [hch] at hG)
    | (go_at_call 21; refine hE.mono ?_; rintro e w7 ⟨rfl, rfl⟩)
    | (go_at_call 34; refine hG.mono ?_; rintro e w8 ⟨rfl, rfl⟩))
  go_ret
  have hs3 := Nat.le_trans hb1.size hb2.size
  have hbe3 : Below w.heap.size w w3 := (hb1.trans (hb2.mono hb1.size)).trans (hp3.below hs3 (by rintro k (rfl | rfl | rfl) <;> assumption))
  have hbe4 : Below w.heap.size w w4 := hbe3.trans (hp4.below hbe3.size (by rintro k (rfl | rfl) <;> assumption))
  have hbe5 : Below w.heap.size w (w4.alloc (.cells (bcs N0).toArray 76)) := hbe4.alloc hbe4.size _
  exact ⟨rfl, hbe5.trans (hb6.mono hbe5.size)⟩

theorem repeat7 (W : World) : Calls Try.prog 28 #[.slice (some ⟨W.heap.size, 0, none⟩) 1 1, .int .i64 64] (W.alloc (.cells #[.int .u8 7] 5)) fun e w' => e = .returned (.slice (some ⟨W.heap.size + 1, 0, none⟩) 64 64) ∧ HB w' (.slice (some ⟨W.heap.size + 1, 0, none⟩) 64 64) (List.replicate 64 7) ∧ Below W.heap.size W w' := by
  have h := repeat_any 64 (by omega) (by omega) 7 W.heap.size 0 1 (W.alloc (.cells #[.int .u8 7] 5)) (by rw [cell_of_row _ _ 0 _ _ _ (heap_alloc_new W _)]; rfl) mul64
  rw [World.size_alloc] at h
  exact h.mono fun e w' ⟨he, hh, hb⟩ => ⟨he, hh, ((Below.refl _ W).alloc (Nat.le_refl _) _).trans (hb.mono (by omega))⟩

theorem make64 (W : World) : ∃ w', (Instr.makeSlice 31 (.int .i64 64) (.int .i64 64)).run Try.prog W = .ok (.slice (some ⟨W.heap.size, 0, none⟩) 64 64) w' ∧ HB w' (.slice (some ⟨W.heap.size, 0, none⟩) 64 64) nulls ∧ Below W.heap.size W w' := by
  obtain ⟨i0, hi, hz0, hz1, hz2⟩ := info_parts i_u8
  have hby : i0.bytes * 64 ≤ 281474976710656 := by rw [hz2]; omega
  obtain ⟨w1, hrun, how, hgr⟩ := run_make_full (P := Try.prog) W W.heap.size 31 5 i0 (.int .u8 0) 1 Try.underlying31 hi hz0 hz1 .i64 .i64 64 hby (by unfold maxLen; omega) (Nat.le_refl _)
  have hm := made_bcs 64
  have hnl : List.replicate 64 (0 : UInt8) = nulls := rfl
  rw [hnl] at hm
  have how2 : w1.ownsRow W.heap.size 5 1 (.slice (some ⟨W.heap.size, 0, none⟩) 64 64) 64 (bcs nulls) := by
    rw [← hm]; exact how
  exact ⟨w1, hrun, HB.of_owns how2, (Below.refl _ W).grown hgr (Nat.le_refl _) (fun _ e => by cases e)⟩

theorem awake_any (w : World) : Calls Try.prog 10 #[] w fun e w' => e = .returned (.bool true) ∧ Below w.heap.size w w' :=
  awake_walk w (DevS.new 2) _ _ (List.replicate 64 7) nulls (by simp only [DevS.err, new_stops]; rfl) (new_len 2) rfl (by simp only [List.length_replicate]) rfl rfl (awake_now _) rfl (awake_ch _) (new_any 2 w (by omega) (by omega)) repeat7 make64

end Go.Proofs.Ytmikhebbcmniaaa
