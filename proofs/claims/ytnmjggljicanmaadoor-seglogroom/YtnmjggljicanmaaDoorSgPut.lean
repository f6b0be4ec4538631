/- What this text proves: the walk of seglog's put over this program, on a device that has no fuse and lives. -/
import Derived.Test.YtnmjggljicanmaaDoorSgWrite
import Derived.Deep.RegionHeld3
namespace Go.Proofs.YtnmjggljicanmaaDoor
open Go.RowKit

theorem Tabs.low {B : Nat} {w w' : World} (h : Tabs w) (hb : Below B w w') (hB : 2 < B ∧ 1 < B) : Tabs w' := by
  obtain ⟨⟨t, fr, h0⟩, h1⟩ := h
  refine ⟨⟨t, fr, ?_⟩, ?_⟩
  · rw [hb.block 1 hB.2]
    exact h0
  · intro i x hx
    have hc := h1 i x hx
    rw [World.cell?_of_block (hb.block 2 hB.1)]
    exact hc

set_option maxRecDepth 100000 in
set_option maxHeartbeats 3200000 in
theorem put_ok {g bd bn bm N c k r cr : Nat} {n : Int} {pr : Option Addr} {st : Bool} {s : DevS} {b : List UInt8} {p : Option Addr} {cp : Nat} {w : World} (h : LB w g bd n (k : Int) (.slice pr r cr) st) (hd : Dev w bd bn bm s) (ha : Alive s N c) (hT : Tabs w) (hlow : 3 ≤ bd ∧ 3 ≤ bn ∧ 3 ≤ bm) (hv : HB w (.slice p b.length cp) b) (hb : b.length ≤ 4000) (hk : k + (tsec b.length + 1) ≤ N) (hN : N ≤ 16384) (hc : c + 1000 ≤ 1099511627776) (hr : r ≤ 1000000) :
    Calls Tryd.prog 22 #[.pointer (some ⟨g, 0, none⟩), .slice p b.length cp] w fun e w' => e = .returned (.int .i64 0) ∧ ∃ s' bm', Dev w' bd bn bm' s' ∧ Alive s' N (c + 200) ∧ (bm' = bm ∨ w.heap.size ≤ bm') ∧ Part (fun q => q = bd ∨ q = bn ∨ q = bm) w w' := by
  obtain ⟨c0, c1, c2, c3, c4⟩ := h.cells
  have hX := textOf_any (r + 1) (by omega) _ b w hv hb
  have ht1 : tsec b.length ≤ 64 := by unfold tsec; omega
  have hTS := fun W => tsec_any b.length (by omega) W
  have hTl := textL_len (r + 1) b
  have hMl := markL_len (r + 1) (textL (r + 1) b)
  have hMk := fun (gT : Nat) (W : World) (hx : TX W gT (textL (r + 1) b)) (ht : Tabs W) => markOf_any (r + 1) (by omega) (some ⟨gT, 0, none⟩) (tsec b.length * 64) (tsec b.length * 64) _ W (hx.hb hTl (by unfold maxLen; omega)) ht (by omega)
  generalize markL (r + 1) (textL (r + 1) b) = ML at *
  generalize textL (r + 1) b = TL at *
  generalize tsec b.length = t at *
  have hr1 : ((r + 1 : Nat) : Int) = (r : Int) + 1 := by omega
  rw [hr1] at hX
  simp only [hr1] at hMk
  have hwr : IntKind.i64.wrap ((r : Int) + 1) = (r : Int) + 1 := wrapM _ (by omega) (by omega)
  have hwk : IntKind.i64.wrap ((k : Int) + (t : Int)) = (k : Int) + (t : Int) := wrapM _ (by omega) (by omega)
  have hkN : (k : Int) ≤ 16384 := by omega
  go_enter Tryd.func22, Tryd.ntmps22
  go_wp2_with (first
    | (go_at_call 37; refine hX.mono ?_; rintro e w1 ⟨gT, rfl, x1, hg1, hb1⟩; have l1 := h.same (hb1.block _ h.lt); have c2' := cell_later hb1 c2; have hW := swrite_ok (i := k) l1 (hd.later hb1) ha x1 hTl (by omega) hN (by omega))
    | (go_at_call 38; refine hW.mono ?_; rintro e w2 ⟨rfl, s2, bm2, hd2, ha2, hbm2, hp2⟩))
  have hne := x1.ne (hd.later hb1)
  have hnl := l1.ne (hd.later hb1)
  have x2 : TX w2 gT TL := (hp2.2 _ (Array.getElem?_eq_some_iff.1 x1).1 (by rintro (e | e | e); exact hne.1 e; exact hne.2.1 e; exact hne.2.2 e)).trans x1
  have l2 : LB w2 g bd n (k : Int) (.slice pr r cr) st := l1.same (hp2.2 _ l1.lt (by rintro (e | e | e); exact hnl.1 e; exact hnl.2.1 e; exact hnl.2.2 e))
  have hs1 : 3 ≤ w1.heap.size := by have := (hd.later hb1).db.lt; omega
  have T2 : Tabs w2 := (hT.later hb1).low (hp2.below hs1 (by rintro q (e | e | e) <;> omega)) ⟨by decide, by decide⟩
  have hbd : Below w2.heap.size w2 w2.drew := (Below.refl _ _).drew
  have hM2 := hMk gT w2.drew (x2.later hbd) (T2.later hbd)
  have d2 := l2.cells.2.2.1
  have d2d := cell_later hbd d2
  have hdd := hd2.later hbd
  have ldd := l2.same (hbd.block _ l2.lt)
  have hP1 : Part (fun q => q = bd ∨ q = bn ∨ q = bm) w w2.drew := ((Part.of_below hb1).trans hp2 (fun _ _ e => e)).drew
  have hkt : ((k + t : Nat) : Int) = (k : Int) + (t : Int) := by omega
  have hz1 : w.heap.size ≤ w1.heap.size := hb1.size
  clear hMk hX hW hp2 x1 l1 hne hnl hd2 l2 T2 x2 c0 c1 c3 c4 h hv hT c2' hd
  go_region_held3 (fun W => W.cell? ⟨g, 2, none⟩ = some (.int .i64 (k : Int))) (first | with_reducible exact d2d | with_reducible exact d2 | with_reducible exact d4 | with_reducible exact d5 | fail) (first
    | (go_at_call 36; refine (hTS _).mono ?_; rintro e w3 ⟨rfl, rfl⟩)
    | (go_at_call 39; refine hM2.mono ?_; rintro e w4 ⟨gM, rfl, x4, hg4, hb4⟩; have l4 := ldd.same (hb4.block _ ldd.lt); have d4 := l4.cells.2.2.1; have hW2 := swrite_ok (i := k + t) (m := 1) l4 (hdd.later hb4) ha2 x4 hMl (by omega) hN (by omega); rw [hkt] at hW2; have hnl4 := l4.ne (hdd.later hb4); have hP4 : Part (fun q => q = bd ∨ q = bn ∨ q = bm) w w4 := hP1.trans (Part.of_below (S := fun _ => False) hb4) (fun _ _ e => e.elim))
    | (go_at_call 38; refine hW2.mono ?_; rintro e w5 ⟨rfl, s5, bm5, hd5, ha5, hbm5, hp5⟩; have d5 := (l4.same (hp5.2 _ l4.lt (by rintro (e | e | e); exact hnl4.1 e; exact hnl4.2.1 e; exact hnl4.2.2 e))).cells.2.2.1))
  go_wp2
  go_ret
  have hz4 := hP4.size
  have ha6 : Alive s5 N (c + 200) := ⟨ha5.1, ha5.2.1, ha5.2.2.1, Nat.le_trans ha5.2.2.2 (by omega)⟩
  refine ⟨rfl, s5, bm5, hd5, ha6, ?_, hP4.trans hp5 ?_⟩
  · rcases hbm5 with e | e
    · rcases hbm2 with e2 | e2
      · exact .inl (e.trans e2)
      · exact .inr (by omega)
    · exact .inr (by omega)
  · rintro q hq (e | e | e)
    · exact .inl e
    · exact .inr (.inl e)
    · rcases hbm2 with e2 | e2
      · exact .inr (.inr (e.trans e2))
      · omega

end Go.Proofs.YtnmjggljicanmaaDoor
