/- What this text proves: the walk of seglog's write over this program, on a device that has no fuse and lives. What this text proves: the walk of seglog's put over this program, on a device that has no fuse and lives. What this text proves: the walk of seglog's take over this program. What this text proves: the walk of seglog's Append over this program, where the record has room and the device lives. -/
import Derived.Test.YtcgpgnajmfemhaaGreatDoorJT1
import Derived.Test.YtcgpgnajmfemhaaGreatDoorJD2
import Derived.Deep.RegionHeld3
import Derived.Test.YtcgpgnajmfemhaaGreatDoorJN1
import Derived.Test.YtcgpgnajmfemhaaGreatDoorJOw
import Derived.Deep.AppendLies
import Derived.Test.YtcgpgnajmfemhaaGreatDoorJQ7
namespace Go.Proofs.YtcgpgnajmfemhaaGreatDoor
open Go.RowKit

/-- A device that has no fuse and lives. -/
def Alive (s : DevS) (N c : Nat) : Prop := s.dead = false ∧ s.fuse = -1 ∧ s.now.length = N ∧ s.ch ≤ c

theorem Alive.err {s : DevS} {N c : Nat} (h : Alive s N c) : s.err = 0 := by simp [DevS.err, DevS.stops, h.1, h.2.1]
theorem Alive.counted {s : DevS} {N c : Nat} (h : Alive s N c) : Alive s.counted N (c + 1) := by
  have e : s.stops = false := by simp [DevS.stops, h.1, h.2.1]
  have := h.2.2.2
  refine ⟨?_, ?_, by rw [counted_now]; exact h.2.2.1, Nat.le_trans (counted_ch s) (by omega)⟩
  · simp [DevS.counted, e, h.1]
  · simp [DevS.counted, e, h.2.1]
theorem Alive.write {s : DevS} {N c : Nat} (h : Alive s N c) (i : Nat) (l : List UInt8) : Alive (s.write i l) N (c + 1) := by
  have e : s.stops = false := by simp [DevS.stops, h.1, h.2.1]
  obtain ⟨h1, h2, h3, h4⟩ := h.counted
  unfold DevS.write
  rw [if_neg (by simp [e])]
  exact ⟨h1, h2, by simpa using h.2.2.1, h4⟩
theorem Alive.sync {s : DevS} {N c : Nat} (h : Alive s N c) : Alive s.sync N (c + 1) := by
  have e : s.stops = false := by simp [DevS.stops, h.1, h.2.1]
  obtain ⟨h1, h2, h3, h4⟩ := h.counted
  unfold DevS.sync
  rw [if_neg (by simp [e])]
  exact ⟨h1, h2, h3, h4⟩

theorem TX.ne {w : World} {gT bd bn bm : Nat} {T : List UInt8} {s : DevS} (h : TX w gT T) (hd : Dev w bd bn bm s) : gT ≠ bd ∧ gT ≠ bn ∧ gT ≠ bm := by
  have h1 := hd.db
  obtain ⟨cs, h2, _⟩ := hd.sr
  obtain ⟨D, ⟨es, clock, h3, _⟩, _⟩ := hd.dm
  unfold DB at h1
  unfold TX at h
  refine ⟨?_, ?_, ?_⟩ <;> rintro rfl
  · rw [h] at h1; simp at h1
  · rw [h] at h2; simp at h2
  · rw [h] at h3; simp at h3
theorem LB.ne {w : World} {g bd' bd bn bm : Nat} {n k : Int} {rs : Value} {st : Bool} {s : DevS} (h : LB w g bd' n k rs st) (hd : Dev w bd bn bm s) : g ≠ bd ∧ g ≠ bn ∧ g ≠ bm := by
  have h1 := hd.db
  obtain ⟨cs, h2, _⟩ := hd.sr
  obtain ⟨D, ⟨es, clock, h3, _⟩, _⟩ := hd.dm
  unfold DB at h1
  unfold LB at h
  refine ⟨?_, ?_, ?_⟩ <;> rintro rfl
  · rw [h] at h1; simp at h1
  · rw [h] at h2; simp at h2
  · rw [h] at h3; simp at h3

set_option maxRecDepth 100000 in
set_option maxHeartbeats 3200000 in
theorem swrite_ok {g bd bn bm gT N c m i : Nat} {n k : Int} {rs : Value} {st : Bool} {s : DevS} {T : List UInt8} {w : World} (h : LB w g bd n k rs st) (hd : Dev w bd bn bm s) (ha : Alive s N c) (hT : TX w gT T) (hTl : T.length = m * 64) (him : i + m ≤ N) (hN : N ≤ 16384) (hc : c + m + 1 ≤ 1099511627776) :
    Calls Tryz.prog 128 #[.pointer (some ⟨g, 0, none⟩), .int .i64 (i : Int), .slice (some ⟨gT, 0, none⟩) (m * 64) (m * 64)] w fun e w' => e = .returned (.int .i64 0) ∧ ∃ s' bm', Dev w' bd bn bm' s' ∧ Alive s' N (c + m + 1) ∧ (bm' = bm ∨ w.heap.size ≤ bm') ∧ Part (fun q => q = bd ∨ q = bn ∨ q = bm) w w' := by
  have hdiv : ((m * 64 : Nat) : Int).tdiv 64 = (m : Int) := by simp
  have hne := hT.ne hd
  have hnl := h.ne hd
  have hwm : IntKind.i64.wrap (m : Int) = (m : Int) := wrapM _ (by omega) (by omega)
  generalize hM : m * 64 = M at *
  go_enter Tryz.func128, Tryz.ntmps128
  go_wp2
  go_loopw [12] (fun x wr => ∃ (j : Nat) (s' : DevS), j ≤ m ∧ x = .int .i64 (j : Int) ∧ Dev wr bd bn bm s' ∧ Alive s' N (c + j) ∧ Part (fun q => q = bd ∨ q = bn ∨ q = bm) w wr) (fun x _ => m - (RowKit.intOf x).toNat)
  case atStart => exact ⟨0, s, Nat.zero_le _, rfl, hd, ha, Part.refl _ _⟩
  case round =>
    obtain ⟨j, s', hj, rfl, hdj, haj, hpj⟩ := hrel
    have hLj : LB wr g bd n k rs st := h.same (hpj.2 _ h.lt (by rintro (e | e | e); exact hnl.1 e; exact hnl.2.1 e; exact hnl.2.2 e))
    have c0 := hLj.cells.1
    by_cases hlt : j < m
    · have hlt2 : (j : Int) < (m : Int) := by omega
      have hTj : TX wr gT T := (hpj.2 _ (Array.getElem?_eq_some_iff.1 hT).1 (by rintro (e | e | e); exact hne.1 e; exact hne.2.1 e; exact hne.2.2 e)).trans hT
      have hH := (hTj.hb hTl (by unfold maxLen; omega)).cut (j * 64) ((j + 1) * 64) M (by omega) (by omega) (by omega) (Nat.le_refl _)
      have eC : cutP (some ⟨gT, 0, none⟩) M (j * 64) = some ⟨gT, j * 64, none⟩ := by
        unfold cutP
        rw [if_neg (by omega)]
        simp [Addr.add_lit]
      have e64 : (j + 1) * 64 - j * 64 = 64 := by omega
      have k1 : ∀ W, (Instr.slice 37 (.slice (some ⟨gT, 0, none⟩) M M) (some (.int .i64 ((j : Int) * 64))) (some (.int .i64 (((j : Int) + 1) * 64))) none).run Tryz.prog W = .ok (.slice (some ⟨gT, j * 64, none⟩) 64 (M - j * 64)) W := fun W => by
        rw [run_cut2 (P := Tryz.prog) Tryz.underlying37 s_u8 (some ⟨gT, 0, none⟩) M M (j * 64) ((j + 1) * 64) ((j : Int) * 64) (((j : Int) + 1) * 64) (by omega) (by omega) (by omega) (by omega) W, eC, e64]
      rw [eC, e64] at hH
      have hbd : Below wr.heap.size wr wr.drew := (Below.refl _ _).drew
      have hLl : ((T.drop (j * 64)).take 64).length = 64 := by rw [List.length_take, List.length_drop]; omega
      have hW := write_any (hdj.later hbd) (i + j) _ _ (hH.later hbd) (by rw [haj.2.2.1]; omega) hLl (by have := haj.2.2.2; omega) (by rintro a n c e; cases e; exact ⟨hne.1, hne.2.1⟩)
      rw [haj.err, show (((i + j : Nat) : Nat) : Int) = (i : Int) + (j : Int) by omega] at hW
      have hA2 : Alive (s'.write (i + j) ((T.drop (j * 64)).take 64)) N (c + (j + 1)) := haj.write _ _
      generalize s'.write (i + j) ((T.drop (j * 64)).take 64) = s2 at *
      have hp2 : Part (fun q => q = bd ∨ q = bn ∨ q = bm) w wr.drew := hpj.drew
      have hw1 : IntKind.i64.wrap ((j : Int) * 64) = (j : Int) * 64 := wrapM _ (by omega) (by omega)
      have hw2 : IntKind.i64.wrap ((j : Int) + 1) = (j : Int) + 1 := wrapM _ (by omega) (by omega)
      have hw3 : IntKind.i64.wrap (((j : Int) + 1) * 64) = ((j : Int) + 1) * 64 := wrapM _ (by omega) (by omega)
      have hw4 : IntKind.i64.wrap ((i : Int) + (j : Int)) = (i : Int) + (j : Int) := wrapM _ (by omega) (by omega)
      have b1 : (i : Int) ≤ 16384 := by omega
      have b2 : (j : Int) ≤ 16384 := by omega
      clear hH hTj hdj hLj hbd eC e64 hpj haj hLl hne hnl h hT
      go_wp2
      go_region_with (go_at_call 156; refine hW.mono ?_; rintro e w4 ⟨rfl, hd4, hp4⟩)
      all_goals
        go_wp2
        go_roundw
        case rel => first | exact ⟨j + 1, s2, by omega, by go_num, hd4, hA2, hp2.trans hp4 (fun _ _ e => e)⟩ | ((repeat apply Exists.intro); exact ⟨⟨j + 1, s2, by omega, by go_num, hd4, hA2, hp2.trans hp4 (fun _ _ e => e)⟩, rfl⟩)
        case measure => simp [RowKit.intOf]; omega
    · obtain rfl : j = m := by omega
      have hS := sync_any hdj (by have := haj.2.2.2; omega)
      rw [haj.err] at hS
      go_wp2_with (go_at_call 157; refine hS.mono ?_; rintro e w5 ⟨rfl, bm', hd5, hbm5, hp5⟩)
      go_ret
      refine ⟨rfl, _, bm', hd5, haj.sync, ?_, hpj.trans hp5 (fun q _ e => .inl e)⟩
      rcases hbm5 with e | e
      · exact .inl e
      · exact .inr (Nat.le_trans hpj.size e)

end Go.Proofs.YtcgpgnajmfemhaaGreatDoor

namespace Go.Proofs.YtcgpgnajmfemhaaGreatDoor
open Go.RowKit

theorem Tabs.low {B : Nat} {w w' : World} (h : Tabs w) (hb : Below B w w') (hB : 1 < B ∧ 0 < B) : Tabs w' := by
  obtain ⟨⟨t, fr, h0⟩, h1⟩ := h
  refine ⟨⟨t, fr, ?_⟩, ?_⟩
  · rw [hb.block 0 hB.2]
    exact h0
  · intro i x hx
    have hc := h1 i x hx
    rw [World.cell?_of_block (hb.block 1 hB.1)]
    exact hc

set_option maxRecDepth 100000 in
set_option maxHeartbeats 3200000 in
theorem put_ok {g bd bn bm N c k r cr : Nat} {n : Int} {pr : Option Addr} {st : Bool} {s : DevS} {b : List UInt8} {p : Option Addr} {cp : Nat} {w : World} (h : LB w g bd n (k : Int) (.slice pr r cr) st) (hd : Dev w bd bn bm s) (ha : Alive s N c) (hT : Tabs w) (hlow : 3 ≤ bd ∧ 3 ≤ bn ∧ 3 ≤ bm) (hv : HB w (.slice p b.length cp) b) (hb : b.length ≤ 4000) (hk : k + (tsec b.length + 1) ≤ N) (hN : N ≤ 16384) (hc : c + 1000 ≤ 1099511627776) (hr : r ≤ 1000000) :
    Calls Tryz.prog 84 #[.pointer (some ⟨g, 0, none⟩), .slice p b.length cp] w fun e w' => e = .returned (.int .i64 0) ∧ ∃ s' bm', Dev w' bd bn bm' s' ∧ Alive s' N (c + 200) ∧ (bm' = bm ∨ w.heap.size ≤ bm') ∧ Part (fun q => q = bd ∨ q = bn ∨ q = bm) w w' := by
  obtain ⟨c0, c1, c2, c3, c4⟩ := h.cells
  have hX := textOf_any (r + 1) (by omega) _ b w hv hb
  have ht1 : tsec b.length ≤ 64 := by unfold tsec; omega
  have hTS := fun W => tsec_any b.length (by omega) W
  have hTl := textL_len (r + 1) b
  have hMl := markL_len (r + 1) (textL (r + 1) b)
  have hMk := fun (gT : Nat) (W : World) (hx : TX W gT (textL (r + 1) b)) (ht : Tabs W) => markOf_any (r + 1) (by omega) (some ⟨gT, 0, none⟩) (tsec b.length * 64) (tsec b.length * 64) _ W (hx.hb hTl (by unfold maxLen; omega)) ht (by omega)
  generalize markL (r + 1) (textL (r + 1) b) = ML at *
  generalize textL (r + 1) b = TL at *
  generalize tsec b.length = t at *
  have hr1 : ((r + 1 : Nat) : Int) = (r : Int) + 1 := by omega
  rw [hr1] at hX
  simp only [hr1] at hMk
  have hwr : IntKind.i64.wrap ((r : Int) + 1) = (r : Int) + 1 := wrapM _ (by omega) (by omega)
  have hwk : IntKind.i64.wrap ((k : Int) + (t : Int)) = (k : Int) + (t : Int) := wrapM _ (by omega) (by omega)
  have hkN : (k : Int) ≤ 16384 := by omega
  go_enter Tryz.func84, Tryz.ntmps84
  go_wp2_with (first
    | (go_at_call 127; refine hX.mono ?_; rintro e w1 ⟨gT, rfl, x1, hg1, hb1⟩; have l1 := h.same (hb1.block _ h.lt); have c2' := cell_later hb1 c2; have hW := swrite_ok (i := k) l1 (hd.later hb1) ha x1 hTl (by omega) hN (by omega))
    | (go_at_call 128; refine hW.mono ?_; rintro e w2 ⟨rfl, s2, bm2, hd2, ha2, hbm2, hp2⟩))
  have hne := x1.ne (hd.later hb1)
  have hnl := l1.ne (hd.later hb1)
  have x2 : TX w2 gT TL := (hp2.2 _ (Array.getElem?_eq_some_iff.1 x1).1 (by rintro (e | e | e); exact hne.1 e; exact hne.2.1 e; exact hne.2.2 e)).trans x1
  have l2 : LB w2 g bd n (k : Int) (.slice pr r cr) st := l1.same (hp2.2 _ l1.lt (by rintro (e | e | e); exact hnl.1 e; exact hnl.2.1 e; exact hnl.2.2 e))
  have hs1 : 3 ≤ w1.heap.size := by have := (hd.later hb1).db.lt; omega
  have T2 : Tabs w2 := (hT.later hb1).low (hp2.below hs1 (by rintro q (e | e | e) <;> omega)) ⟨by decide, by decide⟩
  have hbd : Below w2.heap.size w2 w2.drew := (Below.refl _ _).drew
  have hM2 := hMk gT w2.drew (x2.later hbd) (T2.later hbd)
  have d2 := l2.cells.2.2.1
  have d2d := cell_later hbd d2
  have hdd := hd2.later hbd
  have ldd := l2.same (hbd.block _ l2.lt)
  have hP1 : Part (fun q => q = bd ∨ q = bn ∨ q = bm) w w2.drew := ((Part.of_below hb1).trans hp2 (fun _ _ e => e)).drew
  have hkt : ((k + t : Nat) : Int) = (k : Int) + (t : Int) := by omega
  have hz1 : w.heap.size ≤ w1.heap.size := hb1.size
  clear hMk hX hW hp2 x1 l1 hne hnl hd2 l2 T2 x2 c0 c1 c3 c4 h hv hT c2' hd
  go_region_held3 (fun W => W.cell? ⟨g, 2, none⟩ = some (.int .i64 (k : Int))) (first | with_reducible exact d2d | with_reducible exact d2 | with_reducible exact d4 | with_reducible exact d5 | fail) (first
    | (go_at_call 126; refine (hTS _).mono ?_; rintro e w3 ⟨rfl, rfl⟩)
    | (go_at_call 129; refine hM2.mono ?_; rintro e w4 ⟨gM, rfl, x4, hg4, hb4⟩; have l4 := ldd.same (hb4.block _ ldd.lt); have d4 := l4.cells.2.2.1; have hW2 := swrite_ok (i := k + t) (m := 1) l4 (hdd.later hb4) ha2 x4 hMl (by omega) hN (by omega); rw [hkt] at hW2; have hnl4 := l4.ne (hdd.later hb4); have hP4 : Part (fun q => q = bd ∨ q = bn ∨ q = bm) w w4 := hP1.trans (Part.of_below (S := fun _ => False) hb4) (fun _ _ e => e.elim))
    | (go_at_call 128; refine hW2.mono ?_; rintro e w5 ⟨rfl, s5, bm5, hd5, ha5, hbm5, hp5⟩; have d5 := (l4.same (hp5.2 _ l4.lt (by rintro (e | e | e); exact hnl4.1 e; exact hnl4.2.1 e; exact hnl4.2.2 e))).cells.2.2.1))
  go_wp2
  go_ret
  have hz4 := hP4.size
  have ha6 : Alive s5 N (c + 200) := ⟨ha5.1, ha5.2.1, ha5.2.2.1, Nat.le_trans ha5.2.2.2 (by omega)⟩
  refine ⟨rfl, s5, bm5, hd5, ha6, ?_, hP4.trans hp5 ?_⟩
  · rcases hbm5 with e | e
    · rcases hbm2 with e2 | e2
      · exact .inl (e.trans e2)
      · exact .inr (by omega)
    · exact .inr (by omega)
  · rintro q hq (e | e | e)
    · exact .inl e
    · exact .inr (.inl e)
    · rcases hbm2 with e2 | e2
      · exact .inr (.inr (e.trans e2))
      · omega

end Go.Proofs.YtcgpgnajmfemhaaGreatDoor

namespace Go.Proofs.YtcgpgnajmfemhaaGreatDoor
open Go.RowKit

set_option maxRecDepth 100000 in
set_option maxHeartbeats 1600000 in
theorem take_any {g bd base k r : Nat} {n : Int} {rs : Value} {st : Bool} {vs : List Value} {pb : Option Addr} {m cb : Nat} {w : World} (h : LB w g bd n (k : Int) rs st) (ho : w.ownsRow base 37 1 rs r vs) (hbase : base ≤ w.heap.size) (hr : r ≤ 1000000) (hm : m ≤ 4000) (hk : k ≤ 16384) :
    Calls Tryz.prog 85 #[.pointer (some ⟨g, 0, none⟩), .slice pb m cb] w fun e w' => e = .returned (.tuple #[]) ∧ ∃ rs' w1, w1.ownsRow base 37 1 rs' (r + 1) (vs ++ [.slice pb m cb]) ∧ LB w' g bd n ((k + (tsec m + 1) : Nat) : Int) rs' st ∧ Part (fun q => q = g ∨ some q = rs.ownBlock) w w' ∧ (w.alloc (.cells #[.slice pb m cb] 37)).grownBy w1 rs.ownBlock ∧ Part (fun q => q = g) w1 w' := by
  obtain ⟨c0, c1, c2, c3, c4⟩ := h.cells
  obtain ⟨i0, hi0, hz0, hz1, hz2⟩ := info_parts i_byt
  have hTk := fun W => taken_any m (by omega) W
  have ht : tsec m + 1 ≤ 100 := by unfold tsec; omega
  generalize tsec m + 1 = t at *
  have bB := (Below.refl _ w).alloc (Nat.le_refl _) (.cells #[.slice pb m cb] 37)
  have oB := owns_later ho bB
  have lB := h.same (bB.block _ h.lt)
  have hfr := fun i => lB.free i
  have hnews : ∀ j u, [Value.slice pb m cb][j]? = some u → (w.alloc (.cells #[.slice pb m cb] 37)).cell? ((⟨w.heap.size, 0, none⟩ : Addr).add j) = some u := World.news_of_block (cs := #[.slice pb m cb]) (t := 37) (fr := (0, 0)) (heap_alloc_new w _)
  have hsB : (w.alloc (.cells #[.slice pb m cb] 37)).heap.size = w.heap.size + 1 := by simp
  have hnb : some g ≠ rs.ownBlock := by
    rcases oB.2 with ⟨rfl, _⟩ | ⟨g', cap, cur', rfl, _, hg', _⟩
    · simp [Value.ownBlock]
    · simp only [Value.ownBlock, ne_eq, Option.some.injEq]
      intro e
      subst e
      unfold LB at lB
      rw [hg'] at lB
      simp at lB
  have hwk : IntKind.i64.wrap ((k : Int) + (t : Int)) = (k : Int) + (t : Int) := wrapM _ (by omega) (by omega)
  go_enter Tryz.func85, Tryz.ntmps85
  go_wp2_with (refine wpList_append_lies _ rfl _ _ 38 rfl base 37 i0 _ 1 24 Tryz.underlying38 hi0 hz0 hz1 hz2 rfl (by omega) _ r vs rfl oB ⟨w.heap.size, 0, none⟩ 1 1 [.slice pb m cb] rfl rfl hnews (by simp [Value.oneCell']) (by omega) (by unfold maxLen; omega) (by omega) (by rw [hsB]; omega) (w.heap.size + 1) hsB ?_; intro g1 cap1 w1 hown1 hgrow1 hat1 hlt1; have l1 := lB.same (hgrow1.block _ lB.lt hnb); have e3 := l1.cells.2.2.2.1; have f3 := l1.free 3)
  have l2 := l1.put3 (.slice (some ⟨g1, 0, none⟩) (r + 1) cap1)
  have p2 : Part (fun q => q = g) w1 (w1.setCell ⟨g, 3, none⟩ (.slice (some ⟨g1, 0, none⟩) (r + 1) cap1)) := (Part.refl _ w1).setCell _ _ rfl
  generalize w1.setCell ⟨g, 3, none⟩ (.slice (some ⟨g1, 0, none⟩) (r + 1) cap1) = w2 at *
  have d2 := l2.cells.2.2.1
  have d2d : w2.drew.cell? ⟨g, 2, none⟩ = some (.int .i64 (k : Int)) := cell_later ((Below.refl _ _).drew) d2
  have f2 : w2.drew.frozen? ⟨g, 2, none⟩ = false := (l2.same (w' := w2.drew) rfl).free 2
  go_region_with (go_at_call 83; refine (hTk _).mono ?_; rintro e w3 ⟨rfl, rfl⟩)
  all_goals
    go_wp2
    go_end0
    have l3 := l2.put2 ((k + t : Nat) : Int)
    rw [show ((k + t : Nat) : Int) = (k : Int) + (t : Int) by omega] at l3 ⊢
    have p3 : Part (fun q => q = g) w1 (w2.setCell ⟨g, 2, none⟩ (.int .i64 ((k : Int) + (t : Int)))).drew := (p2.setCell ⟨g, 2, none⟩ _ rfl).drew
    have pg : Part (fun q => q = g ∨ some q = rs.ownBlock) w w1 := ((Part.refl _ w).alloc (.cells #[.slice pb m cb] 37)).grown hgrow1 (fun b e => .inr e.symm)
    exact ⟨rfl, _, w1, hown1, l3, pg.trans p3 (fun q _ e => .inl e), hgrow1, p3⟩

end Go.Proofs.YtcgpgnajmfemhaaGreatDoor

namespace Go.Proofs.YtcgpgnajmfemhaaGreatDoor
open Go.RowKit

theorem cell_in {w : World} {b i : Nat} {v : Value} (h : w.cell? ⟨b, i, none⟩ = some v) : b < w.heap.size := by
  rcases Nat.lt_or_ge b w.heap.size with h1 | h1
  · exact h1
  · have : w.heap[b]? = none := Array.getElem?_eq_none h1
    simp [World.cell?, this] at h
theorem own_some {w : World} {base n : Nat} {v : Value} {xs : List Value} (h : w.ownsRow base 37 1 v (n + 1) xs) : ∃ g c, v = .slice (some ⟨g, 0, none⟩) (n + 1) c := by
  rcases h.2 with h0 | ⟨g, cap, cur, rfl, _⟩
  · have := h0.2
    omega
  · exact ⟨g, cap, rfl⟩
theorem owns_same {w w' : World} {base n s : Nat} {e : TypeId} {v : Value} {xs : List Value} (h : w.ownsRow base e s v n xs) (hs : ∀ b, v.ownBlock = some b → w'.heap[b]? = w.heap[b]?) : w'.ownsRow base e s v n xs := by
  refine ⟨h.1, ?_⟩
  rcases h.2 with h0 | ⟨g', cap, cur, he, hb, hg, rest⟩
  · exact .inl h0
  · refine .inr ⟨g', cap, cur, he, hb, (hs g' (by rw [he]; rfl)).trans hg, rest⟩
theorem HB.part {w w' : World} {p : Option Addr} {n c : Nat} {l : List UInt8} {S : Nat → Prop} (h : HB w (.slice p n c) l) (hp : Part S w w') (hS : ∀ a, p = some a → ¬ S a.block) : HB w' (.slice p n c) l := by
  obtain ⟨p', cap, e, h1, h2, h3, h4⟩ := h
  simp only [Value.slice.injEq] at e
  obtain ⟨rfl, rfl, rfl⟩ := e
  refine ⟨p, c, rfl, h1, h2, h3, fun hn => ?_⟩
  obtain ⟨b, o, e1, e2⟩ := h4 hn
  refine ⟨b, o, e1, fun i x hx => ?_⟩
  have hc := e2 i x hx
  rw [World.cell?_of_block (hp.2 b (cell_in hc) (hS _ e1))]
  exact hc
theorem own_ne {w : World} {base n bd bn bm : Nat} {v : Value} {xs : List Value} {s : DevS} (h : w.ownsRow base 37 1 v n xs) (hd : Dev w bd bn bm s) : ∀ b, v.ownBlock = some b → b ≠ bd ∧ b ≠ bn ∧ b ≠ bm := by
  intro b hb
  rcases h.2 with ⟨rfl, _⟩ | ⟨g, cap, cur, rfl, _, hg, _⟩
  · cases hb
  · obtain rfl : g = b := by simpa [Value.ownBlock] using hb
    have h1 := hd.db
    obtain ⟨cs, h2, _⟩ := hd.sr
    obtain ⟨D, ⟨es, clock, h3, _⟩, _⟩ := hd.dm
    unfold DB at h1
    refine ⟨?_, ?_, ?_⟩ <;> rintro rfl
    · rw [hg] at h1; simp at h1
    · rw [hg] at h2; simp at h2
    · rw [hg] at h3; simp at h3
theorem own_lt {w : World} {base n : Nat} {v : Value} {xs : List Value} (h : w.ownsRow base 37 1 v n xs) : ∀ b, v.ownBlock = some b → b < w.heap.size := by
  intro b hb
  rcases h.2 with ⟨rfl, _⟩ | ⟨g, cap, cur, rfl, _, hg, _⟩
  · cases hb
  · obtain rfl : g = b := by simpa [Value.ownBlock] using hb
    exact (Array.getElem?_eq_some_iff.1 hg).1

set_option maxRecDepth 100000 in
set_option maxHeartbeats 3200000 in
theorem append_ok {g bd bn bm N c k r cr base : Nat} {pr : Option Addr} {s : DevS} {b : List UInt8} {vs : List Value} {p : Option Addr} {cp : Nat} {w : World} (h : LB w g bd (N : Int) (k : Int) (.slice pr r cr) false) (ho : w.ownsRow base 37 1 (.slice pr r cr) r vs) (hbase : base ≤ w.heap.size) (hd : Dev w bd bn bm s) (ha : Alive s N c) (hT : Tabs w) (hlow : 3 ≤ bd ∧ 3 ≤ bn ∧ 3 ≤ bm) (hv : HB w (.slice p b.length cp) b) (hvb : ∀ a, p = some a → a.block ≠ bd ∧ a.block ≠ bn ∧ a.block ≠ bm) (hb0 : 1 ≤ b.length) (hb : b.length ≤ 4000) (hk : k + (tsec b.length + 1) ≤ N) (hN : N ≤ 16384) (hc : c + 1000 ≤ 1099511627776) (hr : r ≤ 1000000) :
    Calls Tryz.prog 47 #[.pointer (some ⟨g, 0, none⟩), .slice p b.length cp] w fun e w' => e = .returned (.int .i64 0) ∧ ∃ p' c', LB w' g bd (N : Int) ((k + (tsec b.length + 1) : Nat) : Int) (.slice p' (r + 1) c') false ∧ Part (fun q => q = bd ∨ q = bn ∨ q = bm ∨ q = g ∨ some q = (Value.slice pr r cr).ownBlock) w w' := by
  obtain ⟨c0, c1, c2, c3, c4⟩ := h.cells
  have hMs := smiss_no g bd w c0
  have hCn := scan_any (b.length : Int) w
  rw [decide_eq_true (by omega)] at hCn
  have hTk := fun W => taken_any b.length (by omega) W
  have hdr : Below w.heap.size w w.drew := (Below.refl _ _).drew
  have hP := put_ok (h.same (hdr.block _ h.lt)) (hd.later hdr) ha (hT.later hdr) hlow (hv.later hdr) hb hk hN hc hr
  have hne := h.ne hd
  have hon := own_ne ho hd
  have hol := own_lt ho
  have hAll : ∀ w1, Part (fun q => q = bd ∨ q = bn ∨ q = bm) w.drew w1 → LB w1 g bd (N : Int) (k : Int) (.slice pr r cr) false ∧ w1.ownsRow base 37 1 (.slice pr r cr) r vs ∧ HB w1 (.slice p b.length cp) b := fun w1 hp => by
    refine ⟨(h.same (hdr.block _ h.lt)).same (hp.2 _ h.lt (by rintro (e | e | e); exact hne.1 e; exact hne.2.1 e; exact hne.2.2 e)), owns_same (owns_later ho hdr) (fun q hq => hp.2 _ (hol q hq) (by rintro (e | e | e); exact (hon q hq).1 e; exact (hon q hq).2.1 e; exact (hon q hq).2.2 e)), (hv.later hdr).part hp (fun a e => by rintro (e' | e' | e'); exact (hvb a e).1 e'; exact (hvb a e).2.1 e'; exact (hvb a e).2.2 e')⟩
  have hTK := fun (W : World) (q : Option Addr) (d : Nat) (l : LB W g bd (N : Int) (k : Int) (.slice pr r cr) false) (o : W.ownsRow base 37 1 (.slice pr r cr) r vs) (hs : w.heap.size ≤ W.heap.size) => take_any (pb := q) (m := b.length) (cb := d) l o (by omega) hr hb (by omega)
  have ht : tsec b.length + 1 ≤ 100 := by unfold tsec; omega
  generalize tsec b.length + 1 = t at *
  have hwn : IntKind.i64.wrap ((N : Int) - (k : Int)) = (N : Int) - (k : Int) := wrapM _ (by omega) (by omega)
  have hroom : ¬ ((t : Int) > (N : Int) - (k : Int)) := by omega
  clear hd hT ho hv
  go_enter Tryz.func47, Tryz.ntmps47
  go_wp2_with (first
    | (go_at_call 81; refine hMs.mono ?_; rintro e w1 ⟨rfl, rfl⟩)
    | (go_at_call 82; refine hCn.mono ?_; rintro e w1 ⟨rfl, rfl⟩))
  go_region_with (go_at_call 83; refine (hTk _).mono ?_; rintro e w3 ⟨rfl, rfl⟩)
  all_goals
    have hs0 : w1.drew.heap.size = w1.heap.size := rfl
    go_wp2_with (first
      | (go_at_call 84; refine hP.mono ?_; rintro e w4 ⟨rfl, s4, bm4, hd4, ha4, hbm4, hp4⟩; obtain ⟨l4, o4, v4⟩ := hAll w4 hp4; have hs4 : w1.heap.size ≤ w4.heap.size := hp4.size; have hCl := clone_own _ b w4 v4 (by omega))
      | (go_at_call 44; refine hCl.mono ?_; rintro e w5 ⟨p5, c5, rfl, o5, hb5⟩; have hT5 := hTK w5 p5 c5 (l4.same (hb5.block _ l4.lt)) (owns_later o4 hb5) (Nat.le_trans hs4 hb5.size))
      | (go_at_call 85; refine hT5.mono ?_; rintro e w6 ⟨rfl, rs6, w7, o7, l6, hp6, hx6, hy6⟩))
    go_ret
    obtain ⟨g7, cap7, rfl⟩ := own_some o7
    refine ⟨rfl, _, _, l6, ?_⟩
    have P1 : Part (fun q => q = bd ∨ q = bn ∨ q = bm ∨ q = g ∨ some q = (Value.slice pr r cr).ownBlock) w1 w4 := (Part.refl _ w1).drew.trans hp4 (by rintro q _ (e | e | e); exact .inl e; exact .inr (.inl e); exact .inr (.inr (.inl e)))
    exact (P1.trans (Part.of_below (S := fun _ => False) hb5) (fun _ _ e => e.elim)).trans hp6 (by rintro q _ (e | e); exact .inr (.inr (.inr (.inl e))); exact .inr (.inr (.inr (.inr e))))

end Go.Proofs.YtcgpgnajmfemhaaGreatDoor
