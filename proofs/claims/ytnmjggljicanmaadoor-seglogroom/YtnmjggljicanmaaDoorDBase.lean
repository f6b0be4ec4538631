/- What this text proves: the walks of a device's missing, has, change, settle, Sync, Fuse, Dead and Changes over this program. -/
import Derived.Test.YtnmjggljicanmaaDoorDVocab
import Derived.BigQuiet
namespace Go.Proofs.YtnmjggljicanmaaDoor
open Go.RowKit Go.Maps

set_option maxRecDepth 100000 in
set_option maxHeartbeats 400000 in
theorem miss_nil (w : World) : Calls Tryd.prog 26 #[.pointer none] w fun e w' => e = .returned (.bool true) ∧ w' = w := by
  go_enter Tryd.func26, Tryd.ntmps26
  go_wp2
  go_ret
  exact ⟨rfl, rfl⟩

/-- A device that no call made. -/
def Raw (w : World) (g : Nat) : Prop := w.cell? ⟨g, 0, none⟩ = some (.slice none 0 0)

set_option maxRecDepth 100000 in
set_option maxHeartbeats 400000 in
theorem miss_raw (g : Nat) (w : World) (h : Raw w g) : Calls Tryd.prog 26 #[.pointer (some ⟨g, 0, none⟩)] w fun e w' => e = .returned (.bool true) ∧ w' = w := by
  have h0 : w.cell? ⟨g, 0, none⟩ = some (.slice none 0 0) := h
  clear h
  go_enter Tryd.func26, Tryd.ntmps26
  go_wp2
  go_ret
  exact ⟨rfl, rfl⟩

set_option maxRecDepth 100000 in
set_option maxHeartbeats 400000 in
theorem miss_no {bd bn bm : Nat} {s : DevS} {w : World} (h : Dev w bd bn bm s) : Calls Tryd.prog 26 #[.pointer (some ⟨bd, 0, none⟩)] w fun e w' => e = .returned (.bool false) ∧ w' = w := by
  obtain ⟨c0, c1, c2, c3, c4⟩ := h.db.cells
  have hp := h.ok.pos
  have hq := h.ok.most
  generalize s.now.length = n at *
  have hn : ¬ (n : Int) = 0 := by omega
  clear h
  go_enter Tryd.func26, Tryd.ntmps26
  go_wp2
  go_ret
  exact ⟨by simp; omega, rfl⟩

set_option maxRecDepth 100000 in
set_option maxHeartbeats 400000 in
theorem has_any {bd bn bm : Nat} {s : DevS} {w : World} (h : Dev w bd bn bm s) (i : Int) : Calls Tryd.prog 31 #[.pointer (some ⟨bd, 0, none⟩), .int .i64 i] w fun e w' => e = .returned (.bool (decide (0 ≤ i ∧ i < (s.now.length : Int)))) ∧ w' = w := by
  obtain ⟨c0, c1, c2, c3, c4⟩ := h.db.cells
  have hq := h.ok.most
  generalize s.now.length = n at *
  clear h
  by_cases h0 : 0 ≤ i
  · go_enter Tryd.func31, Tryd.ntmps31
    go_wp2
    go_ret
    exact ⟨by simp [h0], rfl⟩
  · have h0' : i < 0 := by omega
    go_enter Tryd.func31, Tryd.ntmps31
    go_wp2
    go_ret
    exact ⟨by simp; omega, rfl⟩

theorem wrapM (x : Int) (h0 : -9223372036854775808 ≤ x) (h1 : x ≤ 9223372036854775807) : IntKind.i64.wrap x = x := by
  rw [IntKind.wrap_i64]
  omega

set_option maxRecDepth 100000 in
set_option maxHeartbeats 800000 in
theorem change_any {bd bn bm : Nat} {s : DevS} {w : World} (h : Dev w bd bn bm s) (hc : s.ch + 1 ≤ 1099511627776) : Calls Tryd.prog 45 #[.pointer (some ⟨bd, 0, none⟩)] w fun e w' => e = .returned (.int .i64 s.err) ∧ Dev w' bd bn bm s.counted ∧ Part (fun k => k = bd) w w' := by
  have hok := h.ok.counted hc
  have hne := h.ne
  have hlt := h.dm.lt
  have hdev : ∀ w', DB w' bd bn bm s.counted.now.length s.counted.cap s.counted.fuse s.counted.dead (s.counted.ch : Int) → Part (fun k => k = bd) w w' → Dev w' bd bn bm s.counted := by
    intro w' hd hp
    refine ⟨hok, hd, ?_, ?_⟩
    · rw [counted_now]; exact h.sr.same (hp.2 bn h.sr.lt (fun e => hne.1 e.symm))
    · rw [counted_old]
      obtain ⟨D, h1, h2⟩ := h.dm.same (hp.2 bm h.dm.lt (fun e => hne.2.1 e.symm))
      exact ⟨D, h1.mono (by unfold DevS.counted; split <;> simp), h2⟩
  have hdb := h.db
  obtain ⟨c0, c1, c2, c3, c4⟩ := hdb.cells
  have f2 := hdb.free 2
  have f3 := hdb.free 3
  have f4 := hdb.free 4
  have hF0 := h.ok.fuse0
  have hF1 := h.ok.fuse1
  obtain ⟨now, old, fuse, dead, ch, cap⟩ := s
  simp only at *
  clear h hok hlt
  by_cases hz : fuse = 0
  · subst hz
    have hfin := hdev (w.setCell ⟨bd, 3, none⟩ (.bool true)) (by simpa [DevS.counted, DevS.stops] using hdb.put3 true) ((Part.refl _ w).setCell _ _ rfl)
    have hdb2 := (hdb.put3 true).cells
    clear hdb hdev
    go_enter Tryd.func45, Tryd.ntmps45
    go_wp2
    go_ret
    exact ⟨by simp [DevS.err, DevS.stops], hfin, (Part.refl _ w).setCell _ _ rfl⟩
  · cases dead
    · by_cases hm : fuse = -1
      · subst hm
        have hfin := hdev (w.setCell ⟨bd, 4, none⟩ (.int .i64 ((ch : Int) + 1))) (by simpa [DevS.counted, DevS.stops] using hdb.put4 ((ch : Int) + 1)) ((Part.refl _ w).setCell _ _ rfl)
        have hw : wrap64 ((ch : Int) + 1) = (ch : Int) + 1 := by unfold wrap64; omega
        clear hdb hdev
        go_enter Tryd.func45, Tryd.ntmps45
        go_wp2
        go_ret
        exact ⟨by simp [DevS.err, DevS.stops], hfin, (Part.refl _ w).setCell _ _ rfl⟩
      · have hd2 := (hdb.put2 (fuse - 1))
        have hfin := hdev ((w.setCell ⟨bd, 2, none⟩ (.int .i64 (fuse - 1))).setCell ⟨bd, 4, none⟩ (.int .i64 ((ch : Int) + 1))) (by simpa [DevS.counted, DevS.stops, hz, hm] using hd2.put4 ((ch : Int) + 1)) (((Part.refl (fun k => k = bd) w).setCell _ _ rfl).setCell _ _ rfl)
        have hw : wrap64 ((ch : Int) + 1) = (ch : Int) + 1 := by unfold wrap64; omega
        have hw2 : wrap64 (fuse - 1) = fuse - 1 := by unfold wrap64; omega
        clear hdb hdev hd2
        go_enter Tryd.func45, Tryd.ntmps45
        go_wp2
        go_ret
        exact ⟨by simp [DevS.err, DevS.stops, hz], hfin, ((Part.refl (fun k => k = bd) w).setCell _ _ rfl).setCell _ _ rfl⟩
    · have hfin := hdev w (by simpa [DevS.counted, DevS.stops] using hdb) (Part.refl _ w)
      clear hdb hdev
      go_enter Tryd.func45, Tryd.ntmps45
      go_wp2
      go_ret
      exact ⟨by simp [DevS.err, DevS.stops], hfin, Part.refl _ w⟩

set_option maxRecDepth 100000 in
set_option maxHeartbeats 400000 in
theorem settle_any {bd bn bm : Nat} {s : DevS} {w : World} (h : Dev w bd bn bm s) : Calls Tryd.prog 46 #[.pointer (some ⟨bd, 0, none⟩)] w fun e w' => e = .returned (.tuple #[]) ∧ Dev w' bd bn w.heap.size { s with old := fun _ => none } ∧ Part (fun k => k = bd) w w' := by
  have hne := h.ne
  have hdb := h.db
  have hl := hdb.lt
  have hdb1 := (hdb.put1 w.heap.size)
  have hsr1 := h.sr.same (heap_setCell_other w ⟨bd, 1, none⟩ bn (.map (some w.heap.size)) (fun e => hne.1 e.symm))
  have hp : Part (fun k => k = bd) w ((w.setCell ⟨bd, 1, none⟩ (.map (some w.heap.size))).alloc (.map #[] 0)) := ((Part.refl (fun k => k = bd) w).setCell _ _ rfl).alloc _
  have hdm := DM.made (w.setCell ⟨bd, 1, none⟩ (.map (some w.heap.size))) s.ch
  rw [World.size_setCell] at hdm
  have hfin : Dev ((w.setCell ⟨bd, 1, none⟩ (.map (some w.heap.size))).alloc (.map #[] 0)) bd bn w.heap.size { s with old := fun _ => none } :=
    ⟨⟨h.ok.pos, h.ok.most, h.ok.rows, fun i l e => (by cases e), h.ok.fuse0, h.ok.fuse1, h.ok.chs⟩, hdb1.same (Below.heap_alloc _ _ bd hdb1.lt), hsr1.same (Below.heap_alloc _ _ bn hsr1.lt), hdm⟩
  have c1 := hdb.cells.2.1
  have f1 := hdb.free 1
  have hmm := @run_makeMap Tryd.prog
  clear hdb hdb1 hsr1 h hdm
  go_enter Tryd.func46, Tryd.ntmps46
  go_wp2
  go_end0
  exact ⟨rfl, hfin, hp⟩

set_option maxRecDepth 100000 in
set_option maxHeartbeats 400000 in
theorem sync_any {bd bn bm : Nat} {s : DevS} {w : World} (h : Dev w bd bn bm s) (hc : s.ch + 1 ≤ 1099511627776) : Calls Tryd.prog 35 #[.pointer (some ⟨bd, 0, none⟩)] w fun e w' => e = .returned (.int .i64 s.err) ∧ ∃ bm', Dev w' bd bn bm' s.sync ∧ (bm' = bm ∨ w.heap.size ≤ bm') ∧ Part (fun k => k = bd) w w' := by
  have h1 := miss_no h
  have h2 := change_any h hc
  cases hs : s.stops
  · have he : s.err = 0 := by simp [DevS.err, hs]
    rw [he] at h2 ⊢
    have hsy : s.sync = { s.counted with old := fun _ => none } := by simp [DevS.sync, hs]
    rw [hsy]
    clear h
    go_enter Tryd.func35, Tryd.ntmps35
    go_wp2_with (first
      | (go_at_call 26; refine h1.mono ?_; rintro e w1 ⟨rfl, rfl⟩)
      | (go_at_call 45; refine h2.mono ?_; rintro e w2 ⟨rfl, hd2, hp2⟩; have hx := settle_any hd2)
      | (go_at_call 46; refine hx.mono ?_; rintro e w3 ⟨rfl, hd3, hp3⟩))
    go_ret
    exact ⟨rfl, _, hd3, .inr hp2.size, hp2.trans hp3 (fun k _ e => e)⟩
  · have he : s.err = 70 := by simp [DevS.err, hs]
    rw [he] at h2 ⊢
    have hsy : s.sync = s.counted := by simp [DevS.sync, hs]
    rw [hsy]
    clear h
    go_enter Tryd.func35, Tryd.ntmps35
    go_wp2_with (first
      | (go_at_call 26; refine h1.mono ?_; rintro e w1 ⟨rfl, rfl⟩)
      | (go_at_call 45; refine h2.mono ?_; rintro e w2 ⟨rfl, hd2, hp2⟩))
    go_ret
    exact ⟨rfl, _, hd2, .inl rfl, hp2⟩

end Go.Proofs.YtnmjggljicanmaaDoor
