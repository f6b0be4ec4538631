/- What this text proves: the walk of seglog's write over this program, on a device that has no fuse and lives. -/
import Derived.Test.YtnmjggljicanmaaDoorSgMarkOf
import Derived.Test.YtnmjggljicanmaaDoorDWriteN
namespace Go.Proofs.YtnmjggljicanmaaDoor
open Go.RowKit

/-- A device that has no fuse and lives. -/
def Alive (s : DevS) (N c : Nat) : Prop := s.dead = false ∧ s.fuse = -1 ∧ s.now.length = N ∧ s.ch ≤ c

theorem Alive.err {s : DevS} {N c : Nat} (h : Alive s N c) : s.err = 0 := by simp [DevS.err, DevS.stops, h.1, h.2.1]
theorem Alive.counted {s : DevS} {N c : Nat} (h : Alive s N c) : Alive s.counted N (c + 1) := by
  have e : s.stops = false := by simp [DevS.stops, h.1, h.2.1]
  have := h.2.2.2
  refine ⟨?_, ?_, by rw [counted_now]; exact h.2.2.1, Nat.le_trans (counted_ch s) (by omega)⟩
  · simp [DevS.counted, e, h.1]
  · simp [DevS.counted, e, h.2.1]
theorem Alive.write {s : DevS} {N c : Nat} (h : Alive s N c) (i : Nat) (l : List UInt8) : Alive (s.write i l) N (c + 1) := by
  have e : s.stops = false := by simp [DevS.stops, h.1, h.2.1]
  obtain ⟨h1, h2, h3, h4⟩ := h.counted
  unfold DevS.write
  rw [if_neg (by simp [e])]
  exact ⟨h1, h2, by simpa using h.2.2.1, h4⟩
theorem Alive.sync {s : DevS} {N c : Nat} (h : Alive s N c) : Alive s.sync N (c + 1) := by
  have e : s.stops = false := by simp [DevS.stops, h.1, h.2.1]
  obtain ⟨h1, h2, h3, h4⟩ := h.counted
  unfold DevS.sync
  rw [if_neg (by simp [e])]
  exact ⟨h1, h2, h3, h4⟩

theorem TX.ne {w : World} {gT bd bn bm : Nat} {T : List UInt8} {s : DevS} (h : TX w gT T) (hd : Dev w bd bn bm s) : gT ≠ bd ∧ gT ≠ bn ∧ gT ≠ bm := by
  have h1 := hd.db
  obtain ⟨cs, h2, _⟩ := hd.sr
  obtain ⟨D, ⟨es, clock, h3, _⟩, _⟩ := hd.dm
  unfold DB at h1
  unfold TX at h
  refine ⟨?_, ?_, ?_⟩ <;> rintro rfl
  · rw [h] at h1; simp at h1
  · rw [h] at h2; simp at h2
  · rw [h] at h3; simp at h3
theorem LB.ne {w : World} {g bd' bd bn bm : Nat} {n k : Int} {rs : Value} {st : Bool} {s : DevS} (h : LB w g bd' n k rs st) (hd : Dev w bd bn bm s) : g ≠ bd ∧ g ≠ bn ∧ g ≠ bm := by
  have h1 := hd.db
  obtain ⟨cs, h2, _⟩ := hd.sr
  obtain ⟨D, ⟨es, clock, h3, _⟩, _⟩ := hd.dm
  unfold DB at h1
  unfold LB at h
  refine ⟨?_, ?_, ?_⟩ <;> rintro rfl
  · rw [h] at h1; simp at h1
  · rw [h] at h2; simp at h2
  · rw [h] at h3; simp at h3

set_option maxRecDepth 100000 in
set_option maxHeartbeats 3200000 in
theorem swrite_ok {g bd bn bm gT N c m i : Nat} {n k : Int} {rs : Value} {st : Bool} {s : DevS} {T : List UInt8} {w : World} (h : LB w g bd n k rs st) (hd : Dev w bd bn bm s) (ha : Alive s N c) (hT : TX w gT T) (hTl : T.length = m * 64) (him : i + m ≤ N) (hN : N ≤ 16384) (hc : c + m + 1 ≤ 1099511627776) :
    Calls Tryd.prog 38 #[.pointer (some ⟨g, 0, none⟩), .int .i64 (i : Int), .slice (some ⟨gT, 0, none⟩) (m * 64) (m * 64)] w fun e w' => e = .returned (.int .i64 0) ∧ ∃ s' bm', Dev w' bd bn bm' s' ∧ Alive s' N (c + m + 1) ∧ (bm' = bm ∨ w.heap.size ≤ bm') ∧ Part (fun q => q = bd ∨ q = bn ∨ q = bm) w w' := by
  have hdiv : ((m * 64 : Nat) : Int).tdiv 64 = (m : Int) := by simp
  have hne := hT.ne hd
  have hnl := h.ne hd
  have hwm : IntKind.i64.wrap (m : Int) = (m : Int) := wrapM _ (by omega) (by omega)
  generalize hM : m * 64 = M at *
  go_enter Tryd.func38, Tryd.ntmps38
  go_wp2
  go_loopw [12] (fun x wr => ∃ (j : Nat) (s' : DevS), j ≤ m ∧ x = .int .i64 (j : Int) ∧ Dev wr bd bn bm s' ∧ Alive s' N (c + j) ∧ Part (fun q => q = bd ∨ q = bn ∨ q = bm) w wr) (fun x _ => m - (RowKit.intOf x).toNat)
  case atStart => exact ⟨0, s, Nat.zero_le _, rfl, hd, ha, Part.refl _ _⟩
  case round =>
    obtain ⟨j, s', hj, rfl, hdj, haj, hpj⟩ := hrel
    have hLj : LB wr g bd n k rs st := h.same (hpj.2 _ h.lt (by rintro (e | e | e); exact hnl.1 e; exact hnl.2.1 e; exact hnl.2.2 e))
    have c0 := hLj.cells.1
    by_cases hlt : j < m
    · have hlt2 : (j : Int) < (m : Int) := by omega
      have hTj : TX wr gT T := (hpj.2 _ (Array.getElem?_eq_some_iff.1 hT).1 (by rintro (e | e | e); exact hne.1 e; exact hne.2.1 e; exact hne.2.2 e)).trans hT
      have hH := (hTj.hb hTl (by unfold maxLen; omega)).cut (j * 64) ((j + 1) * 64) M (by omega) (by omega) (by omega) (Nat.le_refl _)
      have eC : cutP (some ⟨gT, 0, none⟩) M (j * 64) = some ⟨gT, j * 64, none⟩ := by
        unfold cutP
        rw [if_neg (by omega)]
        simp [Addr.add_lit]
      have e64 : (j + 1) * 64 - j * 64 = 64 := by omega
      have k1 : ∀ W, (Instr.slice 31 (.slice (some ⟨gT, 0, none⟩) M M) (some (.int .i64 ((j : Int) * 64))) (some (.int .i64 (((j : Int) + 1) * 64))) none).run Tryd.prog W = .ok (.slice (some ⟨gT, j * 64, none⟩) 64 (M - j * 64)) W := fun W => by
        rw [run_cut2 (P := Tryd.prog) Tryd.underlying31 s_u8 (some ⟨gT, 0, none⟩) M M (j * 64) ((j + 1) * 64) ((j : Int) * 64) (((j : Int) + 1) * 64) (by omega) (by omega) (by omega) (by omega) W, eC, e64]
      rw [eC, e64] at hH
      have hbd : Below wr.heap.size wr wr.drew := (Below.refl _ _).drew
      have hLl : ((T.drop (j * 64)).take 64).length = 64 := by rw [List.length_take, List.length_drop]; omega
      have hW := write_any (hdj.later hbd) (i + j) _ _ (hH.later hbd) (by rw [haj.2.2.1]; omega) hLl (by have := haj.2.2.2; omega) (by rintro a n c e; cases e; exact ⟨hne.1, hne.2.1⟩)
      rw [haj.err, show (((i + j : Nat) : Nat) : Int) = (i : Int) + (j : Int) by omega] at hW
      have hA2 : Alive (s'.write (i + j) ((T.drop (j * 64)).take 64)) N (c + (j + 1)) := haj.write _ _
      generalize s'.write (i + j) ((T.drop (j * 64)).take 64) = s2 at *
      have hp2 : Part (fun q => q = bd ∨ q = bn ∨ q = bm) w wr.drew := hpj.drew
      have hw1 : IntKind.i64.wrap ((j : Int) * 64) = (j : Int) * 64 := wrapM _ (by omega) (by omega)
      have hw2 : IntKind.i64.wrap ((j : Int) + 1) = (j : Int) + 1 := wrapM _ (by omega) (by omega)
      have hw3 : IntKind.i64.wrap (((j : Int) + 1) * 64) = ((j : Int) + 1) * 64 := wrapM _ (by omega) (by omega)
      have hw4 : IntKind.i64.wrap ((i : Int) + (j : Int)) = (i : Int) + (j : Int) := wrapM _ (by omega) (by omega)
      have b1 : (i : Int) ≤ 16384 := by omega
      have b2 : (j : Int) ≤ 16384 := by omega
      clear hH hTj hdj hLj hbd eC e64 hpj haj hLl hne hnl h hT
      go_wp2
      go_region_with (go_at_call 34; refine hW.mono ?_; rintro e w4 ⟨rfl, hd4, hp4⟩)
      all_goals
        go_wp2
        go_roundw
        case rel => first | exact ⟨j + 1, s2, by omega, by go_num, hd4, hA2, hp2.trans hp4 (fun _ _ e => e)⟩ | ((repeat apply Exists.intro); exact ⟨⟨j + 1, s2, by omega, by go_num, hd4, hA2, hp2.trans hp4 (fun _ _ e => e)⟩, rfl⟩)
        case measure => simp [RowKit.intOf]; omega
    · obtain rfl : j = m := by omega
      have hS := sync_any hdj (by have := haj.2.2.2; omega)
      rw [haj.err] at hS
      go_wp2_with (go_at_call 35; refine hS.mono ?_; rintro e w5 ⟨rfl, bm', hd5, hbm5, hp5⟩)
      go_ret
      refine ⟨rfl, _, bm', hd5, haj.sync, ?_, hpj.trans hp5 (fun q _ e => .inl e)⟩
      rcases hbm5 with e | e
      · exact .inl e
      · exact .inr (Nat.le_trans hpj.size e)

end Go.Proofs.YtnmjggljicanmaaDoor
