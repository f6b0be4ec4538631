/- What this text proves: the walks of the document's device over this program: burn, Fuse, Write, Sync. -/
import Derived.Test.YtmikhebbcmniaaaXDVocab
import Derived.Test.YtmikhebbcmniaaaStepApp
namespace Go.Proofs.Ytmikhebbcmniaaa
open Go.RowKit

theorem xw_eq {s : DevS} (hs : s.stops = false) (i : Nat) (l : List UInt8) : s.write i l = { s.counted with old := oldW s i, now := s.now.set i l } := by
  unfold DevS.write
  rw [hs]
  rfl
theorem xs_eq {s : DevS} (hs : s.stops = false) : s.sync = { s.counted with old := fun _ => none } := by
  unfold DevS.sync
  rw [hs]
  rfl
theorem xw_now {s : DevS} (hs : s.stops = false) (i : Nat) (l : List UInt8) : (s.write i l).now = s.now.set i l := by rw [xw_eq hs]

theorem counted_nowF (s : DevS) : nowF s.counted = nowF s := by unfold nowF; rw [counted_now]
theorem counted_keptF (s : DevS) : keptF s.counted = keptF s := by unfold keptF; rw [counted_now, counted_old]
theorem counted_waitF (s : DevS) : waitF s.counted = waitF s := by unfold waitF; rw [counted_old]

set_option maxHeartbeats 800000 in
theorem rburn_any {w : World} {bx bl bk bw cl ck cw : Nat} {s : DevS} (h : XDev w bx bl bk bw cl ck cw s) (hc : s.ch + 1 ≤ 1099511627776) :
    Calls Try.prog 52 #[.pointer (some ⟨bx, 0, none⟩)] w fun e w' => e = .returned (.int .i64 s.err) ∧ XDev w' bx bl bk bw cl ck cw s.counted ∧ Part (fun k => k = bx) w w' := by
  have hok := h.ok.counted hc
  have hg := h.g
  have hdev : ∀ w' f d c, XG w' bx bl bk bw cl ck cw s.now.length (nowF s) (keptF s) (waitF s) f d c → f = s.counted.fuse → d = s.counted.dead → c = (s.counted.ch : Int) → XDev w' bx bl bk bw cl ck cw s.counted := by
    intro w' f d c hx e1 e2 e3
    refine ⟨hok, ?_⟩
    rw [counted_now, counted_nowF, counted_keptF, counted_waitF, ← e1, ← e2, ← e3]
    exact hx
  obtain ⟨c0, c1, c2, c3, c4, c5⟩ := hg.db.cells
  have f3 := hg.db.free 3
  have f4 := hg.db.free 4
  have f5 := hg.db.free 5
  have hF0 := h.ok.fuse0
  have hF1 := h.ok.fuse1
  obtain ⟨now, old, fuse, dead, ch, cap⟩ := s
  simp only at *
  clear h hok
  cases dead
  · by_cases hz : fuse = 0
    · subst hz
      have hfin := hdev _ _ _ _ (hg.put4 true) (by simp [DevS.counted, DevS.stops]) (by simp [DevS.counted, DevS.stops]) (by simp [DevS.counted, DevS.stops])
      clear hdev hg
      go_enter Try.func52, Try.ntmps52
      go_wp2
      go_ret
      exact ⟨by simp [DevS.err, DevS.stops], hfin, (Part.refl _ w).setCell _ _ rfl⟩
    · by_cases hm : fuse = -1
      · subst hm
        have hfin := hdev _ _ _ _ (hg.put5 ((ch : Int) + 1)) (by simp [DevS.counted, DevS.stops]) (by simp [DevS.counted, DevS.stops]) (by simp [DevS.counted, DevS.stops])
        have hw : wrap64 ((ch : Int) + 1) = (ch : Int) + 1 := by unfold wrap64; omega
        clear hdev hg
        go_enter Try.func52, Try.ntmps52
        go_wp2
        go_ret
        exact ⟨by simp [DevS.err, DevS.stops], hfin, (Part.refl _ w).setCell _ _ rfl⟩
      · have hfin := hdev _ _ _ _ ((hg.put3 (fuse - 1)).put5 ((ch : Int) + 1)) (by simp [DevS.counted, DevS.stops, hz, hm]) (by simp [DevS.counted, DevS.stops, hz]) (by simp [DevS.counted, DevS.stops, hz])
        have hpos : 0 < fuse := by omega
        have hw : wrap64 ((ch : Int) + 1) = (ch : Int) + 1 := by unfold wrap64; omega
        have hw2 : wrap64 (fuse - 1) = fuse - 1 := by unfold wrap64; omega
        clear hdev hg
        go_enter Try.func52, Try.ntmps52
        go_wp2
        go_ret
        exact ⟨by simp [DevS.err, DevS.stops, hz], hfin, ((Part.refl (fun k => k = bx) w).setCell _ _ rfl).setCell _ _ rfl⟩
  · have hfin := hdev _ _ _ _ (hg.put4 true) (by simp [DevS.counted, DevS.stops]) (by simp [DevS.counted, DevS.stops]) (by simp [DevS.counted, DevS.stops])
    clear hdev hg
    go_enter Try.func52, Try.ntmps52
    go_wp2
    go_ret
    exact ⟨by simp [DevS.err, DevS.stops], hfin, (Part.refl _ w).setCell _ _ rfl⟩

set_option maxHeartbeats 400000 in
theorem rfuse_neg {bx : Nat} (w : World) (n : Int) (hn : n < 0) : Calls Try.prog 39 #[.pointer (some ⟨bx, 0, none⟩), .int .i64 n] w fun e w' => e = .returned (.int .i64 1) ∧ w' = w := by
  go_enter Try.func39, Try.ntmps39
  go_wp2
  go_ret
  exact ⟨rfl, rfl⟩

set_option maxHeartbeats 400000 in
theorem rfuse_any {w : World} {bx bl bk bw cl ck cw : Nat} {s : DevS} (h : XDev w bx bl bk bw cl ck cw s) (n : Int) (hn : 0 ≤ n) (hm : n ≤ 9223372036854775807) :
    Calls Try.prog 39 #[.pointer (some ⟨bx, 0, none⟩), .int .i64 n] w fun e w' => e = .returned (.int .i64 0) ∧ XDev w' bx bl bk bw cl ck cw (s.fused n) ∧ Part (fun k => k = bx) w w' := by
  have hfin : XDev (w.setCell ⟨bx, 3, none⟩ (.int .i64 n)) bx bl bk bw cl ck cw (s.fused n) := ⟨h.ok.fused n hn hm, h.g.put3 n⟩
  have c3 := h.g.db.cells.2.2.2.1
  have f3 := h.g.db.free 3
  clear h
  go_enter Try.func39, Try.ntmps39
  go_wp2
  go_ret
  exact ⟨rfl, hfin, (Part.refl _ _).setCell _ _ rfl⟩

set_option maxHeartbeats 400000 in
theorem rwrite_arg {w : World} {bx bl bk bw cl ck cw : Nat} {s : DevS} (h : XDev w bx bl bk bw cl ck cw s) (i : Int) (p : Option Addr) (m c : Nat) (hbad : ¬ (0 ≤ i ∧ i < (s.now.length : Int)) ∨ m ≠ 64) :
    Calls Try.prog 37 #[.pointer (some ⟨bx, 0, none⟩), .int .i64 i, .slice p m c] w fun e w' => e = .returned (.int .i64 1) ∧ w' = w := by
  have c0 := h.g.db.cells.1
  have hq := h.ok.most
  generalize s.now.length = n at *
  clear h
  by_cases h0 : i < 0
  · go_enter Try.func37, Try.ntmps37
    go_wp2
    go_ret
    exact ⟨rfl, rfl⟩
  · by_cases h1 : (n : Int) ≤ i
    · go_enter Try.func37, Try.ntmps37
      go_wp2
      go_ret
      exact ⟨rfl, rfl⟩
    · have h2 : ¬ (m : Int) = 64 := by omega
      have h3 : i < (n : Int) := by omega
      clear hbad
      go_enter Try.func37, Try.ntmps37
      go_wp2
      go_ret
      exact ⟨rfl, rfl⟩

theorem write_x {s : DevS} (hs : s.stops = false) (i : Nat) (l : List UInt8) (hi : i < s.now.length) {w : World} {bx bl bk bw cl ck cw : Nat} (hok : (s.write i l).Ok)
    (h : XG w bx bl bk bw cl ck cw s.now.length (fun j => if j = i then l else nowF s j) (keptF s) (fun j => if j = i then true else waitF s j) s.counted.fuse s.counted.dead (s.counted.ch : Int)) : XDev w bx bl bk bw cl ck cw (s.write i l) := by
  refine ⟨hok, ?_⟩
  have e0 : (s.write i l).now.length = s.now.length := by rw [xw_now hs, List.length_set]
  rw [e0]
  have e1 : (s.write i l).fuse = s.counted.fuse := by rw [xw_eq hs]
  have e2 : (s.write i l).dead = s.counted.dead := by rw [xw_eq hs]
  have e3 : (s.write i l).ch = s.counted.ch := by rw [xw_eq hs]
  rw [e1, e2, e3]
  refine h.congr (fun j hj => ?_) (fun j hj => ?_) (fun j hj => ?_)
  · unfold nowF
    rw [xw_now hs, List.getD_eq_getElem?_getD, List.getD_eq_getElem?_getD, List.getElem?_set]
    by_cases hji : j = i
    · subst hji; simp [hi]
    · rw [if_neg hji, if_neg (fun e => hji e.symm)]
  · unfold keptF
    rw [write_old s i l hs, xw_now hs]
    unfold oldW
    by_cases hji : j = i
    · subst hji
      rw [if_pos rfl]
      cases hso : s.old j with
      | some m => rfl
      | none =>
        simp only [Option.getD_none]
        rw [List.getElem?_eq_getElem hi, List.getD_eq_getElem?_getD, List.getElem?_eq_getElem hi]
        rfl
    · rw [if_neg hji]
      cases s.old j with
      | some m => rfl
      | none =>
        simp only [Option.getD_none]
        rw [List.getD_eq_getElem?_getD, List.getD_eq_getElem?_getD, List.getElem?_set_ne (fun e => hji e.symm)]
  · unfold waitF
    rw [write_old s i l hs]
    unfold oldW
    by_cases hji : j = i
    · subst hji
      rw [if_pos rfl, if_pos rfl]
      cases s.old j with
      | some m => rfl
      | none => rw [List.getElem?_eq_getElem hi]; rfl
    · rw [if_neg hji, if_neg hji]

end Go.Proofs.Ytmikhebbcmniaaa
