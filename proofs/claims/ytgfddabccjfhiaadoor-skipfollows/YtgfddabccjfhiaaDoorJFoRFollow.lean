/- What this text proves: the walk of the document's Follow (annalsref14) over this program: the record at a way's end, if all on the way are linked. (By program: held.py, mkrfollow.py.) -/
import Derived.Test.YtgfddabccjfhiaaDoorJFoFollow
import Derived.Test.YtgfddabccjfhiaaDoorJFoRLinked
namespace Go.Proofs.YtgfddabccjfhiaaDoor
open Go.RowKit

set_option maxRecDepth 100000 in
set_option maxHeartbeats 8000000 in
theorem rfollow_any (size : Int) (hd : Rc) (tv lv kv vv : Value) (way : List Rc) (to : Int) (w : World) (h1 : HB w tv hd.tr) (h2 : HB w lv hd.li) (h3 : PA w kv hd.lk) (hW : RA w vv way) :
    Calls Tryd.prog 35 #[.int .i64 size, .agg #[.int .i64 hd.e, .int .i64 hd.t, tv, .int .i64 hd.c, lv, kv], vv, .int .i64 to] w (FolSaid (folR size hd way to) w) := by
  obtain ⟨htp, htc, rfl⟩ := h1.shape
  obtain ⟨hlp, hlc, rfl⟩ := h2.shape
  obtain ⟨hkp, hkc, rfl⟩ := h3.shape
  obtain ⟨vp, vc, rfl⟩ := hW.shape
  have hWl := hW.len
  unfold maxLen at hWl
  have bA := (Below.refl w.heap.size w).alloc (Nat.le_refl _) (.cells #[.int .i64 hd.e, .int .i64 hd.t, .slice htp hd.tr.length htc, .int .i64 hd.c, .slice hlp hd.li.length hlc, .slice hkp hd.lk.length hkc] 25)
  have gA := heap_alloc_new w (.cells #[.int .i64 hd.e, .int .i64 hd.t, .slice htp hd.tr.length htc, .int .i64 hd.c, .slice hlp hd.li.length hlc, .slice hkp hd.lk.length hkc] 25)
  have sA : (w.alloc (.cells #[.int .i64 hd.e, .int .i64 hd.t, .slice htp hd.tr.length htc, .int .i64 hd.c, .slice hlp hd.li.length hlc, .slice hkp hd.lk.length hkc] 25)).heap.size = w.heap.size + 1 := by simp
  have bB := (Below.refl (w.heap.size + 1) (w.alloc (.cells #[.int .i64 hd.e, .int .i64 hd.t, .slice htp hd.tr.length htc, .int .i64 hd.c, .slice hlp hd.li.length hlc, .slice hkp hd.lk.length hkc] 25))).alloc (by simp) (.cells #[.int .i64 0, .int .i64 0, .slice none 0 0, .int .i64 0, .slice none 0 0, .slice none 0 0] 25)
  have gB := heap_alloc_new (w.alloc (.cells #[.int .i64 hd.e, .int .i64 hd.t, .slice htp hd.tr.length htc, .int .i64 hd.c, .slice hlp hd.li.length hlc, .slice hkp hd.lk.length hkc] 25)) (.cells #[.int .i64 0, .int .i64 0, .slice none 0 0, .int .i64 0, .slice none 0 0, .slice none 0 0] 25)
  rw [sA] at gB
  have gC := (bB.block w.heap.size (by omega)).trans gA
  obtain ⟨X, hX⟩ : ∃ X, X = (w.alloc (.cells #[.int .i64 hd.e, .int .i64 hd.t, .slice htp hd.tr.length htc, .int .i64 hd.c, .slice hlp hd.li.length hlc, .slice hkp hd.lk.length hkc] 25)).alloc (.cells #[.int .i64 0, .int .i64 0, .slice none 0 0, .int .i64 0, .slice none 0 0, .slice none 0 0] 25) := ⟨_, rfl⟩
  rw [← hX] at bB gB gC
  have bX := bA.trans (bB.mono (by omega))
  have g0 : w.heap.size < X.heap.size := (Array.getElem?_eq_some_iff.1 gC).1
  have g1 : w.heap.size + 1 < X.heap.size := (Array.getElem?_eq_some_iff.1 gB).1
  have y0 : X.cell? ⟨w.heap.size, 0, none⟩ = some (.int .i64 hd.e) := by rw [cell_of_row _ _ _ _ _ _ gC]; rfl
  have y1 : X.cell? ⟨w.heap.size, 1, none⟩ = some (.int .i64 hd.t) := by rw [cell_of_row _ _ _ _ _ _ gC]; rfl
  have y2 : X.cell? ⟨w.heap.size, 2, none⟩ = some (.slice htp hd.tr.length htc) := by rw [cell_of_row _ _ _ _ _ _ gC]; rfl
  have y3 : X.cell? ⟨w.heap.size, 3, none⟩ = some (.int .i64 hd.c) := by rw [cell_of_row _ _ _ _ _ _ gC]; rfl
  have y4 : X.cell? ⟨w.heap.size, 4, none⟩ = some (.slice hlp hd.li.length hlc) := by rw [cell_of_row _ _ _ _ _ _ gC]; rfl
  have y5 : X.cell? ⟨w.heap.size, 5, none⟩ = some (.slice hkp hd.lk.length hkc) := by rw [cell_of_row _ _ _ _ _ _ gC]; rfl
  have hCan : Calls Tryd.prog 18 #[.int .i64 size, .agg #[.int .i64 hd.e, .int .i64 hd.t, .slice htp hd.tr.length htc, .int .i64 hd.c, .slice hlp hd.li.length hlc, .slice hkp hd.lk.length hkc]] X fun x w' => x = .returned (.bool (canB size hd)) ∧ Below X.heap.size X w' := rcan_any size hd.e hd.t hd.c _ _ _ hd.tr hd.li hd.lk X (h1.later bX) (h2.later bX) (h3.later bX)
  have HF0 : Hid (canB size hd = false → folR size hd way to = none) := fun h => if_neg (fun q => by rw [h] at q; cases q.1)
  have HF1 : Hid (to < 0 → folR size hd way to = none) := fun h => if_neg (fun q => by omega)
  have HF2 : Hid (hd.e < to → folR size hd way to = none) := fun h => if_neg (fun q => by omega)
  have HF3 : Hid (canB size hd = true → 0 ≤ to → to ≤ hd.e → folR size hd way to = folP size hd way (wayI hd.e to)) := fun h1 h2 h3 => if_pos ⟨h1, h2, h3⟩
  generalize folR size hd way to = R at *
  obtain ⟨CB, hCB⟩ : ∃ CB, CB = canB size hd := ⟨_, rfl⟩
  have HCB : Hid (canB size hd = CB) := hCB.symm
  rw [← hCB] at hCan
  clear hCB bA gA sA bB
  go_enter Tryd.func35, Tryd.ntmps35
  go_wp2_with fail
  rw [← hX]
  refine hCan.mono ?_
  rintro x w2 ⟨rfl, b2⟩
  have G2 := (b2.block _ g0).trans gC
  have Z2 := (b2.block _ g1).trans gB
  have bw2 := bX.trans (b2.mono bX.size)
  have l2 : w.heap.size + 1 < w2.heap.size := (Array.getElem?_eq_some_iff.1 Z2).1
  have y0 : w2.cell? ⟨w.heap.size, 0, none⟩ = some (.int .i64 hd.e) := by rw [cell_of_row _ _ _ _ _ _ G2]; rfl
  clear hCan hX gB gC b2 bX g0 g1 y1 y2 y3 y4 y5
  cases CB with
  | false =>
    have HR : Hid (R = none) := HF0.out HCB.out
    clear HF0 HF1 HF2 HF3
    have x0 : w2.cell? ⟨w.heap.size + 1, 0, none⟩ = some (.int .i64 0) := by rw [cell_of_row _ _ _ _ _ _ Z2]; rfl
    have x1 : w2.cell? ⟨w.heap.size + 1, 1, none⟩ = some (.int .i64 0) := by rw [cell_of_row _ _ _ _ _ _ Z2]; rfl
    have x2 : w2.cell? ⟨w.heap.size + 1, 2, none⟩ = some (.slice none 0 0) := by rw [cell_of_row _ _ _ _ _ _ Z2]; rfl
    have x3 : w2.cell? ⟨w.heap.size + 1, 3, none⟩ = some (.int .i64 0) := by rw [cell_of_row _ _ _ _ _ _ Z2]; rfl
    have x4 : w2.cell? ⟨w.heap.size + 1, 4, none⟩ = some (.slice none 0 0) := by rw [cell_of_row _ _ _ _ _ _ Z2]; rfl
    have x5 : w2.cell? ⟨w.heap.size + 1, 5, none⟩ = some (.slice none 0 0) := by rw [cell_of_row _ _ _ _ _ _ Z2]; rfl
    have f0 : w2.frozen? ⟨w.heap.size + 1, 0, none⟩ = false := frz_of Z2
    have f1 : w2.frozen? ⟨w.heap.size + 1, 1, none⟩ = false := frz_of Z2
    have f2 : w2.frozen? ⟨w.heap.size + 1, 2, none⟩ = false := frz_of Z2
    have f3 : w2.frozen? ⟨w.heap.size + 1, 3, none⟩ = false := frz_of Z2
    have f4 : w2.frozen? ⟨w.heap.size + 1, 4, none⟩ = false := frz_of Z2
    have f5 : w2.frozen? ⟨w.heap.size + 1, 5, none⟩ = false := frz_of Z2
    have hon : Only (w.heap.size + 1) w2 (((((((w2).setCell ⟨w.heap.size + 1, 0, none⟩ (.int .i64 0)).setCell ⟨w.heap.size + 1, 1, none⟩ (.int .i64 0)).setCell ⟨w.heap.size + 1, 2, none⟩ (.slice none 0 0)).setCell ⟨w.heap.size + 1, 3, none⟩ (.int .i64 0)).setCell ⟨w.heap.size + 1, 4, none⟩ (.slice none 0 0)).setCell ⟨w.heap.size + 1, 5, none⟩ (.slice none 0 0)) := ((((((Only.refl _ _).setCell 0 _).setCell 1 _).setCell 2 _).setCell 3 _).setCell 4 _).setCell 5 _
    have bf : Below w.heap.size w (((((((w2).setCell ⟨w.heap.size + 1, 0, none⟩ (.int .i64 0)).setCell ⟨w.heap.size + 1, 1, none⟩ (.int .i64 0)).setCell ⟨w.heap.size + 1, 2, none⟩ (.slice none 0 0)).setCell ⟨w.heap.size + 1, 3, none⟩ (.int .i64 0)).setCell ⟨w.heap.size + 1, 4, none⟩ (.slice none 0 0)).setCell ⟨w.heap.size + 1, 5, none⟩ (.slice none 0 0)) := bw2.trans (hon.below (by omega))
    clear hon bw2 Z2 G2
    go_wp2
    refine bodyPost_ret (v := .tuple #[.agg #[.int .i64 0, .int .i64 0, .slice none 0 0, .int .i64 0, .slice none 0 0, .slice none 0 0], .bool false]) ?_ rfl ?_
    · simp only [results, Tryd.results35]
      go_simp
    · exact ⟨fun _ => rfl, fun r h => (by rw [HR.out] at h; cases h), bf⟩
  | true =>
    by_cases ht0 : to < 0
    · have HR : Hid (R = none) := HF1.out ht0
      clear HF0 HF1 HF2 HF3
      have x0 : w2.cell? ⟨w.heap.size + 1, 0, none⟩ = some (.int .i64 0) := by rw [cell_of_row _ _ _ _ _ _ Z2]; rfl
      have x1 : w2.cell? ⟨w.heap.size + 1, 1, none⟩ = some (.int .i64 0) := by rw [cell_of_row _ _ _ _ _ _ Z2]; rfl
      have x2 : w2.cell? ⟨w.heap.size + 1, 2, none⟩ = some (.slice none 0 0) := by rw [cell_of_row _ _ _ _ _ _ Z2]; rfl
      have x3 : w2.cell? ⟨w.heap.size + 1, 3, none⟩ = some (.int .i64 0) := by rw [cell_of_row _ _ _ _ _ _ Z2]; rfl
      have x4 : w2.cell? ⟨w.heap.size + 1, 4, none⟩ = some (.slice none 0 0) := by rw [cell_of_row _ _ _ _ _ _ Z2]; rfl
      have x5 : w2.cell? ⟨w.heap.size + 1, 5, none⟩ = some (.slice none 0 0) := by rw [cell_of_row _ _ _ _ _ _ Z2]; rfl
      have f0 : w2.frozen? ⟨w.heap.size + 1, 0, none⟩ = false := frz_of Z2
      have f1 : w2.frozen? ⟨w.heap.size + 1, 1, none⟩ = false := frz_of Z2
      have f2 : w2.frozen? ⟨w.heap.size + 1, 2, none⟩ = false := frz_of Z2
      have f3 : w2.frozen? ⟨w.heap.size + 1, 3, none⟩ = false := frz_of Z2
      have f4 : w2.frozen? ⟨w.heap.size + 1, 4, none⟩ = false := frz_of Z2
      have f5 : w2.frozen? ⟨w.heap.size + 1, 5, none⟩ = false := frz_of Z2
      have hon : Only (w.heap.size + 1) w2 (((((((w2).setCell ⟨w.heap.size + 1, 0, none⟩ (.int .i64 0)).setCell ⟨w.heap.size + 1, 1, none⟩ (.int .i64 0)).setCell ⟨w.heap.size + 1, 2, none⟩ (.slice none 0 0)).setCell ⟨w.heap.size + 1, 3, none⟩ (.int .i64 0)).setCell ⟨w.heap.size + 1, 4, none⟩ (.slice none 0 0)).setCell ⟨w.heap.size + 1, 5, none⟩ (.slice none 0 0)) := ((((((Only.refl _ _).setCell 0 _).setCell 1 _).setCell 2 _).setCell 3 _).setCell 4 _).setCell 5 _
      have bf : Below w.heap.size w (((((((w2).setCell ⟨w.heap.size + 1, 0, none⟩ (.int .i64 0)).setCell ⟨w.heap.size + 1, 1, none⟩ (.int .i64 0)).setCell ⟨w.heap.size + 1, 2, none⟩ (.slice none 0 0)).setCell ⟨w.heap.size + 1, 3, none⟩ (.int .i64 0)).setCell ⟨w.heap.size + 1, 4, none⟩ (.slice none 0 0)).setCell ⟨w.heap.size + 1, 5, none⟩ (.slice none 0 0)) := bw2.trans (hon.below (by omega))
      clear hon bw2 Z2 G2
      go_wp2
      refine bodyPost_ret (v := .tuple #[.agg #[.int .i64 0, .int .i64 0, .slice none 0 0, .int .i64 0, .slice none 0 0, .slice none 0 0], .bool false]) ?_ rfl ?_
      · simp only [results, Tryd.results35]
        go_simp
      · exact ⟨fun _ => rfl, fun r h => (by rw [HR.out] at h; cases h), bf⟩
    · by_cases ht1 : hd.e < to
      · have HR : Hid (R = none) := HF2.out ht1
        clear HF0 HF1 HF2 HF3
        have x0 : w2.cell? ⟨w.heap.size + 1, 0, none⟩ = some (.int .i64 0) := by rw [cell_of_row _ _ _ _ _ _ Z2]; rfl
        have x1 : w2.cell? ⟨w.heap.size + 1, 1, none⟩ = some (.int .i64 0) := by rw [cell_of_row _ _ _ _ _ _ Z2]; rfl
        have x2 : w2.cell? ⟨w.heap.size + 1, 2, none⟩ = some (.slice none 0 0) := by rw [cell_of_row _ _ _ _ _ _ Z2]; rfl
        have x3 : w2.cell? ⟨w.heap.size + 1, 3, none⟩ = some (.int .i64 0) := by rw [cell_of_row _ _ _ _ _ _ Z2]; rfl
        have x4 : w2.cell? ⟨w.heap.size + 1, 4, none⟩ = some (.slice none 0 0) := by rw [cell_of_row _ _ _ _ _ _ Z2]; rfl
        have x5 : w2.cell? ⟨w.heap.size + 1, 5, none⟩ = some (.slice none 0 0) := by rw [cell_of_row _ _ _ _ _ _ Z2]; rfl
        have f0 : w2.frozen? ⟨w.heap.size + 1, 0, none⟩ = false := frz_of Z2
        have f1 : w2.frozen? ⟨w.heap.size + 1, 1, none⟩ = false := frz_of Z2
        have f2 : w2.frozen? ⟨w.heap.size + 1, 2, none⟩ = false := frz_of Z2
        have f3 : w2.frozen? ⟨w.heap.size + 1, 3, none⟩ = false := frz_of Z2
        have f4 : w2.frozen? ⟨w.heap.size + 1, 4, none⟩ = false := frz_of Z2
        have f5 : w2.frozen? ⟨w.heap.size + 1, 5, none⟩ = false := frz_of Z2
        have hon : Only (w.heap.size + 1) w2 (((((((w2).setCell ⟨w.heap.size + 1, 0, none⟩ (.int .i64 0)).setCell ⟨w.heap.size + 1, 1, none⟩ (.int .i64 0)).setCell ⟨w.heap.size + 1, 2, none⟩ (.slice none 0 0)).setCell ⟨w.heap.size + 1, 3, none⟩ (.int .i64 0)).setCell ⟨w.heap.size + 1, 4, none⟩ (.slice none 0 0)).setCell ⟨w.heap.size + 1, 5, none⟩ (.slice none 0 0)) := ((((((Only.refl _ _).setCell 0 _).setCell 1 _).setCell 2 _).setCell 3 _).setCell 4 _).setCell 5 _
        have bf : Below w.heap.size w (((((((w2).setCell ⟨w.heap.size + 1, 0, none⟩ (.int .i64 0)).setCell ⟨w.heap.size + 1, 1, none⟩ (.int .i64 0)).setCell ⟨w.heap.size + 1, 2, none⟩ (.slice none 0 0)).setCell ⟨w.heap.size + 1, 3, none⟩ (.int .i64 0)).setCell ⟨w.heap.size + 1, 4, none⟩ (.slice none 0 0)).setCell ⟨w.heap.size + 1, 5, none⟩ (.slice none 0 0)) := bw2.trans (hon.below (by omega))
        clear hon bw2 Z2 G2
        go_wp2
        refine bodyPost_ret (v := .tuple #[.agg #[.int .i64 0, .int .i64 0, .slice none 0 0, .int .i64 0, .slice none 0 0, .slice none 0 0], .bool false]) ?_ rfl ?_
        · simp only [results, Tryd.results35]
          go_simp
        · exact ⟨fun _ => rfl, fun r h => (by rw [HR.out] at h; cases h), bf⟩
      · have HF : Hid (R = folP size hd way (wayI hd.e to)) := HF3.out HCB.out (by omega) (by omega)
        have q3 := ((canB_iff _ _).1 HCB.out).2.2.1
        have q4 := ((canB_iff _ _).1 HCB.out).2.2.2.1
        have HE : Hid (wayI hd.e to = wayN hd.e.toNat to.toNat) := by
          show wayI _ _ = _
          unfold wayI
          split
          · rw [wayN_at _ _ (by omega)]
          · rfl
        have hWay := rway_any hd.e to w2
        clear HF0 HF1 HF2 HF3
        generalize wayI hd.e to = E at *
        go_wp2_with fail
        refine hWay.mono ?_
        rintro x w3 ⟨v3, rfl, o3, b3⟩
        have i3 := IA.of_owns o3
        obtain ⟨p3, c3, rfl⟩ := i3.shape
        have hE3 := i3.len_le
        unfold maxLen at hE3
        have G3 := (b3.block _ (by omega)).trans G2
        have Z3 := (b3.block _ l2).trans Z2
        have bw3 := bw2.trans (b3.mono bw2.size)
        have l3 : w.heap.size + 1 < w3.heap.size := (Array.getElem?_eq_some_iff.1 Z3).1
        clear hWay o3 b3 G2 Z2 l2 bw2 y0
        by_cases hlen : way.length = E.length
        · have e3 : ((E.length : Int) != (way.length : Int)) = false := by simp; omega
          have HL : Hid (way.length = E.length) := hlen
          clear hlen
          have y0 : w3.cell? ⟨w.heap.size, 0, none⟩ = some (.int .i64 hd.e) := by rw [cell_of_row _ _ _ _ _ _ G3]; rfl
          have y1 : w3.cell? ⟨w.heap.size, 1, none⟩ = some (.int .i64 hd.t) := by rw [cell_of_row _ _ _ _ _ _ G3]; rfl
          have y2 : w3.cell? ⟨w.heap.size, 2, none⟩ = some (.slice htp hd.tr.length htc) := by rw [cell_of_row _ _ _ _ _ _ G3]; rfl
          have y3 : w3.cell? ⟨w.heap.size, 3, none⟩ = some (.int .i64 hd.c) := by rw [cell_of_row _ _ _ _ _ _ G3]; rfl
          have y4 : w3.cell? ⟨w.heap.size, 4, none⟩ = some (.slice hlp hd.li.length hlc) := by rw [cell_of_row _ _ _ _ _ _ G3]; rfl
          have y5 : w3.cell? ⟨w.heap.size, 5, none⟩ = some (.slice hkp hd.lk.length hkc) := by rw [cell_of_row _ _ _ _ _ _ G3]; rfl
          have GA := heap_alloc_new w3 (.cells #[.int .i64 hd.e, .int .i64 hd.t, .slice htp hd.tr.length htc, .int .i64 hd.c, .slice hlp hd.li.length hlc, .slice hkp hd.lk.length hkc] 25)
          have bA := (Below.refl w3.heap.size w3).alloc (Nat.le_refl _) (.cells #[.int .i64 hd.e, .int .i64 hd.t, .slice htp hd.tr.length htc, .int .i64 hd.c, .slice hlp hd.li.length hlc, .slice hkp hd.lk.length hkc] 25)
          have hq1 := h1
          have hq2 := h2
          have hq3 := h3
          go_wp2
          go_loopw [42] (fun i wr => ∃ (k : Nat) (last : Rc) (ltp : Option Addr) (ltc : Nat) (llp : Option Addr) (llc : Nat) (lkp : Option Addr) (lkc : Nat), k ≤ E.length ∧ i = .int .i64 k ∧ wr.heap[w3.heap.size]? = some (.cells #[.int .i64 last.e, .int .i64 last.t, .slice ltp last.tr.length ltc, .int .i64 last.c, .slice llp last.li.length llc, .slice lkp last.lk.length lkc] 25 (0, 0)) ∧ HB w (.slice ltp last.tr.length ltc) last.tr ∧ HB w (.slice llp last.li.length llc) last.li ∧ PA w (.slice lkp last.lk.length lkc) last.lk ∧ Below w3.heap.size w3 wr ∧ Hid (folP size last (way.drop k) (E.drop k) = R) ∧ Hid (canB size last = true) ∧ Hid (to ≤ last.e ∧ E.drop k = wayN last.e.toNat to.toNat)) (fun i _ => way.length - (intOf i).toNat)
          case atStart => exact ⟨0, hd, htp, htc, hlp, hlc, hkp, hkc, Nat.zero_le _, rfl, GA, hq1, hq2, hq3, bA, HF.out.symm, HCB, ⟨by omega, HE.out⟩⟩
          case round =>
            clear GA bA hq1 hq2 hq3 HF HE HCB G3 y0 y1 y2 y3 y4 y5
            obtain ⟨k, last, ltp, ltc, llp, llc, lkp, lkc, hk, rfl, GL, q1, q2, q3', hbw, HFk, HCk, HEk⟩ := hrel
            have hsz := hbw.size
            obtain ⟨s1, s2, s3, s4, _, _, _, _, s9, s10, s11, s12⟩ := (canB_iff _ _).1 HCk.out
            have ltz : w.heap.size + 1 < wr.heap.size := by omega
            have Zr := (hbw.block _ l3).trans Z3
            have bw := bw3.trans (hbw.mono bw3.size)
            have ltg : w3.heap.size < wr.heap.size := (Array.getElem?_eq_some_iff.1 GL).1
            by_cases hlt : k < E.length
            · clear s9 s10 s11 s12
              have hltw : k < way.length := by have := HL.out; omega
              obtain ⟨eb, eo, rfl, fe⟩ := i3.addr (by omega)
              obtain ⟨ep, hep⟩ : ∃ ep, E[k]? = some ep := ⟨_, List.getElem?_eq_getElem hlt⟩
              have ce := cell_later hbw (fe k ep hep)
              have HWA : Hid (ep ∈ linksL last.e.toNat ∧ to.toNat ≤ ep ∧ E.drop (k + 1) = wayN ep to.toNat) := way_at E k ep _ _ (by omega) hep HEk.out.2
              have HEP : Hid (E[k]? = some ep) := hep
              clear hep fe
              obtain ⟨vb, vo, rfl⟩ := hW.addr (by omega)
              obtain ⟨r, rtp, rtc, rlp, rlc, rkp, rkc, HRK, hrc⟩ := hW.get k hltw
              have hrc3 := hrc.later bw3
              obtain ⟨⟨j0, j1, j2, j3, j4, j5⟩, _, _, _⟩ := hrc3
              obtain ⟨_, n1, n2, n3⟩ := hrc
              have hlt2 : (k : Int) < (E.length : Int) := by omega
              have hlt3 : (k : Int) < (way.length : Int) := by omega
              have bV := (Below.refl wr.heap.size wr).alloc (Nat.le_refl _) (.cells #[.int .i64 r.e, .int .i64 r.t, .slice rtp r.tr.length rtc, .int .i64 r.c, .slice rlp r.li.length rlc, .slice rkp r.lk.length rkc] 25)
              have gV := heap_alloc_new wr (.cells #[.int .i64 r.e, .int .i64 r.t, .slice rtp r.tr.length rtc, .int .i64 r.c, .slice rlp r.li.length rlc, .slice rkp r.lk.length rkc] 25)
              have hjw := hbw
              have c0 := cell_later hjw j0
              have c1 := cell_later hjw j1
              have c2 := cell_later hjw j2
              have c3 := cell_later hjw j3
              have c4 := cell_later hjw j4
              have c5 := cell_later hjw j5
              obtain ⟨V, hV⟩ : ∃ V, V = wr.alloc (.cells #[.int .i64 r.e, .int .i64 r.t, .slice rtp r.tr.length rtc, .int .i64 r.c, .slice rlp r.li.length rlc, .slice rkp r.lk.length rkc] 25) := ⟨_, rfl⟩
              rw [← hV] at bV gV
              have bV3 := hbw.trans (bV.mono hbw.size)
              have GLV := (bV.block _ ltg).trans GL
              have ZrV := (bV.block _ ltz).trans Zr
              have bwV := bw.trans (bV.mono bw.size)
              have ltgV : w3.heap.size < V.heap.size := (Array.getElem?_eq_some_iff.1 GLV).1
              have ltzV : w.heap.size + 1 < V.heap.size := (Array.getElem?_eq_some_iff.1 ZrV).1
              have ltvV : wr.heap.size < V.heap.size := (Array.getElem?_eq_some_iff.1 gV).1
              have ceV := cell_later bV ce
              have bD : Below V.heap.size V V.drew := (Below.refl _ V).drew
              have HLk : Hid (canB size r = true → lkB size last r = decide (last.lk[lkI last r]? = some (hshF size r))) := fun h => by
                unfold lkB
                rw [h, Bool.true_and]
              have HCn : Hid (∀ W, Below V.heap.size V W → Calls Tryd.prog 18 #[.int .i64 size, .agg #[.int .i64 r.e, .int .i64 r.t, .slice rtp r.tr.length rtc, .int .i64 r.c, .slice rlp r.li.length rlc, .slice rkp r.lk.length rkc]] W fun x w' => x = .returned (.bool (canB size r)) ∧ Below W.heap.size W w') := fun W hB => rcan_any size r.e r.t r.c _ _ _ r.tr r.li r.lk W ((n1.later bwV).later hB) ((n2.later bwV).later hB) ((n3.later bwV).later hB)
              have HLi : Hid (r.e = (ep : Int) → ∀ W, Below V.heap.size V W → Calls Tryd.prog 65 #[.int .i64 size, .agg #[.int .i64 last.e, .int .i64 last.t, .slice ltp last.tr.length ltc, .int .i64 last.c, .slice llp last.li.length llc, .slice lkp last.lk.length lkc], .agg #[.int .i64 r.e, .int .i64 r.t, .slice rtp r.tr.length rtc, .int .i64 r.c, .slice rlp r.li.length rlc, .slice rkp r.lk.length rkc]] W fun x w' => x = .returned (.bool (decide (last.lk[lkI last r]? = some (hshF size r)))) ∧ Below W.heap.size W w') := fun he W hB => rlinked_any size last r _ _ _ _ _ _ W ((q1.later bwV).later hB) ((q2.later bwV).later hB) ((q3'.later bwV).later hB) ((n1.later bwV).later hB) ((n2.later bwV).later hB) ((n3.later bwV).later hB) HCk.out (by omega) (by rw [he, Int.toNat_natCast]; exact HWA.out.1)
              have HS0 : Hid (R = if r.e = (ep : Int) ∧ lkB size last r = true then folP size r (way.drop (k + 1)) (E.drop (k + 1)) else none) := by
                show R = _
                rw [← HFk.out, folP_step size last r way E k ep HRK.out HEP.out]
              have HS : Hid (R = if r.e = (ep : Int) ∧ (canB size r = true ∧ decide (last.lk[lkI last r]? = some (hshF size r)) = true) then folP size r (way.drop (k + 1)) (E.drop (k + 1)) else none) := by
                show R = _
                rw [HS0.out]
                unfold lkB
                simp only [Bool.and_eq_true]
              clear HS0 HLk
              generalize decide (last.lk[lkI last r]? = some (hshF size r)) = LB at *
              obtain ⟨CB, hCB⟩ : ∃ CB, CB = canB size r := ⟨_, rfl⟩
              have HCR : Hid (CB = true → canB size r = true) := fun h => by rw [← hCB]; exact h
              rw [← hCB] at HCn HS
              clear hCB
              have HNx : Hid (r.e = (ep : Int) → to ≤ r.e ∧ E.drop (k + 1) = wayN r.e.toNat to.toNat) := fun he => by
                have := HWA.out
                rw [he, Int.toNat_natCast]
                exact ⟨by omega, this.2.2⟩
              have hcells : ∀ W, Below V.heap.size V W → W.cell? ⟨w3.heap.size, 0, none⟩ = some (.int .i64 last.e) ∧ W.cell? ⟨w3.heap.size, 1, none⟩ = some (.int .i64 last.t) ∧ W.cell? ⟨w3.heap.size, 2, none⟩ = some (.slice ltp last.tr.length ltc) ∧ W.cell? ⟨w3.heap.size, 3, none⟩ = some (.int .i64 last.c) ∧ W.cell? ⟨w3.heap.size, 4, none⟩ = some (.slice llp last.li.length llc) ∧ W.cell? ⟨w3.heap.size, 5, none⟩ = some (.slice lkp last.lk.length lkc) ∧ W.cell? ⟨wr.heap.size, 0, none⟩ = some (.int .i64 r.e) ∧ W.cell? ⟨wr.heap.size, 1, none⟩ = some (.int .i64 r.t) ∧ W.cell? ⟨wr.heap.size, 2, none⟩ = some (.slice rtp r.tr.length rtc) ∧ W.cell? ⟨wr.heap.size, 3, none⟩ = some (.int .i64 r.c) ∧ W.cell? ⟨wr.heap.size, 4, none⟩ = some (.slice rlp r.li.length rlc) ∧ W.cell? ⟨wr.heap.size, 5, none⟩ = some (.slice rkp r.lk.length rkc) ∧ W.cell? ⟨eb, eo + k, none⟩ = some (.int .i64 (ep : Int)) := by
                intro W hB
                have GW := (hB.block _ ltgV).trans GLV
                have GV := (hB.block _ ltvV).trans gV
                refine ⟨?_, ?_, ?_, ?_, ?_, ?_, ?_, ?_, ?_, ?_, ?_, ?_, cell_later hB ceV⟩
                iterate 6 (rw [cell_of_row _ _ _ _ _ _ GW]; rfl)
                iterate 6 (rw [cell_of_row _ _ _ _ _ _ GV]; rfl)
              have hHeld := hcells _ bD
              clear HWA HEP HRK HFk HCk HEk j0 j1 j2 j3 j4 j5 q1 q2 q3' i3 hW h1 h2 h3 bV gV hjw bw Zr ltz
              have bw := bwV
              have Zr := ZrV
              have ltz := ltzV
              clear bwV ZrV ltzV
              go_wp2_with fail
              subst hV
              refine wp_region_heldN (by kernel_rfl) (fun W => W.cell? ⟨w3.heap.size, 0, none⟩ = some (.int .i64 last.e) ∧ W.cell? ⟨w3.heap.size, 1, none⟩ = some (.int .i64 last.t) ∧ W.cell? ⟨w3.heap.size, 2, none⟩ = some (.slice ltp last.tr.length ltc) ∧ W.cell? ⟨w3.heap.size, 3, none⟩ = some (.int .i64 last.c) ∧ W.cell? ⟨w3.heap.size, 4, none⟩ = some (.slice llp last.li.length llc) ∧ W.cell? ⟨w3.heap.size, 5, none⟩ = some (.slice lkp last.lk.length lkc) ∧ W.cell? ⟨wr.heap.size, 0, none⟩ = some (.int .i64 r.e) ∧ W.cell? ⟨wr.heap.size, 1, none⟩ = some (.int .i64 r.t) ∧ W.cell? ⟨wr.heap.size, 2, none⟩ = some (.slice rtp r.tr.length rtc) ∧ W.cell? ⟨wr.heap.size, 3, none⟩ = some (.int .i64 r.c) ∧ W.cell? ⟨wr.heap.size, 4, none⟩ = some (.slice rlp r.li.length rlc) ∧ W.cell? ⟨wr.heap.size, 5, none⟩ = some (.slice rkp r.lk.length rkc) ∧ W.cell? ⟨eb, eo + k, none⟩ = some (.int .i64 (ep : Int))) 20 rfl ?_
              refine wpAnyH_take (i := 0) (oi := { dst := some 47, op := Go.Op.move (Go.Operand.tmp 0), type := 3, pos := "ref.go:78", after := #[], guard := none }) (v := ?v0z1) rfl (by kernel_rfl) (by kernel_rfl) (by kernel_rfl) (fun _ _ _ h => h) (Or.inl ⟨by rfl, ?y0z1⟩) hHeld ?r0z1
              case y0z1 => (intro w hSw; (try dsimp only at hSw); go_simp) <;> with_reducible rfl
              try simp only [Act.put, List.setIfInBounds_toArray, List.set_cons_zero, List.set_cons_succ]
              refine wpAnyH_take (i := 1) (oi := { dst := some 48, op := Go.Op.load 25 (Go.Operand.tmp 13), type := 25, pos := "ref.go:78", after := #[], guard := none }) (v := ?v1z2) rfl (by kernel_rfl) (by kernel_rfl) (by kernel_rfl) (fun _ _ _ h => h) (Or.inl ⟨by rfl, ?y1z2⟩) hHeld ?r1z2
              case y1z2 => (intro w hSw; (try dsimp only at hSw); go_simp) <;> with_reducible rfl
              try simp only [Act.put, List.setIfInBounds_toArray, List.set_cons_zero, List.set_cons_succ]
              refine wpAnyH_ready (rs := [2]) (by kernel_rfl) (by simp) ?_
              refine AllReadyH.cons (o := { dst := some 49, op := Go.Op.call { callee := Go.Callee.value (Go.Operand.func 18), args := #[Go.Operand.tmp 47, Go.Operand.tmp 48], argTypes := #[3, 25] }, type := 4, pos := "ref.go:78", after := #[{ on := 0, ground := Go.Ground.data }, { on := 1, ground := Go.Ground.data }], guard := none }) rfl (fun K hK => ?_) AllReadyH.nil
              go_simp
              refine (HCn.out _ bD).mono ?_
              rintro x w4 ⟨rfl, b4'⟩
              have b4 := bD.trans (b4'.mono bD.size)
              replace hHeld := hcells w4 b4
              cases CB with
              | true =>
                refine hK.out _ _ ?_ (fun _ => ?_)
                · exact hHeld
                clear hK K
                try simp only [Act.put, List.setIfInBounds_toArray, List.set_cons_zero, List.set_cons_succ]
                refine wpAnyH_take (i := 3) (oi := { dst := some 50, op := Go.Op.unOp Go.UnOp.not 4 (Go.Operand.tmp 49), type := 4, pos := "ref.go:78", after := #[{ on := 2, ground := Go.Ground.data }], guard := none }) (v := ?v3z3) rfl (by kernel_rfl) (by kernel_rfl) (by kernel_rfl) (fun _ _ _ h => h) (Or.inl ⟨by rfl, ?y3z3⟩) hHeld ?r3z3
                case y3z3 => (intro w hSw; (try dsimp only at hSw); go_simp) <;> with_reducible rfl
                try simp only [Act.put, List.setIfInBounds_toArray, List.set_cons_zero, List.set_cons_succ]
                refine wpAnyH_take (i := 4) (oi := { dst := some 51, op := Go.Op.move (Go.Operand.tmp 50), type := 4, pos := "ref.go:78", after := #[{ on := 3, ground := Go.Ground.data }, { on := 2, ground := Go.Ground.chain }], guard := none }) (v := ?v4z4) rfl (by kernel_rfl) (by kernel_rfl) (by kernel_rfl) (fun _ _ _ h => h) (Or.inl ⟨by rfl, ?y4z4⟩) hHeld ?r4z4
                case y4z4 => (intro w hSw; (try dsimp only at hSw); go_simp) <;> with_reducible rfl
                try simp only [Act.put, List.setIfInBounds_toArray, List.set_cons_zero, List.set_cons_succ]
                refine wpAnyH_take (i := 5) (oi := { dst := some 52, op := Go.Op.fieldAddr 25 (Go.Operand.tmp 13) 0, type := 0, pos := "ref.go:78", after := #[{ on := 4, ground := Go.Ground.guard }], guard := some (4, false) }) (v := ?v5z5) rfl (by kernel_rfl) (by kernel_rfl) (by kernel_rfl) (fun _ _ _ h => h) (Or.inl ⟨by rfl, ?y5z5⟩) hHeld ?r5z5
                case y5z5 => (intro w hSw; (try dsimp only at hSw); go_simp) <;> with_reducible rfl
                try simp only [Act.put, List.setIfInBounds_toArray, List.set_cons_zero, List.set_cons_succ]
                refine wpAnyH_take (i := 6) (oi := { dst := some 53, op := Go.Op.load 3 (Go.Operand.tmp 52), type := 3, pos := "ref.go:78", after := #[{ on := 5, ground := Go.Ground.data }, { on := 4, ground := Go.Ground.guard }], guard := some (4, false) }) (v := ?v6z6) rfl (by kernel_rfl) (by kernel_rfl) (by kernel_rfl) (fun _ _ _ h => h) (Or.inl ⟨by rfl, ?y6z6⟩) hHeld ?r6z6
                case y6z6 => (intro w hSw; (try dsimp only at hSw); go_simp) <;> with_reducible rfl
                try simp only [Act.put, List.setIfInBounds_toArray, List.set_cons_zero, List.set_cons_succ]
                refine wpAnyH_take (i := 7) (oi := { dst := some 54, op := Go.Op.move (Go.Operand.tmp 10), type := 48, pos := "ref.go:78", after := #[{ on := 4, ground := Go.Ground.guard }], guard := some (4, false) }) (v := ?v7z7) rfl (by kernel_rfl) (by kernel_rfl) (by kernel_rfl) (fun _ _ _ h => h) (Or.inl ⟨by rfl, ?y7z7⟩) hHeld ?r7z7
                case y7z7 => (intro w hSw; (try dsimp only at hSw); go_simp) <;> with_reducible rfl
                try simp only [Act.put, List.setIfInBounds_toArray, List.set_cons_zero, List.set_cons_succ]
                refine wpAnyH_take (i := 8) (oi := { dst := some 55, op := Go.Op.move (Go.Operand.tmp 12), type := 3, pos := "ref.go:78", after := #[{ on := 4, ground := Go.Ground.guard }], guard := some (4, false) }) (v := ?v8z8) rfl (by kernel_rfl) (by kernel_rfl) (by kernel_rfl) (fun _ _ _ h => h) (Or.inl ⟨by rfl, ?y8z8⟩) hHeld ?r8z8
                case y8z8 => (intro w hSw; (try dsimp only at hSw); go_simp) <;> with_reducible rfl
                try simp only [Act.put, List.setIfInBounds_toArray, List.set_cons_zero, List.set_cons_succ]
                refine wpAnyH_take (i := 9) (oi := { dst := some 56, op := Go.Op.indexAddr 48 (Go.Operand.tmp 54) (Go.Operand.tmp 55), type := 0, pos := "ref.go:78", after := #[{ on := 7, ground := Go.Ground.data }, { on := 8, ground := Go.Ground.data }, { on := 4, ground := Go.Ground.guard }], guard := some (4, false) }) (v := ?v9z9) rfl (by kernel_rfl) (by kernel_rfl) (by kernel_rfl) (fun _ _ _ h => h) (Or.inl ⟨by rfl, ?y9z9⟩) hHeld ?r9z9
                case y9z9 => (intro w hSw; (try dsimp only at hSw); go_simp) <;> with_reducible rfl
                try simp only [Act.put, List.setIfInBounds_toArray, List.set_cons_zero, List.set_cons_succ]
                refine wpAnyH_take (i := 10) (oi := { dst := some 57, op := Go.Op.load 3 (Go.Operand.tmp 56), type := 3, pos := "ref.go:78", after := #[{ on := 9, ground := Go.Ground.data }, { on := 4, ground := Go.Ground.guard }], guard := some (4, false) }) (v := ?v10z10) rfl (by kernel_rfl) (by kernel_rfl) (by kernel_rfl) (fun _ _ _ h => h) (Or.inl ⟨by rfl, ?y10z10⟩) hHeld ?r10z10
                case y10z10 => (intro w hSw; (try dsimp only at hSw); go_simp) <;> with_reducible rfl
                try simp only [Act.put, List.setIfInBounds_toArray, List.set_cons_zero, List.set_cons_succ]
                by_cases hc11 : r.e = (ep : Int)
                · have n6 : (r.e != (ep : Int)) = false := by simpa using hc11
                  have HQ : Hid (r.e = (ep : Int)) := hc11
                  clear hc11
                  refine wpAnyH_take (i := 11) (oi := { dst := some 58, op := Go.Op.binOp Go.BinOp.neq 3 (Go.Operand.tmp 53) (Go.Operand.tmp 57) 3, type := 4, pos := "ref.go:78", after := #[{ on := 6, ground := Go.Ground.data }, { on := 10, ground := Go.Ground.data }, { on := 4, ground := Go.Ground.guard }], guard := some (4, false) }) (v := ?v11z11) rfl (by kernel_rfl) (by kernel_rfl) (by kernel_rfl) (fun _ _ _ h => h) (Or.inl ⟨by rfl, ?y11z11⟩) hHeld ?r11z11
                  case y11z11 => (intro w hSw; (try dsimp only at hSw); go_simp) <;> with_reducible rfl
                  try simp only [Act.put, List.setIfInBounds_toArray, List.set_cons_zero, List.set_cons_succ]
                  refine wpAnyH_take (i := 12) (oi := { dst := some 59, op := Go.Op.pick (Go.Operand.tmp 51) (Go.Operand.const (Go.Value.bool true)) (Go.Operand.tmp 58), type := 4, pos := "ref.go:78", after := #[{ on := 4, ground := Go.Ground.data }, { on := 11, ground := Go.Ground.data }], guard := none }) (v := ?v12z12) rfl (by kernel_rfl) (by kernel_rfl) (by kernel_rfl) (fun _ _ _ h => h) (Or.inl ⟨by rfl, ?y12z12⟩) hHeld ?r12z12
                  case y12z12 => (intro w hSw; (try dsimp only at hSw); go_simp) <;> with_reducible rfl
                  try simp only [Act.put, List.setIfInBounds_toArray, List.set_cons_zero, List.set_cons_succ]
                  refine wpAnyH_take (i := 13) (oi := { dst := some 60, op := Go.Op.move (Go.Operand.tmp 59), type := 4, pos := "ref.go:78", after := #[{ on := 12, ground := Go.Ground.data }, { on := 4, ground := Go.Ground.chain }], guard := none }) (v := ?v13z13) rfl (by kernel_rfl) (by kernel_rfl) (by kernel_rfl) (fun _ _ _ h => h) (Or.inl ⟨by rfl, ?y13z13⟩) hHeld ?r13z13
                  case y13z13 => (intro w hSw; (try dsimp only at hSw); go_simp) <;> with_reducible rfl
                  try simp only [Act.put, List.setIfInBounds_toArray, List.set_cons_zero, List.set_cons_succ]
                  refine wpAnyH_take (i := 14) (oi := { dst := some 61, op := Go.Op.move (Go.Operand.tmp 0), type := 3, pos := "ref.go:78", after := #[{ on := 13, ground := Go.Ground.guard }], guard := some (13, false) }) (v := ?v14z14) rfl (by kernel_rfl) (by kernel_rfl) (by kernel_rfl) (fun _ _ _ h => h) (Or.inl ⟨by rfl, ?y14z14⟩) hHeld ?r14z14
                  case y14z14 => (intro w hSw; (try dsimp only at hSw); go_simp) <;> with_reducible rfl
                  try simp only [Act.put, List.setIfInBounds_toArray, List.set_cons_zero, List.set_cons_succ]
                  refine wpAnyH_take (i := 15) (oi := { dst := some 62, op := Go.Op.load 25 (Go.Operand.tmp 11), type := 25, pos := "ref.go:78", after := #[{ on := 13, ground := Go.Ground.guard }], guard := some (13, false) }) (v := ?v15z15) rfl (by kernel_rfl) (by kernel_rfl) (by kernel_rfl) (fun _ _ _ h => h) (Or.inl ⟨by rfl, ?y15z15⟩) hHeld ?r15z15
                  case y15z15 => (intro w hSw; (try dsimp only at hSw); go_simp) <;> with_reducible rfl
                  try simp only [Act.put, List.setIfInBounds_toArray, List.set_cons_zero, List.set_cons_succ]
                  refine wpAnyH_take (i := 16) (oi := { dst := some 63, op := Go.Op.load 25 (Go.Operand.tmp 13), type := 25, pos := "ref.go:78", after := #[{ on := 13, ground := Go.Ground.guard }], guard := some (13, false) }) (v := ?v16z16) rfl (by kernel_rfl) (by kernel_rfl) (by kernel_rfl) (fun _ _ _ h => h) (Or.inl ⟨by rfl, ?y16z16⟩) hHeld ?r16z16
                  case y16z16 => (intro w hSw; (try dsimp only at hSw); go_simp) <;> with_reducible rfl
                  try simp only [Act.put, List.setIfInBounds_toArray, List.set_cons_zero, List.set_cons_succ]
                  refine wpAnyH_ready (rs := [17]) (by kernel_rfl) (by simp) ?_
                  refine AllReadyH.cons (o := { dst := some 64, op := Go.Op.call { callee := Go.Callee.value (Go.Operand.func 65), args := #[Go.Operand.tmp 61, Go.Operand.tmp 62, Go.Operand.tmp 63], argTypes := #[3, 25, 25] }, type := 4, pos := "ref.go:78", after := #[{ on := 14, ground := Go.Ground.data }, { on := 15, ground := Go.Ground.data }, { on := 16, ground := Go.Ground.data }, { on := 13, ground := Go.Ground.chain }, { on := 13, ground := Go.Ground.guard }], guard := some (13, false) }) rfl (fun K hK => ?_) AllReadyH.nil
                  go_simp
                  refine (HLi.out HQ.out _ b4).mono ?_
                  rintro x w5 ⟨rfl, b5'⟩
                  have b5 := b4.trans (b5'.mono b4.size)
                  replace hHeld := hcells w5 b5
                  cases LB with
                  | true =>
                    refine hK.out _ _ ?_ (fun _ => ?_)
                    · exact hHeld
                    clear hK K
                    try simp only [Act.put, List.setIfInBounds_toArray, List.set_cons_zero, List.set_cons_succ]
                    refine wpAnyH_take (i := 18) (oi := { dst := some 65, op := Go.Op.unOp Go.UnOp.not 4 (Go.Operand.tmp 64), type := 4, pos := "ref.go:78", after := #[{ on := 17, ground := Go.Ground.data }, { on := 13, ground := Go.Ground.guard }], guard := some (13, false) }) (v := ?v18z17) rfl (by kernel_rfl) (by kernel_rfl) (by kernel_rfl) (fun _ _ _ h => h) (Or.inl ⟨by rfl, ?y18z17⟩) hHeld ?r18z17
                    case y18z17 => (intro w hSw; (try dsimp only at hSw); go_simp) <;> with_reducible rfl
                    try simp only [Act.put, List.setIfInBounds_toArray, List.set_cons_zero, List.set_cons_succ]
                    refine wpAnyH_take (i := 19) (oi := { dst := some 66, op := Go.Op.pick (Go.Operand.tmp 60) (Go.Operand.const (Go.Value.bool true)) (Go.Operand.tmp 65), type := 4, pos := "ref.go:78", after := #[{ on := 13, ground := Go.Ground.data }, { on := 18, ground := Go.Ground.data }], guard := none }) (v := ?v19z18) rfl (by kernel_rfl) (by kernel_rfl) (by kernel_rfl) (fun _ _ _ h => h) (Or.inl ⟨by rfl, ?y19z18⟩) hHeld ?r19z18
                    case y19z18 => (intro w hSw; (try dsimp only at hSw); go_simp) <;> with_reducible rfl
                    try simp only [Act.put, List.setIfInBounds_toArray, List.set_cons_zero, List.set_cons_succ]
                    refine wpAnyH_done (by kernel_rfl) ?_ _
                    have HR : Hid (folP size r (way.drop (k + 1)) (E.drop (k + 1)) = R) := (HS.out.trans (if_pos ⟨HQ.out, by trivial⟩)).symm
                    have HC5 : Hid (canB size r = true) := HCR.out (by trivial)
                    have HE5 : Hid (to ≤ r.e ∧ E.drop (k + 1) = wayN r.e.toNat to.toNat) := HNx.out HQ.out
                    have G5 := (b5.block _ ltgV).trans GLV
                    obtain ⟨d0, d1, d2, d3, d4, d5, e0, e1, e2, e3, e4, e5, _⟩ := hHeld
                    have f0 : w5.frozen? ⟨w3.heap.size, 0, none⟩ = false := frz_of G5
                    have f1 : w5.frozen? ⟨w3.heap.size, 1, none⟩ = false := frz_of G5
                    have f2 : w5.frozen? ⟨w3.heap.size, 2, none⟩ = false := frz_of G5
                    have f3 : w5.frozen? ⟨w3.heap.size, 3, none⟩ = false := frz_of G5
                    have f4 : w5.frozen? ⟨w3.heap.size, 4, none⟩ = false := frz_of G5
                    have f5 : w5.frozen? ⟨w3.heap.size, 5, none⟩ = false := frz_of G5
                    have hon : Only w3.heap.size w5 (((((((w5).setCell ⟨w3.heap.size, 0, none⟩ (.int .i64 r.e)).setCell ⟨w3.heap.size, 1, none⟩ (.int .i64 r.t)).setCell ⟨w3.heap.size, 2, none⟩ (.slice rtp r.tr.length rtc)).setCell ⟨w3.heap.size, 3, none⟩ (.int .i64 r.c)).setCell ⟨w3.heap.size, 4, none⟩ (.slice rlp r.li.length rlc)).setCell ⟨w3.heap.size, 5, none⟩ (.slice rkp r.lk.length rkc)) := ((((((Only.refl _ _).setCell 0 _).setCell 1 _).setCell 2 _).setCell 3 _).setCell 4 _).setCell 5 _
                    have G6 : (((((((w5).setCell ⟨w3.heap.size, 0, none⟩ (.int .i64 r.e)).setCell ⟨w3.heap.size, 1, none⟩ (.int .i64 r.t)).setCell ⟨w3.heap.size, 2, none⟩ (.slice rtp r.tr.length rtc)).setCell ⟨w3.heap.size, 3, none⟩ (.int .i64 r.c)).setCell ⟨w3.heap.size, 4, none⟩ (.slice rlp r.li.length rlc)).setCell ⟨w3.heap.size, 5, none⟩ (.slice rkp r.lk.length rkc)).heap[w3.heap.size]? = some (.cells #[.int .i64 r.e, .int .i64 r.t, .slice rtp r.tr.length rtc, .int .i64 r.c, .slice rlp r.li.length rlc, .slice rkp r.lk.length rkc] 25 (0, 0)) := set6 _ _ _ _ _ _ _ _ _ _ _ _ _ _ _ G5
                    have b6 : Below w3.heap.size w3 (((((((w5).setCell ⟨w3.heap.size, 0, none⟩ (.int .i64 r.e)).setCell ⟨w3.heap.size, 1, none⟩ (.int .i64 r.t)).setCell ⟨w3.heap.size, 2, none⟩ (.slice rtp r.tr.length rtc)).setCell ⟨w3.heap.size, 3, none⟩ (.int .i64 r.c)).setCell ⟨w3.heap.size, 4, none⟩ (.slice rlp r.li.length rlc)).setCell ⟨w3.heap.size, 5, none⟩ (.slice rkp r.lk.length rkc)) := (bV3.trans (b5.mono bV3.size)).trans (hon.below (Nat.le_refl _))
                    clear hcells HLi HCn b5' b4' hon G5 b5 b4 HS HCR HNx HQ n6
                    go_wp2
                    go_roundw
                    case rel => first | exact ⟨k + 1, r, rtp, rtc, rlp, rlc, rkp, rkc, by omega, by go_num, G6, n1, n2, n3, b6, HR, HC5, HE5⟩ | ((repeat apply Exists.intro); exact ⟨⟨k + 1, r, rtp, rtc, rlp, rlc, rkp, rkc, by omega, by go_num, G6, n1, n2, n3, b6, HR, HC5, HE5⟩, rfl⟩)
                    case measure => simp [intOf]; omega
                  | false =>
                    refine hK.out _ _ ?_ (fun _ => ?_)
                    · exact hHeld
                    clear hK K
                    try simp only [Act.put, List.setIfInBounds_toArray, List.set_cons_zero, List.set_cons_succ]
                    refine wpAnyH_take (i := 18) (oi := { dst := some 65, op := Go.Op.unOp Go.UnOp.not 4 (Go.Operand.tmp 64), type := 4, pos := "ref.go:78", after := #[{ on := 17, ground := Go.Ground.data }, { on := 13, ground := Go.Ground.guard }], guard := some (13, false) }) (v := ?v18z19) rfl (by kernel_rfl) (by kernel_rfl) (by kernel_rfl) (fun _ _ _ h => h) (Or.inl ⟨by rfl, ?y18z19⟩) hHeld ?r18z19
                    case y18z19 => (intro w hSw; (try dsimp only at hSw); go_simp) <;> with_reducible rfl
                    try simp only [Act.put, List.setIfInBounds_toArray, List.set_cons_zero, List.set_cons_succ]
                    refine wpAnyH_take (i := 19) (oi := { dst := some 66, op := Go.Op.pick (Go.Operand.tmp 60) (Go.Operand.const (Go.Value.bool true)) (Go.Operand.tmp 65), type := 4, pos := "ref.go:78", after := #[{ on := 13, ground := Go.Ground.data }, { on := 18, ground := Go.Ground.data }], guard := none }) (v := ?v19z20) rfl (by kernel_rfl) (by kernel_rfl) (by kernel_rfl) (fun _ _ _ h => h) (Or.inl ⟨by rfl, ?y19z20⟩) hHeld ?r19z20
                    case y19z20 => (intro w hSw; (try dsimp only at hSw); go_simp) <;> with_reducible rfl
                    try simp only [Act.put, List.setIfInBounds_toArray, List.set_cons_zero, List.set_cons_succ]
                    refine wpAnyH_done (by kernel_rfl) ?_ _
                    have HR : Hid (R = none) := HS.out.trans (if_neg (fun h => by have := h.2; simp at this))
                    have ZF := (b5.block _ ltz).trans Zr
                    have bF := bw.trans (b5.mono bw.size)
                    clear hHeld hcells HLi HCn b5' b4'
                    have x0 : w5.cell? ⟨w.heap.size + 1, 0, none⟩ = some (.int .i64 0) := by rw [cell_of_row _ _ _ _ _ _ ZF]; rfl
                    have x1 : w5.cell? ⟨w.heap.size + 1, 1, none⟩ = some (.int .i64 0) := by rw [cell_of_row _ _ _ _ _ _ ZF]; rfl
                    have x2 : w5.cell? ⟨w.heap.size + 1, 2, none⟩ = some (.slice none 0 0) := by rw [cell_of_row _ _ _ _ _ _ ZF]; rfl
                    have x3 : w5.cell? ⟨w.heap.size + 1, 3, none⟩ = some (.int .i64 0) := by rw [cell_of_row _ _ _ _ _ _ ZF]; rfl
                    have x4 : w5.cell? ⟨w.heap.size + 1, 4, none⟩ = some (.slice none 0 0) := by rw [cell_of_row _ _ _ _ _ _ ZF]; rfl
                    have x5 : w5.cell? ⟨w.heap.size + 1, 5, none⟩ = some (.slice none 0 0) := by rw [cell_of_row _ _ _ _ _ _ ZF]; rfl
                    have f0 : w5.frozen? ⟨w.heap.size + 1, 0, none⟩ = false := frz_of ZF
                    have f1 : w5.frozen? ⟨w.heap.size + 1, 1, none⟩ = false := frz_of ZF
                    have f2 : w5.frozen? ⟨w.heap.size + 1, 2, none⟩ = false := frz_of ZF
                    have f3 : w5.frozen? ⟨w.heap.size + 1, 3, none⟩ = false := frz_of ZF
                    have f4 : w5.frozen? ⟨w.heap.size + 1, 4, none⟩ = false := frz_of ZF
                    have f5 : w5.frozen? ⟨w.heap.size + 1, 5, none⟩ = false := frz_of ZF
                    have hon : Only (w.heap.size + 1) w5 (((((((w5).setCell ⟨w.heap.size + 1, 0, none⟩ (.int .i64 0)).setCell ⟨w.heap.size + 1, 1, none⟩ (.int .i64 0)).setCell ⟨w.heap.size + 1, 2, none⟩ (.slice none 0 0)).setCell ⟨w.heap.size + 1, 3, none⟩ (.int .i64 0)).setCell ⟨w.heap.size + 1, 4, none⟩ (.slice none 0 0)).setCell ⟨w.heap.size + 1, 5, none⟩ (.slice none 0 0)) := ((((((Only.refl _ _).setCell 0 _).setCell 1 _).setCell 2 _).setCell 3 _).setCell 4 _).setCell 5 _
                    have bf : Below w.heap.size w (((((((w5).setCell ⟨w.heap.size + 1, 0, none⟩ (.int .i64 0)).setCell ⟨w.heap.size + 1, 1, none⟩ (.int .i64 0)).setCell ⟨w.heap.size + 1, 2, none⟩ (.slice none 0 0)).setCell ⟨w.heap.size + 1, 3, none⟩ (.int .i64 0)).setCell ⟨w.heap.size + 1, 4, none⟩ (.slice none 0 0)).setCell ⟨w.heap.size + 1, 5, none⟩ (.slice none 0 0)) := bF.trans (hon.below (by omega))
                    clear hon ZF bF b5
                    go_wp2
                    refine bodyPost_ret (v := .tuple #[.agg #[.int .i64 0, .int .i64 0, .slice none 0 0, .int .i64 0, .slice none 0 0, .slice none 0 0], .bool false]) ?_ rfl ?_
                    · simp only [results, Tryd.results35]
                      go_simp
                    · exact ⟨fun _ => rfl, fun r h => (by rw [HR.out] at h; cases h), bf⟩
                · have n6 : (r.e != (ep : Int)) = true := by simpa using hc11
                  have HQ : Hid (¬ r.e = (ep : Int)) := hc11
                  clear hc11
                  refine wpAnyH_take (i := 11) (oi := { dst := some 58, op := Go.Op.binOp Go.BinOp.neq 3 (Go.Operand.tmp 53) (Go.Operand.tmp 57) 3, type := 4, pos := "ref.go:78", after := #[{ on := 6, ground := Go.Ground.data }, { on := 10, ground := Go.Ground.data }, { on := 4, ground := Go.Ground.guard }], guard := some (4, false) }) (v := ?v11z21) rfl (by kernel_rfl) (by kernel_rfl) (by kernel_rfl) (fun _ _ _ h => h) (Or.inl ⟨by rfl, ?y11z21⟩) hHeld ?r11z21
                  case y11z21 => (intro w hSw; (try dsimp only at hSw); go_simp) <;> with_reducible rfl
                  try simp only [Act.put, List.setIfInBounds_toArray, List.set_cons_zero, List.set_cons_succ]
                  refine wpAnyH_take (i := 12) (oi := { dst := some 59, op := Go.Op.pick (Go.Operand.tmp 51) (Go.Operand.const (Go.Value.bool true)) (Go.Operand.tmp 58), type := 4, pos := "ref.go:78", after := #[{ on := 4, ground := Go.Ground.data }, { on := 11, ground := Go.Ground.data }], guard := none }) (v := ?v12z22) rfl (by kernel_rfl) (by kernel_rfl) (by kernel_rfl) (fun _ _ _ h => h) (Or.inl ⟨by rfl, ?y12z22⟩) hHeld ?r12z22
                  case y12z22 => (intro w hSw; (try dsimp only at hSw); go_simp) <;> with_reducible rfl
                  try simp only [Act.put, List.setIfInBounds_toArray, List.set_cons_zero, List.set_cons_succ]
                  refine wpAnyH_take (i := 13) (oi := { dst := some 60, op := Go.Op.move (Go.Operand.tmp 59), type := 4, pos := "ref.go:78", after := #[{ on := 12, ground := Go.Ground.data }, { on := 4, ground := Go.Ground.chain }], guard := none }) (v := ?v13z23) rfl (by kernel_rfl) (by kernel_rfl) (by kernel_rfl) (fun _ _ _ h => h) (Or.inl ⟨by rfl, ?y13z23⟩) hHeld ?r13z23
                  case y13z23 => (intro w hSw; (try dsimp only at hSw); go_simp) <;> with_reducible rfl
                  try simp only [Act.put, List.setIfInBounds_toArray, List.set_cons_zero, List.set_cons_succ]
                  refine wpAnyH_take (i := 14) (oi := { dst := some 61, op := Go.Op.move (Go.Operand.tmp 0), type := 3, pos := "ref.go:78", after := #[{ on := 13, ground := Go.Ground.guard }], guard := some (13, false) }) (v := undef) rfl (by kernel_rfl) (by kernel_rfl) (by kernel_rfl) (fun _ _ _ h => h) (Or.inr ⟨by rfl, rfl⟩) hHeld ?_
                  try simp only [Act.put, List.setIfInBounds_toArray, List.set_cons_zero, List.set_cons_succ]
                  refine wpAnyH_take (i := 15) (oi := { dst := some 62, op := Go.Op.load 25 (Go.Operand.tmp 11), type := 25, pos := "ref.go:78", after := #[{ on := 13, ground := Go.Ground.guard }], guard := some (13, false) }) (v := undef) rfl (by kernel_rfl) (by kernel_rfl) (by kernel_rfl) (fun _ _ _ h => h) (Or.inr ⟨by rfl, rfl⟩) hHeld ?_
                  try simp only [Act.put, List.setIfInBounds_toArray, List.set_cons_zero, List.set_cons_succ]
                  refine wpAnyH_take (i := 16) (oi := { dst := some 63, op := Go.Op.load 25 (Go.Operand.tmp 13), type := 25, pos := "ref.go:78", after := #[{ on := 13, ground := Go.Ground.guard }], guard := some (13, false) }) (v := undef) rfl (by kernel_rfl) (by kernel_rfl) (by kernel_rfl) (fun _ _ _ h => h) (Or.inr ⟨by rfl, rfl⟩) hHeld ?_
                  try simp only [Act.put, List.setIfInBounds_toArray, List.set_cons_zero, List.set_cons_succ]
                  refine wpAnyH_take (i := 17) (oi := { dst := some 64, op := Go.Op.call { callee := Go.Callee.value (Go.Operand.func 65), args := #[Go.Operand.tmp 61, Go.Operand.tmp 62, Go.Operand.tmp 63], argTypes := #[3, 25, 25] }, type := 4, pos := "ref.go:78", after := #[{ on := 14, ground := Go.Ground.data }, { on := 15, ground := Go.Ground.data }, { on := 16, ground := Go.Ground.data }, { on := 13, ground := Go.Ground.chain }, { on := 13, ground := Go.Ground.guard }], guard := some (13, false) }) (v := undef) rfl (by kernel_rfl) (by kernel_rfl) (by kernel_rfl) (fun _ _ _ h => h) (Or.inr ⟨by rfl, rfl⟩) hHeld ?_
                  try simp only [Act.put, List.setIfInBounds_toArray, List.set_cons_zero, List.set_cons_succ]
                  refine wpAnyH_take (i := 18) (oi := { dst := some 65, op := Go.Op.unOp Go.UnOp.not 4 (Go.Operand.tmp 64), type := 4, pos := "ref.go:78", after := #[{ on := 17, ground := Go.Ground.data }, { on := 13, ground := Go.Ground.guard }], guard := some (13, false) }) (v := undef) rfl (by kernel_rfl) (by kernel_rfl) (by kernel_rfl) (fun _ _ _ h => h) (Or.inr ⟨by rfl, rfl⟩) hHeld ?_
                  try simp only [Act.put, List.setIfInBounds_toArray, List.set_cons_zero, List.set_cons_succ]
                  refine wpAnyH_take (i := 19) (oi := { dst := some 66, op := Go.Op.pick (Go.Operand.tmp 60) (Go.Operand.const (Go.Value.bool true)) (Go.Operand.tmp 65), type := 4, pos := "ref.go:78", after := #[{ on := 13, ground := Go.Ground.data }, { on := 18, ground := Go.Ground.data }], guard := none }) (v := ?v19z24) rfl (by kernel_rfl) (by kernel_rfl) (by kernel_rfl) (fun _ _ _ h => h) (Or.inl ⟨by rfl, ?y19z24⟩) hHeld ?r19z24
                  case y19z24 => (intro w hSw; (try dsimp only at hSw); go_simp) <;> with_reducible rfl
                  try simp only [Act.put, List.setIfInBounds_toArray, List.set_cons_zero, List.set_cons_succ]
                  refine wpAnyH_done (by kernel_rfl) ?_ _
                  have HR : Hid (R = none) := HS.out.trans (if_neg (fun h => HQ.out h.1))
                  have ZF := (b4.block _ ltz).trans Zr
                  have bF := bw.trans (b4.mono bw.size)
                  clear hHeld hcells HLi HCn b4'
                  have x0 : w4.cell? ⟨w.heap.size + 1, 0, none⟩ = some (.int .i64 0) := by rw [cell_of_row _ _ _ _ _ _ ZF]; rfl
                  have x1 : w4.cell? ⟨w.heap.size + 1, 1, none⟩ = some (.int .i64 0) := by rw [cell_of_row _ _ _ _ _ _ ZF]; rfl
                  have x2 : w4.cell? ⟨w.heap.size + 1, 2, none⟩ = some (.slice none 0 0) := by rw [cell_of_row _ _ _ _ _ _ ZF]; rfl
                  have x3 : w4.cell? ⟨w.heap.size + 1, 3, none⟩ = some (.int .i64 0) := by rw [cell_of_row _ _ _ _ _ _ ZF]; rfl
                  have x4 : w4.cell? ⟨w.heap.size + 1, 4, none⟩ = some (.slice none 0 0) := by rw [cell_of_row _ _ _ _ _ _ ZF]; rfl
                  have x5 : w4.cell? ⟨w.heap.size + 1, 5, none⟩ = some (.slice none 0 0) := by rw [cell_of_row _ _ _ _ _ _ ZF]; rfl
                  have f0 : w4.frozen? ⟨w.heap.size + 1, 0, none⟩ = false := frz_of ZF
                  have f1 : w4.frozen? ⟨w.heap.size + 1, 1, none⟩ = false := frz_of ZF
                  have f2 : w4.frozen? ⟨w.heap.size + 1, 2, none⟩ = false := frz_of ZF
                  have f3 : w4.frozen? ⟨w.heap.size + 1, 3, none⟩ = false := frz_of ZF
                  have f4 : w4.frozen? ⟨w.heap.size + 1, 4, none⟩ = false := frz_of ZF
                  have f5 : w4.frozen? ⟨w.heap.size + 1, 5, none⟩ = false := frz_of ZF
                  have hon : Only (w.heap.size + 1) w4 (((((((w4).setCell ⟨w.heap.size + 1, 0, none⟩ (.int .i64 0)).setCell ⟨w.heap.size + 1, 1, none⟩ (.int .i64 0)).setCell ⟨w.heap.size + 1, 2, none⟩ (.slice none 0 0)).setCell ⟨w.heap.size + 1, 3, none⟩ (.int .i64 0)).setCell ⟨w.heap.size + 1, 4, none⟩ (.slice none 0 0)).setCell ⟨w.heap.size + 1, 5, none⟩ (.slice none 0 0)) := ((((((Only.refl _ _).setCell 0 _).setCell 1 _).setCell 2 _).setCell 3 _).setCell 4 _).setCell 5 _
                  have bf : Below w.heap.size w (((((((w4).setCell ⟨w.heap.size + 1, 0, none⟩ (.int .i64 0)).setCell ⟨w.heap.size + 1, 1, none⟩ (.int .i64 0)).setCell ⟨w.heap.size + 1, 2, none⟩ (.slice none 0 0)).setCell ⟨w.heap.size + 1, 3, none⟩ (.int .i64 0)).setCell ⟨w.heap.size + 1, 4, none⟩ (.slice none 0 0)).setCell ⟨w.heap.size + 1, 5, none⟩ (.slice none 0 0)) := bF.trans (hon.below (by omega))
                  clear hon ZF bF b4
                  go_wp2
                  refine bodyPost_ret (v := .tuple #[.agg #[.int .i64 0, .int .i64 0, .slice none 0 0, .int .i64 0, .slice none 0 0, .slice none 0 0], .bool false]) ?_ rfl ?_
                  · simp only [results, Tryd.results35]
                    go_simp
                  · exact ⟨fun _ => rfl, fun r h => (by rw [HR.out] at h; cases h), bf⟩
              | false =>
                refine hK.out _ _ ?_ (fun _ => ?_)
                · exact hHeld
                clear hK K
                try simp only [Act.put, List.setIfInBounds_toArray, List.set_cons_zero, List.set_cons_succ]
                refine wpAnyH_take (i := 3) (oi := { dst := some 50, op := Go.Op.unOp Go.UnOp.not 4 (Go.Operand.tmp 49), type := 4, pos := "ref.go:78", after := #[{ on := 2, ground := Go.Ground.data }], guard := none }) (v := ?v3z25) rfl (by kernel_rfl) (by kernel_rfl) (by kernel_rfl) (fun _ _ _ h => h) (Or.inl ⟨by rfl, ?y3z25⟩) hHeld ?r3z25
                case y3z25 => (intro w hSw; (try dsimp only at hSw); go_simp) <;> with_reducible rfl
                try simp only [Act.put, List.setIfInBounds_toArray, List.set_cons_zero, List.set_cons_succ]
                refine wpAnyH_take (i := 4) (oi := { dst := some 51, op := Go.Op.move (Go.Operand.tmp 50), type := 4, pos := "ref.go:78", after := #[{ on := 3, ground := Go.Ground.data }, { on := 2, ground := Go.Ground.chain }], guard := none }) (v := ?v4z26) rfl (by kernel_rfl) (by kernel_rfl) (by kernel_rfl) (fun _ _ _ h => h) (Or.inl ⟨by rfl, ?y4z26⟩) hHeld ?r4z26
                case y4z26 => (intro w hSw; (try dsimp only at hSw); go_simp) <;> with_reducible rfl
                try simp only [Act.put, List.setIfInBounds_toArray, List.set_cons_zero, List.set_cons_succ]
                refine wpAnyH_take (i := 5) (oi := { dst := some 52, op := Go.Op.fieldAddr 25 (Go.Operand.tmp 13) 0, type := 0, pos := "ref.go:78", after := #[{ on := 4, ground := Go.Ground.guard }], guard := some (4, false) }) (v := undef) rfl (by kernel_rfl) (by kernel_rfl) (by kernel_rfl) (fun _ _ _ h => h) (Or.inr ⟨by rfl, rfl⟩) hHeld ?_
                try simp only [Act.put, List.setIfInBounds_toArray, List.set_cons_zero, List.set_cons_succ]
                refine wpAnyH_take (i := 6) (oi := { dst := some 53, op := Go.Op.load 3 (Go.Operand.tmp 52), type := 3, pos := "ref.go:78", after := #[{ on := 5, ground := Go.Ground.data }, { on := 4, ground := Go.Ground.guard }], guard := some (4, false) }) (v := undef) rfl (by kernel_rfl) (by kernel_rfl) (by kernel_rfl) (fun _ _ _ h => h) (Or.inr ⟨by rfl, rfl⟩) hHeld ?_
                try simp only [Act.put, List.setIfInBounds_toArray, List.set_cons_zero, List.set_cons_succ]
                refine wpAnyH_take (i := 7) (oi := { dst := some 54, op := Go.Op.move (Go.Operand.tmp 10), type := 48, pos := "ref.go:78", after := #[{ on := 4, ground := Go.Ground.guard }], guard := some (4, false) }) (v := undef) rfl (by kernel_rfl) (by kernel_rfl) (by kernel_rfl) (fun _ _ _ h => h) (Or.inr ⟨by rfl, rfl⟩) hHeld ?_
                try simp only [Act.put, List.setIfInBounds_toArray, List.set_cons_zero, List.set_cons_succ]
                refine wpAnyH_take (i := 8) (oi := { dst := some 55, op := Go.Op.move (Go.Operand.tmp 12), type := 3, pos := "ref.go:78", after := #[{ on := 4, ground := Go.Ground.guard }], guard := some (4, false) }) (v := undef) rfl (by kernel_rfl) (by kernel_rfl) (by kernel_rfl) (fun _ _ _ h => h) (Or.inr ⟨by rfl, rfl⟩) hHeld ?_
                try simp only [Act.put, List.setIfInBounds_toArray, List.set_cons_zero, List.set_cons_succ]
                refine wpAnyH_take (i := 9) (oi := { dst := some 56, op := Go.Op.indexAddr 48 (Go.Operand.tmp 54) (Go.Operand.tmp 55), type := 0, pos := "ref.go:78", after := #[{ on := 7, ground := Go.Ground.data }, { on := 8, ground := Go.Ground.data }, { on := 4, ground := Go.Ground.guard }], guard := some (4, false) }) (v := undef) rfl (by kernel_rfl) (by kernel_rfl) (by kernel_rfl) (fun _ _ _ h => h) (Or.inr ⟨by rfl, rfl⟩) hHeld ?_
                try simp only [Act.put, List.setIfInBounds_toArray, List.set_cons_zero, List.set_cons_succ]
                refine wpAnyH_take (i := 10) (oi := { dst := some 57, op := Go.Op.load 3 (Go.Operand.tmp 56), type := 3, pos := "ref.go:78", after := #[{ on := 9, ground := Go.Ground.data }, { on := 4, ground := Go.Ground.guard }], guard := some (4, false) }) (v := undef) rfl (by kernel_rfl) (by kernel_rfl) (by kernel_rfl) (fun _ _ _ h => h) (Or.inr ⟨by rfl, rfl⟩) hHeld ?_
                try simp only [Act.put, List.setIfInBounds_toArray, List.set_cons_zero, List.set_cons_succ]
                refine wpAnyH_take (i := 11) (oi := { dst := some 58, op := Go.Op.binOp Go.BinOp.neq 3 (Go.Operand.tmp 53) (Go.Operand.tmp 57) 3, type := 4, pos := "ref.go:78", after := #[{ on := 6, ground := Go.Ground.data }, { on := 10, ground := Go.Ground.data }, { on := 4, ground := Go.Ground.guard }], guard := some (4, false) }) (v := undef) rfl (by kernel_rfl) (by kernel_rfl) (by kernel_rfl) (fun _ _ _ h => h) (Or.inr ⟨by rfl, rfl⟩) hHeld ?_
                try simp only [Act.put, List.setIfInBounds_toArray, List.set_cons_zero, List.set_cons_succ]
                refine wpAnyH_take (i := 12) (oi := { dst := some 59, op := Go.Op.pick (Go.Operand.tmp 51) (Go.Operand.const (Go.Value.bool true)) (Go.Operand.tmp 58), type := 4, pos := "ref.go:78", after := #[{ on := 4, ground := Go.Ground.data }, { on := 11, ground := Go.Ground.data }], guard := none }) (v := ?v12z27) rfl (by kernel_rfl) (by kernel_rfl) (by kernel_rfl) (fun _ _ _ h => h) (Or.inl ⟨by rfl, ?y12z27⟩) hHeld ?r12z27
                case y12z27 => (intro w hSw; (try dsimp only at hSw); go_simp) <;> with_reducible rfl
                try simp only [Act.put, List.setIfInBounds_toArray, List.set_cons_zero, List.set_cons_succ]
                refine wpAnyH_take (i := 13) (oi := { dst := some 60, op := Go.Op.move (Go.Operand.tmp 59), type := 4, pos := "ref.go:78", after := #[{ on := 12, ground := Go.Ground.data }, { on := 4, ground := Go.Ground.chain }], guard := none }) (v := ?v13z28) rfl (by kernel_rfl) (by kernel_rfl) (by kernel_rfl) (fun _ _ _ h => h) (Or.inl ⟨by rfl, ?y13z28⟩) hHeld ?r13z28
                case y13z28 => (intro w hSw; (try dsimp only at hSw); go_simp) <;> with_reducible rfl
                try simp only [Act.put, List.setIfInBounds_toArray, List.set_cons_zero, List.set_cons_succ]
                refine wpAnyH_take (i := 14) (oi := { dst := some 61, op := Go.Op.move (Go.Operand.tmp 0), type := 3, pos := "ref.go:78", after := #[{ on := 13, ground := Go.Ground.guard }], guard := some (13, false) }) (v := undef) rfl (by kernel_rfl) (by kernel_rfl) (by kernel_rfl) (fun _ _ _ h => h) (Or.inr ⟨by rfl, rfl⟩) hHeld ?_
                try simp only [Act.put, List.setIfInBounds_toArray, List.set_cons_zero, List.set_cons_succ]
                refine wpAnyH_take (i := 15) (oi := { dst := some 62, op := Go.Op.load 25 (Go.Operand.tmp 11), type := 25, pos := "ref.go:78", after := #[{ on := 13, ground := Go.Ground.guard }], guard := some (13, false) }) (v := undef) rfl (by kernel_rfl) (by kernel_rfl) (by kernel_rfl) (fun _ _ _ h => h) (Or.inr ⟨by rfl, rfl⟩) hHeld ?_
                try simp only [Act.put, List.setIfInBounds_toArray, List.set_cons_zero, List.set_cons_succ]
                refine wpAnyH_take (i := 16) (oi := { dst := some 63, op := Go.Op.load 25 (Go.Operand.tmp 13), type := 25, pos := "ref.go:78", after := #[{ on := 13, ground := Go.Ground.guard }], guard := some (13, false) }) (v := undef) rfl (by kernel_rfl) (by kernel_rfl) (by kernel_rfl) (fun _ _ _ h => h) (Or.inr ⟨by rfl, rfl⟩) hHeld ?_
                try simp only [Act.put, List.setIfInBounds_toArray, List.set_cons_zero, List.set_cons_succ]
                refine wpAnyH_take (i := 17) (oi := { dst := some 64, op := Go.Op.call { callee := Go.Callee.value (Go.Operand.func 65), args := #[Go.Operand.tmp 61, Go.Operand.tmp 62, Go.Operand.tmp 63], argTypes := #[3, 25, 25] }, type := 4, pos := "ref.go:78", after := #[{ on := 14, ground := Go.Ground.data }, { on := 15, ground := Go.Ground.data }, { on := 16, ground := Go.Ground.data }, { on := 13, ground := Go.Ground.chain }, { on := 13, ground := Go.Ground.guard }], guard := some (13, false) }) (v := undef) rfl (by kernel_rfl) (by kernel_rfl) (by kernel_rfl) (fun _ _ _ h => h) (Or.inr ⟨by rfl, rfl⟩) hHeld ?_
                try simp only [Act.put, List.setIfInBounds_toArray, List.set_cons_zero, List.set_cons_succ]
                refine wpAnyH_take (i := 18) (oi := { dst := some 65, op := Go.Op.unOp Go.UnOp.not 4 (Go.Operand.tmp 64), type := 4, pos := "ref.go:78", after := #[{ on := 17, ground := Go.Ground.data }, { on := 13, ground := Go.Ground.guard }], guard := some (13, false) }) (v := undef) rfl (by kernel_rfl) (by kernel_rfl) (by kernel_rfl) (fun _ _ _ h => h) (Or.inr ⟨by rfl, rfl⟩) hHeld ?_
                try simp only [Act.put, List.setIfInBounds_toArray, List.set_cons_zero, List.set_cons_succ]
                refine wpAnyH_take (i := 19) (oi := { dst := some 66, op := Go.Op.pick (Go.Operand.tmp 60) (Go.Operand.const (Go.Value.bool true)) (Go.Operand.tmp 65), type := 4, pos := "ref.go:78", after := #[{ on := 13, ground := Go.Ground.data }, { on := 18, ground := Go.Ground.data }], guard := none }) (v := ?v19z29) rfl (by kernel_rfl) (by kernel_rfl) (by kernel_rfl) (fun _ _ _ h => h) (Or.inl ⟨by rfl, ?y19z29⟩) hHeld ?r19z29
                case y19z29 => (intro w hSw; (try dsimp only at hSw); go_simp) <;> with_reducible rfl
                try simp only [Act.put, List.setIfInBounds_toArray, List.set_cons_zero, List.set_cons_succ]
                refine wpAnyH_done (by kernel_rfl) ?_ _
                have HR : Hid (R = none) := HS.out.trans (if_neg (fun h => by have := h.2; simp at this))
                have ZF := (b4.block _ ltz).trans Zr
                have bF := bw.trans (b4.mono bw.size)
                clear hHeld hcells HLi HCn b4'
                have x0 : w4.cell? ⟨w.heap.size + 1, 0, none⟩ = some (.int .i64 0) := by rw [cell_of_row _ _ _ _ _ _ ZF]; rfl
                have x1 : w4.cell? ⟨w.heap.size + 1, 1, none⟩ = some (.int .i64 0) := by rw [cell_of_row _ _ _ _ _ _ ZF]; rfl
                have x2 : w4.cell? ⟨w.heap.size + 1, 2, none⟩ = some (.slice none 0 0) := by rw [cell_of_row _ _ _ _ _ _ ZF]; rfl
                have x3 : w4.cell? ⟨w.heap.size + 1, 3, none⟩ = some (.int .i64 0) := by rw [cell_of_row _ _ _ _ _ _ ZF]; rfl
                have x4 : w4.cell? ⟨w.heap.size + 1, 4, none⟩ = some (.slice none 0 0) := by rw [cell_of_row _ _ _ _ _ _ ZF]; rfl
                have x5 : w4.cell? ⟨w.heap.size + 1, 5, none⟩ = some (.slice none 0 0) := by rw [cell_of_row _ _ _ _ _ _ ZF]; rfl
                have f0 : w4.frozen? ⟨w.heap.size + 1, 0, none⟩ = false := frz_of ZF
                have f1 : w4.frozen? ⟨w.heap.size + 1, 1, none⟩ = false := frz_of ZF
                have f2 : w4.frozen? ⟨w.heap.size + 1, 2, none⟩ = false := frz_of ZF
                have f3 : w4.frozen? ⟨w.heap.size + 1, 3, none⟩ = false := frz_of ZF
                have f4 : w4.frozen? ⟨w.heap.size + 1, 4, none⟩ = false := frz_of ZF
                have f5 : w4.frozen? ⟨w.heap.size + 1, 5, none⟩ = false := frz_of ZF
                have hon : Only (w.heap.size + 1) w4 (((((((w4).setCell ⟨w.heap.size + 1, 0, none⟩ (.int .i64 0)).setCell ⟨w.heap.size + 1, 1, none⟩ (.int .i64 0)).setCell ⟨w.heap.size + 1, 2, none⟩ (.slice none 0 0)).setCell ⟨w.heap.size + 1, 3, none⟩ (.int .i64 0)).setCell ⟨w.heap.size + 1, 4, none⟩ (.slice none 0 0)).setCell ⟨w.heap.size + 1, 5, none⟩ (.slice none 0 0)) := ((((((Only.refl _ _).setCell 0 _).setCell 1 _).setCell 2 _).setCell 3 _).setCell 4 _).setCell 5 _
                have bf : Below w.heap.size w (((((((w4).setCell ⟨w.heap.size + 1, 0, none⟩ (.int .i64 0)).setCell ⟨w.heap.size + 1, 1, none⟩ (.int .i64 0)).setCell ⟨w.heap.size + 1, 2, none⟩ (.slice none 0 0)).setCell ⟨w.heap.size + 1, 3, none⟩ (.int .i64 0)).setCell ⟨w.heap.size + 1, 4, none⟩ (.slice none 0 0)).setCell ⟨w.heap.size + 1, 5, none⟩ (.slice none 0 0)) := bF.trans (hon.below (by omega))
                clear hon ZF bF b4
                go_wp2
                refine bodyPost_ret (v := .tuple #[.agg #[.int .i64 0, .int .i64 0, .slice none 0 0, .int .i64 0, .slice none 0 0, .slice none 0 0], .bool false]) ?_ rfl ?_
                · simp only [results, Tryd.results35]
                  go_simp
                · exact ⟨fun _ => rfl, fun r h => (by rw [HR.out] at h; cases h), bf⟩
            · have HRs : Hid (R = some last) := by
                have := HFk.out
                rw [List.drop_eq_nil_of_le (by have := HL.out; omega), List.drop_eq_nil_of_le (by have := HL.out; omega)] at this
                exact this.symm
              have d0 : wr.cell? ⟨w3.heap.size, 0, none⟩ = some (.int .i64 last.e) := by rw [cell_of_row _ _ _ _ _ _ GL]; rfl
              have d1 : wr.cell? ⟨w3.heap.size, 1, none⟩ = some (.int .i64 last.t) := by rw [cell_of_row _ _ _ _ _ _ GL]; rfl
              have d2 : wr.cell? ⟨w3.heap.size, 2, none⟩ = some (.slice ltp last.tr.length ltc) := by rw [cell_of_row _ _ _ _ _ _ GL]; rfl
              have d3 : wr.cell? ⟨w3.heap.size, 3, none⟩ = some (.int .i64 last.c) := by rw [cell_of_row _ _ _ _ _ _ GL]; rfl
              have d4 : wr.cell? ⟨w3.heap.size, 4, none⟩ = some (.slice llp last.li.length llc) := by rw [cell_of_row _ _ _ _ _ _ GL]; rfl
              have d5 : wr.cell? ⟨w3.heap.size, 5, none⟩ = some (.slice lkp last.lk.length lkc) := by rw [cell_of_row _ _ _ _ _ _ GL]; rfl
              clear HFk HCk HEk s9 s10 s11 s12
              have hltw : ¬ k < way.length := by have := HL.out; omega
              have Z6 := Zr
              have bw6 := bw
              have x0 : wr.cell? ⟨w.heap.size + 1, 0, none⟩ = some (.int .i64 0) := by rw [cell_of_row _ _ _ _ _ _ Z6]; rfl
              have x1 : wr.cell? ⟨w.heap.size + 1, 1, none⟩ = some (.int .i64 0) := by rw [cell_of_row _ _ _ _ _ _ Z6]; rfl
              have x2 : wr.cell? ⟨w.heap.size + 1, 2, none⟩ = some (.slice none 0 0) := by rw [cell_of_row _ _ _ _ _ _ Z6]; rfl
              have x3 : wr.cell? ⟨w.heap.size + 1, 3, none⟩ = some (.int .i64 0) := by rw [cell_of_row _ _ _ _ _ _ Z6]; rfl
              have x4 : wr.cell? ⟨w.heap.size + 1, 4, none⟩ = some (.slice none 0 0) := by rw [cell_of_row _ _ _ _ _ _ Z6]; rfl
              have x5 : wr.cell? ⟨w.heap.size + 1, 5, none⟩ = some (.slice none 0 0) := by rw [cell_of_row _ _ _ _ _ _ Z6]; rfl
              have f0 : wr.frozen? ⟨w.heap.size + 1, 0, none⟩ = false := frz_of Z6
              have f1 : wr.frozen? ⟨w.heap.size + 1, 1, none⟩ = false := frz_of Z6
              have f2 : wr.frozen? ⟨w.heap.size + 1, 2, none⟩ = false := frz_of Z6
              have f3 : wr.frozen? ⟨w.heap.size + 1, 3, none⟩ = false := frz_of Z6
              have f4 : wr.frozen? ⟨w.heap.size + 1, 4, none⟩ = false := frz_of Z6
              have f5 : wr.frozen? ⟨w.heap.size + 1, 5, none⟩ = false := frz_of Z6
              have hon : Only (w.heap.size + 1) wr (((((((wr).setCell ⟨w.heap.size + 1, 0, none⟩ (.int .i64 last.e)).setCell ⟨w.heap.size + 1, 1, none⟩ (.int .i64 last.t)).setCell ⟨w.heap.size + 1, 2, none⟩ (.slice ltp last.tr.length ltc)).setCell ⟨w.heap.size + 1, 3, none⟩ (.int .i64 last.c)).setCell ⟨w.heap.size + 1, 4, none⟩ (.slice llp last.li.length llc)).setCell ⟨w.heap.size + 1, 5, none⟩ (.slice lkp last.lk.length lkc)) := ((((((Only.refl _ _).setCell 0 _).setCell 1 _).setCell 2 _).setCell 3 _).setCell 4 _).setCell 5 _
              have bf : Below w.heap.size w (((((((wr).setCell ⟨w.heap.size + 1, 0, none⟩ (.int .i64 last.e)).setCell ⟨w.heap.size + 1, 1, none⟩ (.int .i64 last.t)).setCell ⟨w.heap.size + 1, 2, none⟩ (.slice ltp last.tr.length ltc)).setCell ⟨w.heap.size + 1, 3, none⟩ (.int .i64 last.c)).setCell ⟨w.heap.size + 1, 4, none⟩ (.slice llp last.li.length llc)).setCell ⟨w.heap.size + 1, 5, none⟩ (.slice lkp last.lk.length lkc)) := bw6.trans (hon.below (by omega))
              have v1 := q1.later bf
              have v2 := q2.later bf
              have v3 := q3'.later bf
              clear hon Z6 bw6 q1 q2 q3'
              go_wp2
              refine bodyPost_ret (v := .tuple #[.agg #[.int .i64 last.e, .int .i64 last.t, .slice ltp last.tr.length ltc, .int .i64 last.c, .slice llp last.li.length llc, .slice lkp last.lk.length lkc], .bool true]) ?_ rfl ?_
              · simp only [results, Tryd.results35]
                go_simp
              · refine ⟨fun h => (by rw [HRs.out] at h; cases h), fun r h => ?_, bf⟩
                rw [HRs.out] at h
                cases h
                exact ⟨_, _, _, _, _, _, rfl, v1, v2, v3⟩
        · have e3 : ((E.length : Int) != (way.length : Int)) = true := by simp; omega
          have HR : Hid (R = none) := HF.out.trans (folP_len size way E hd hlen)
          clear hlen HF HE HCB
          have x0 : w3.cell? ⟨w.heap.size + 1, 0, none⟩ = some (.int .i64 0) := by rw [cell_of_row _ _ _ _ _ _ Z3]; rfl
          have x1 : w3.cell? ⟨w.heap.size + 1, 1, none⟩ = some (.int .i64 0) := by rw [cell_of_row _ _ _ _ _ _ Z3]; rfl
          have x2 : w3.cell? ⟨w.heap.size + 1, 2, none⟩ = some (.slice none 0 0) := by rw [cell_of_row _ _ _ _ _ _ Z3]; rfl
          have x3 : w3.cell? ⟨w.heap.size + 1, 3, none⟩ = some (.int .i64 0) := by rw [cell_of_row _ _ _ _ _ _ Z3]; rfl
          have x4 : w3.cell? ⟨w.heap.size + 1, 4, none⟩ = some (.slice none 0 0) := by rw [cell_of_row _ _ _ _ _ _ Z3]; rfl
          have x5 : w3.cell? ⟨w.heap.size + 1, 5, none⟩ = some (.slice none 0 0) := by rw [cell_of_row _ _ _ _ _ _ Z3]; rfl
          have f0 : w3.frozen? ⟨w.heap.size + 1, 0, none⟩ = false := frz_of Z3
          have f1 : w3.frozen? ⟨w.heap.size + 1, 1, none⟩ = false := frz_of Z3
          have f2 : w3.frozen? ⟨w.heap.size + 1, 2, none⟩ = false := frz_of Z3
          have f3 : w3.frozen? ⟨w.heap.size + 1, 3, none⟩ = false := frz_of Z3
          have f4 : w3.frozen? ⟨w.heap.size + 1, 4, none⟩ = false := frz_of Z3
          have f5 : w3.frozen? ⟨w.heap.size + 1, 5, none⟩ = false := frz_of Z3
          have hon : Only (w.heap.size + 1) w3 (((((((w3).setCell ⟨w.heap.size + 1, 0, none⟩ (.int .i64 0)).setCell ⟨w.heap.size + 1, 1, none⟩ (.int .i64 0)).setCell ⟨w.heap.size + 1, 2, none⟩ (.slice none 0 0)).setCell ⟨w.heap.size + 1, 3, none⟩ (.int .i64 0)).setCell ⟨w.heap.size + 1, 4, none⟩ (.slice none 0 0)).setCell ⟨w.heap.size + 1, 5, none⟩ (.slice none 0 0)) := ((((((Only.refl _ _).setCell 0 _).setCell 1 _).setCell 2 _).setCell 3 _).setCell 4 _).setCell 5 _
          have bf : Below w.heap.size w (((((((w3).setCell ⟨w.heap.size + 1, 0, none⟩ (.int .i64 0)).setCell ⟨w.heap.size + 1, 1, none⟩ (.int .i64 0)).setCell ⟨w.heap.size + 1, 2, none⟩ (.slice none 0 0)).setCell ⟨w.heap.size + 1, 3, none⟩ (.int .i64 0)).setCell ⟨w.heap.size + 1, 4, none⟩ (.slice none 0 0)).setCell ⟨w.heap.size + 1, 5, none⟩ (.slice none 0 0)) := bw3.trans (hon.below (by omega))
          clear hon bw3 Z3 G3
          go_wp2
          refine bodyPost_ret (v := .tuple #[.agg #[.int .i64 0, .int .i64 0, .slice none 0 0, .int .i64 0, .slice none 0 0, .slice none 0 0], .bool false]) ?_ rfl ?_
          · simp only [results, Tryd.results35]
            go_simp
          · exact ⟨fun _ => rfl, fun r h => (by rw [HR.out] at h; cases h), bf⟩

end Go.Proofs.YtgfddabccjfhiaaDoor
