/- What this text proves: the walk of skip.Follow over this program: the record at a way's end, if all on the way are linked. (By program: held.py, mkfollow.py.) -/
import Derived.Test.YtpndpmkoegmbkaaDoorJFc
import Derived.Test.YtpndpmkoegmbkaaDoorJFl
namespace Go.Proofs.YtpndpmkoegmbkaaDoor
open Go.RowKit

/-- What Follow answers. -/
def FolSaid (R : Option Rc) (w : World) (x : Ending) (w' : World) : Prop :=
  (R = none → x = .returned (.tuple #[.agg #[.int .i64 0, .int .i64 0, .slice none 0 0, .int .i64 0, .slice none 0 0, .slice none 0 0], .bool false])) ∧
  (∀ r, R = some r → ∃ tp tc lp lc kp kc, x = .returned (.tuple #[.agg #[.int .i64 r.e, .int .i64 r.t, .slice tp r.tr.length tc, .int .i64 r.c, .slice lp r.li.length lc, .slice kp r.lk.length kc], .bool true]) ∧ HB w' (.slice tp r.tr.length tc) r.tr ∧ HB w' (.slice lp r.li.length lc) r.li ∧ PA w' (.slice kp r.lk.length kc) r.lk) ∧ Below w.heap.size w w'

/-- What Follow answers, the answer's memory told by its types. -/
def FolT (R : Option Rc) (w : World) (x : Ending) (w' : World) : Prop :=
  (R = none → x = .returned (.tuple #[.agg #[.int .i64 0, .int .i64 0, .slice none 0 0, .int .i64 0, .slice none 0 0, .slice none 0 0], .bool false])) ∧
  (∀ r, R = some r → ∃ G tp tc lp lc kp kc, x = .returned (.tuple #[.agg #[.int .i64 r.e, .int .i64 r.t, .slice tp r.tr.length tc, .int .i64 r.c, .slice lp r.li.length lc, .slice kp r.lk.length kc], .bool true]) ∧ HBN w' G (.slice tp r.tr.length tc) r.tr ∧ HBN w' G (.slice lp r.li.length lc) r.li ∧ KR w' G (.slice kp r.lk.length kc) r.lk) ∧ Below w.heap.size w w'

theorem frz_of {w : World} {g k : Nat} {cs : Array Value} {t : TypeId} (h : w.heap[g]? = some (.cells cs t (0, 0))) : w.frozen? ⟨g, k, none⟩ = false := by simp [World.frozen?, h]

theorem set6 (w : World) (g : Nat) (T : TypeId) (a0 a1 a2 a3 a4 a5 b0 b1 b2 b3 b4 b5 : Value) (h : w.heap[g]? = some (.cells #[a0, a1, a2, a3, a4, a5] T (0, 0))) : ((((((w.setCell ⟨g, 0, none⟩ b0).setCell ⟨g, 1, none⟩ b1).setCell ⟨g, 2, none⟩ b2).setCell ⟨g, 3, none⟩ b3).setCell ⟨g, 4, none⟩ b4).setCell ⟨g, 5, none⟩ b5).heap[g]? = some (.cells #[b0, b1, b2, b3, b4, b5] T (0, 0)) := by
  have h0 := heap_setCell_same w g 0 _ _ b0 h
  have h1 := heap_setCell_same _ g 1 _ _ b1 h0
  have h2 := heap_setCell_same _ g 2 _ _ b2 h1
  have h3 := heap_setCell_same _ g 3 _ _ b3 h2
  have h4 := heap_setCell_same _ g 4 _ _ b4 h3
  have h5 := heap_setCell_same _ g 5 _ _ b5 h4
  rw [h5]
  rfl

theorem way_at (E : List Nat) (k ep a b : Nat) (ha : a < 9223372036854775808) (h : E[k]? = some ep) (hE : E.drop k = wayN a b) : ep ∈ linksL a ∧ b ≤ ep ∧ E.drop (k + 1) = wayN ep b := by
  obtain ⟨hk, e⟩ := List.getElem?_eq_some_iff.1 h
  rw [List.drop_eq_getElem_cons hk, e] at hE
  by_cases hab : b < a
  · rw [wayN_step a b ha hab, List.cons.injEq] at hE
    obtain ⟨h1, h2⟩ := hE
    have := nextN_mem a b hab
    rw [h1]
    exact ⟨this.1, this.2, by rw [h2]⟩
  · rw [wayN_at a b (by omega)] at hE
    cases hE

set_option maxRecDepth 100000 in
set_option maxHeartbeats 8000000 in
theorem followT_any (size : Int) (hd : Rc) (tv lv kv vv : Value) (way : List Rc) (to : Int) (w : World) (h1 : HB w tv hd.tr) (h2 : HB w lv hd.li) (h3 : PA w kv hd.lk) (hW : RA w vv way) (hTD : TD w) (hT : Tabs w) :
    Calls Tryd.prog 7 #[.int .i64 size, .agg #[.int .i64 hd.e, .int .i64 hd.t, tv, .int .i64 hd.c, lv, kv], vv, .int .i64 to] w (FolT (folR size hd way to) w) := by
  obtain ⟨htp, htc, rfl⟩ := h1.shape
  obtain ⟨hlp, hlc, rfl⟩ := h2.shape
  obtain ⟨hkp, hkc, rfl⟩ := h3.shape
  obtain ⟨vp, vc, rfl⟩ := hW.shape
  have hWl := hW.len
  unfold maxLen at hWl
  have bA := (Below.refl w.heap.size w).alloc (Nat.le_refl _) (.cells #[.int .i64 hd.e, .int .i64 hd.t, .slice htp hd.tr.length htc, .int .i64 hd.c, .slice hlp hd.li.length hlc, .slice hkp hd.lk.length hkc] 25)
  have gA := heap_alloc_new w (.cells #[.int .i64 hd.e, .int .i64 hd.t, .slice htp hd.tr.length htc, .int .i64 hd.c, .slice hlp hd.li.length hlc, .slice hkp hd.lk.length hkc] 25)
  have sA : (w.alloc (.cells #[.int .i64 hd.e, .int .i64 hd.t, .slice htp hd.tr.length htc, .int .i64 hd.c, .slice hlp hd.li.length hlc, .slice hkp hd.lk.length hkc] 25)).heap.size = w.heap.size + 1 := by simp
  have bB := (Below.refl (w.heap.size + 1) (w.alloc (.cells #[.int .i64 hd.e, .int .i64 hd.t, .slice htp hd.tr.length htc, .int .i64 hd.c, .slice hlp hd.li.length hlc, .slice hkp hd.lk.length hkc] 25))).alloc (by simp) (.cells #[.int .i64 0, .int .i64 0, .slice none 0 0, .int .i64 0, .slice none 0 0, .slice none 0 0] 25)
  have gB := heap_alloc_new (w.alloc (.cells #[.int .i64 hd.e, .int .i64 hd.t, .slice htp hd.tr.length htc, .int .i64 hd.c, .slice hlp hd.li.length hlc, .slice hkp hd.lk.length hkc] 25)) (.cells #[.int .i64 0, .int .i64 0, .slice none 0 0, .int .i64 0, .slice none 0 0, .slice none 0 0] 25)
  rw [sA] at gB
  have gC := (bB.block w.heap.size (by omega)).trans gA
  obtain ⟨X, hX⟩ : ∃ X, X = (w.alloc (.cells #[.int .i64 hd.e, .int .i64 hd.t, .slice htp hd.tr.length htc, .int .i64 hd.c, .slice hlp hd.li.length hlc, .slice hkp hd.lk.length hkc] 25)).alloc (.cells #[.int .i64 0, .int .i64 0, .slice none 0 0, .int .i64 0, .slice none 0 0, .slice none 0 0] 25) := ⟨_, rfl⟩
  rw [← hX] at bB gB gC
  have bX := bA.trans (bB.mono (by omega))
  have g0 : w.heap.size < X.heap.size := (Array.getElem?_eq_some_iff.1 gC).1
  have g1 : w.heap.size + 1 < X.heap.size := (Array.getElem?_eq_some_iff.1 gB).1
  have y0 : X.cell? ⟨w.heap.size, 0, none⟩ = some (.int .i64 hd.e) := by rw [cell_of_row _ _ _ _ _ _ gC]; rfl
  have y1 : X.cell? ⟨w.heap.size, 1, none⟩ = some (.int .i64 hd.t) := by rw [cell_of_row _ _ _ _ _ _ gC]; rfl
  have y2 : X.cell? ⟨w.heap.size, 2, none⟩ = some (.slice htp hd.tr.length htc) := by rw [cell_of_row _ _ _ _ _ _ gC]; rfl
  have y3 : X.cell? ⟨w.heap.size, 3, none⟩ = some (.int .i64 hd.c) := by rw [cell_of_row _ _ _ _ _ _ gC]; rfl
  have y4 : X.cell? ⟨w.heap.size, 4, none⟩ = some (.slice hlp hd.li.length hlc) := by rw [cell_of_row _ _ _ _ _ _ gC]; rfl
  have y5 : X.cell? ⟨w.heap.size, 5, none⟩ = some (.slice hkp hd.lk.length hkc) := by rw [cell_of_row _ _ _ _ _ _ gC]; rfl
  have hCan : Calls Tryd.prog 16 #[.int .i64 size, .agg #[.int .i64 hd.e, .int .i64 hd.t, .slice htp hd.tr.length htc, .int .i64 hd.c, .slice hlp hd.li.length hlc, .slice hkp hd.lk.length hkc]] X fun x w' => x = .returned (.bool (canB size hd)) ∧ Below X.heap.size X w' := can_any size hd.e hd.t hd.c _ _ _ hd.tr hd.li hd.lk X (h1.later bX) (h2.later bX) (h3.later bX) (hTD.later bX)
  have HF0 : Hid (canB size hd = false → folR size hd way to = none) := fun h => if_neg (fun q => by rw [h] at q; cases q.1)
  have HF1 : Hid (to < 0 → folR size hd way to = none) := fun h => if_neg (fun q => by omega)
  have HF2 : Hid (hd.e < to → folR size hd way to = none) := fun h => if_neg (fun q => by omega)
  have HF3 : Hid (canB size hd = true → 0 ≤ to → to ≤ hd.e → folR size hd way to = folP size hd way (wayI hd.e to)) := fun h1 h2 h3 => if_pos ⟨h1, h2, h3⟩
  generalize folR size hd way to = R at *
  obtain ⟨CB, hCB⟩ : ∃ CB, CB = canB size hd := ⟨_, rfl⟩
  have HCB : Hid (canB size hd = CB) := hCB.symm
  rw [← hCB] at hCan
  clear hCB bA gA sA bB
  go_enter Tryd.func7, Tryd.ntmps7
  go_wp2_with fail
  rw [← hX]
  refine hCan.mono ?_
  rintro x w2 ⟨rfl, b2⟩
  have G2 := (b2.block _ g0).trans gC
  have Z2 := (b2.block _ g1).trans gB
  have bw2 := bX.trans (b2.mono bX.size)
  have l2 : w.heap.size + 1 < w2.heap.size := (Array.getElem?_eq_some_iff.1 Z2).1
  have y0 : w2.cell? ⟨w.heap.size, 0, none⟩ = some (.int .i64 hd.e) := by rw [cell_of_row _ _ _ _ _ _ G2]; rfl
  clear hCan hX gB gC b2 bX g0 g1 y1 y2 y3 y4 y5
  cases CB with
  | false =>
    have HR : Hid (R = none) := HF0.out HCB.out
    clear HF0 HF1 HF2 HF3
    have x0 : w2.cell? ⟨w.heap.size + 1, 0, none⟩ = some (.int .i64 0) := by rw [cell_of_row _ _ _ _ _ _ Z2]; rfl
    have x1 : w2.cell? ⟨w.heap.size + 1, 1, none⟩ = some (.int .i64 0) := by rw [cell_of_row _ _ _ _ _ _ Z2]; rfl
    have x2 : w2.cell? ⟨w.heap.size + 1, 2, none⟩ = some (.slice none 0 0) := by rw [cell_of_row _ _ _ _ _ _ Z2]; rfl
    have x3 : w2.cell? ⟨w.heap.size + 1, 3, none⟩ = some (.int .i64 0) := by rw [cell_of_row _ _ _ _ _ _ Z2]; rfl
    have x4 : w2.cell? ⟨w.heap.size + 1, 4, none⟩ = some (.slice none 0 0) := by rw [cell_of_row _ _ _ _ _ _ Z2]; rfl
    have x5 : w2.cell? ⟨w.heap.size + 1, 5, none⟩ = some (.slice none 0 0) := by rw [cell_of_row _ _ _ _ _ _ Z2]; rfl
    have f0 : w2.frozen? ⟨w.heap.size + 1, 0, none⟩ = false := frz_of Z2
    have f1 : w2.frozen? ⟨w.heap.size + 1, 1, none⟩ = false := frz_of Z2
    have f2 : w2.frozen? ⟨w.heap.size + 1, 2, none⟩ = false := frz_of Z2
    have f3 : w2.frozen? ⟨w.heap.size + 1, 3, none⟩ = false := frz_of Z2
    have f4 : w2.frozen? ⟨w.heap.size + 1, 4, none⟩ = false := frz_of Z2
    have f5 : w2.frozen? ⟨w.heap.size + 1, 5, none⟩ = false := frz_of Z2
    have hon : Only (w.heap.size + 1) w2 (((((((w2).setCell ⟨w.heap.size + 1, 0, none⟩ (.int .i64 0)).setCell ⟨w.heap.size + 1, 1, none⟩ (.int .i64 0)).setCell ⟨w.heap.size + 1, 2, none⟩ (.slice none 0 0)).setCell ⟨w.heap.size + 1, 3, none⟩ (.int .i64 0)).setCell ⟨w.heap.size + 1, 4, none⟩ (.slice none 0 0)).setCell ⟨w.heap.size + 1, 5, none⟩ (.slice none 0 0)) := ((((((Only.refl _ _).setCell 0 _).setCell 1 _).setCell 2 _).setCell 3 _).setCell 4 _).setCell 5 _
    have bf : Below w.heap.size w (((((((w2).setCell ⟨w.heap.size + 1, 0, none⟩ (.int .i64 0)).setCell ⟨w.heap.size + 1, 1, none⟩ (.int .i64 0)).setCell ⟨w.heap.size + 1, 2, none⟩ (.slice none 0 0)).setCell ⟨w.heap.size + 1, 3, none⟩ (.int .i64 0)).setCell ⟨w.heap.size + 1, 4, none⟩ (.slice none 0 0)).setCell ⟨w.heap.size + 1, 5, none⟩ (.slice none 0 0)) := bw2.trans (hon.below (by omega))
    clear hon bw2 Z2 G2
    go_wp2
    refine bodyPost_ret (v := .tuple #[.agg #[.int .i64 0, .int .i64 0, .slice none 0 0, .int .i64 0, .slice none 0 0, .slice none 0 0], .bool false]) ?_ rfl ?_
    · simp only [results, Tryd.results7]
      go_simp
    · exact ⟨fun _ => rfl, fun r h => (by rw [HR.out] at h; cases h), bf⟩
  | true =>
    by_cases ht0 : to < 0
    · have HR : Hid (R = none) := HF1.out ht0
      clear HF0 HF1 HF2 HF3
      have x0 : w2.cell? ⟨w.heap.size + 1, 0, none⟩ = some (.int .i64 0) := by rw [cell_of_row _ _ _ _ _ _ Z2]; rfl
      have x1 : w2.cell? ⟨w.heap.size + 1, 1, none⟩ = some (.int .i64 0) := by rw [cell_of_row _ _ _ _ _ _ Z2]; rfl
      have x2 : w2.cell? ⟨w.heap.size + 1, 2, none⟩ = some (.slice none 0 0) := by rw [cell_of_row _ _ _ _ _ _ Z2]; rfl
      have x3 : w2.cell? ⟨w.heap.size + 1, 3, none⟩ = some (.int .i64 0) := by rw [cell_of_row _ _ _ _ _ _ Z2]; rfl
      have x4 : w2.cell? ⟨w.heap.size + 1, 4, none⟩ = some (.slice none 0 0) := by rw [cell_of_row _ _ _ _ _ _ Z2]; rfl
      have x5 : w2.cell? ⟨w.heap.size + 1, 5, none⟩ = some (.slice none 0 0) := by rw [cell_of_row _ _ _ _ _ _ Z2]; rfl
      have f0 : w2.frozen? ⟨w.heap.size + 1, 0, none⟩ = false := frz_of Z2
      have f1 : w2.frozen? ⟨w.heap.size + 1, 1, none⟩ = false := frz_of Z2
      have f2 : w2.frozen? ⟨w.heap.size + 1, 2, none⟩ = false := frz_of Z2
      have f3 : w2.frozen? ⟨w.heap.size + 1, 3, none⟩ = false := frz_of Z2
      have f4 : w2.frozen? ⟨w.heap.size + 1, 4, none⟩ = false := frz_of Z2
      have f5 : w2.frozen? ⟨w.heap.size + 1, 5, none⟩ = false := frz_of Z2
      have hon : Only (w.heap.size + 1) w2 (((((((w2).setCell ⟨w.heap.size + 1, 0, none⟩ (.int .i64 0)).setCell ⟨w.heap.size + 1, 1, none⟩ (.int .i64 0)).setCell ⟨w.heap.size + 1, 2, none⟩ (.slice none 0 0)).setCell ⟨w.heap.size + 1, 3, none⟩ (.int .i64 0)).setCell ⟨w.heap.size + 1, 4, none⟩ (.slice none 0 0)).setCell ⟨w.heap.size + 1, 5, none⟩ (.slice none 0 0)) := ((((((Only.refl _ _).setCell 0 _).setCell 1 _).setCell 2 _).setCell 3 _).setCell 4 _).setCell 5 _
      have bf : Below w.heap.size w (((((((w2).setCell ⟨w.heap.size + 1, 0, none⟩ (.int .i64 0)).setCell ⟨w.heap.size + 1, 1, none⟩ (.int .i64 0)).setCell ⟨w.heap.size + 1, 2, none⟩ (.slice none 0 0)).setCell ⟨w.heap.size + 1, 3, none⟩ (.int .i64 0)).setCell ⟨w.heap.size + 1, 4, none⟩ (.slice none 0 0)).setCell ⟨w.heap.size + 1, 5, none⟩ (.slice none 0 0)) := bw2.trans (hon.below (by omega))
      clear hon bw2 Z2 G2
      go_wp2
      refine bodyPost_ret (v := .tuple #[.agg #[.int .i64 0, .int .i64 0, .slice none 0 0, .int .i64 0, .slice none 0 0, .slice none 0 0], .bool false]) ?_ rfl ?_
      · simp only [results, Tryd.results7]
        go_simp
      · exact ⟨fun _ => rfl, fun r h => (by rw [HR.out] at h; cases h), bf⟩
    · by_cases ht1 : hd.e < to
      · have HR : Hid (R = none) := HF2.out ht1
        clear HF0 HF1 HF2 HF3
        have x0 : w2.cell? ⟨w.heap.size + 1, 0, none⟩ = some (.int .i64 0) := by rw [cell_of_row _ _ _ _ _ _ Z2]; rfl
        have x1 : w2.cell? ⟨w.heap.size + 1, 1, none⟩ = some (.int .i64 0) := by rw [cell_of_row _ _ _ _ _ _ Z2]; rfl
        have x2 : w2.cell? ⟨w.heap.size + 1, 2, none⟩ = some (.slice none 0 0) := by rw [cell_of_row _ _ _ _ _ _ Z2]; rfl
        have x3 : w2.cell? ⟨w.heap.size + 1, 3, none⟩ = some (.int .i64 0) := by rw [cell_of_row _ _ _ _ _ _ Z2]; rfl
        have x4 : w2.cell? ⟨w.heap.size + 1, 4, none⟩ = some (.slice none 0 0) := by rw [cell_of_row _ _ _ _ _ _ Z2]; rfl
        have x5 : w2.cell? ⟨w.heap.size + 1, 5, none⟩ = some (.slice none 0 0) := by rw [cell_of_row _ _ _ _ _ _ Z2]; rfl
        have f0 : w2.frozen? ⟨w.heap.size + 1, 0, none⟩ = false := frz_of Z2
        have f1 : w2.frozen? ⟨w.heap.size + 1, 1, none⟩ = false := frz_of Z2
        have f2 : w2.frozen? ⟨w.heap.size + 1, 2, none⟩ = false := frz_of Z2
        have f3 : w2.frozen? ⟨w.heap.size + 1, 3, none⟩ = false := frz_of Z2
        have f4 : w2.frozen? ⟨w.heap.size + 1, 4, none⟩ = false := frz_of Z2
        have f5 : w2.frozen? ⟨w.heap.size + 1, 5, none⟩ = false := frz_of Z2
        have hon : Only (w.heap.size + 1) w2 (((((((w2).setCell ⟨w.heap.size + 1, 0, none⟩ (.int .i64 0)).setCell ⟨w.heap.size + 1, 1, none⟩ (.int .i64 0)).setCell ⟨w.heap.size + 1, 2, none⟩ (.slice none 0 0)).setCell ⟨w.heap.size + 1, 3, none⟩ (.int .i64 0)).setCell ⟨w.heap.size + 1, 4, none⟩ (.slice none 0 0)).setCell ⟨w.heap.size + 1, 5, none⟩ (.slice none 0 0)) := ((((((Only.refl _ _).setCell 0 _).setCell 1 _).setCell 2 _).setCell 3 _).setCell 4 _).setCell 5 _
        have bf : Below w.heap.size w (((((((w2).setCell ⟨w.heap.size + 1, 0, none⟩ (.int .i64 0)).setCell ⟨w.heap.size + 1, 1, none⟩ (.int .i64 0)).setCell ⟨w.heap.size + 1, 2, none⟩ (.slice none 0 0)).setCell ⟨w.heap.size + 1, 3, none⟩ (.int .i64 0)).setCell ⟨w.heap.size + 1, 4, none⟩ (.slice none 0 0)).setCell ⟨w.heap.size + 1, 5, none⟩ (.slice none 0 0)) := bw2.trans (hon.below (by omega))
        clear hon bw2 Z2 G2
        go_wp2
        refine bodyPost_ret (v := .tuple #[.agg #[.int .i64 0, .int .i64 0, .slice none 0 0, .int .i64 0, .slice none 0 0, .slice none 0 0], .bool false]) ?_ rfl ?_
        · simp only [results, Tryd.results7]
          go_simp
        · exact ⟨fun _ => rfl, fun r h => (by rw [HR.out] at h; cases h), bf⟩
      · have HF : Hid (R = folP size hd way (wayI hd.e to)) := HF3.out HCB.out (by omega) (by omega)
        have q3 := ((canB_iff _ _).1 HCB.out).2.2.1
        have q4 := ((canB_iff _ _).1 HCB.out).2.2.2.1
        have HE : Hid (wayI hd.e to = wayN hd.e.toNat to.toNat) := by
          show wayI _ _ = _
          unfold wayI
          split
          · rw [wayN_at _ _ (by omega)]
          · rfl
        have hWay := way_any hd.e to w2 (hTD.later bw2)
        clear HF0 HF1 HF2 HF3
        generalize wayI hd.e to = E at *
        go_wp2_with fail
        refine hWay.mono ?_
        rintro x w3 ⟨v3, rfl, o3, b3⟩
        have i3 := IA.of_owns o3
        obtain ⟨p3, c3, rfl⟩ := i3.shape
        have hE3 := i3.len_le
        unfold maxLen at hE3
        have G3 := (b3.block _ (by omega)).trans G2
        have Z3 := (b3.block _ l2).trans Z2
        have bw3 := bw2.trans (b3.mono bw2.size)
        have l3 : w.heap.size + 1 < w3.heap.size := (Array.getElem?_eq_some_iff.1 Z3).1
        clear hWay o3 b3 G2 Z2 l2 bw2 y0
        by_cases hlen : way.length = E.length
        · have e3 : ((way.length : Int) != (E.length : Int)) = false := by simp; omega
          have HL : Hid (way.length = E.length) := hlen
          clear hlen
          have y0 : w3.cell? ⟨w.heap.size, 0, none⟩ = some (.int .i64 hd.e) := by rw [cell_of_row _ _ _ _ _ _ G3]; rfl
          have y1 : w3.cell? ⟨w.heap.size, 1, none⟩ = some (.int .i64 hd.t) := by rw [cell_of_row _ _ _ _ _ _ G3]; rfl
          have y2 : w3.cell? ⟨w.heap.size, 2, none⟩ = some (.slice htp hd.tr.length htc) := by rw [cell_of_row _ _ _ _ _ _ G3]; rfl
          have y3 : w3.cell? ⟨w.heap.size, 3, none⟩ = some (.int .i64 hd.c) := by rw [cell_of_row _ _ _ _ _ _ G3]; rfl
          have y4 : w3.cell? ⟨w.heap.size, 4, none⟩ = some (.slice hlp hd.li.length hlc) := by rw [cell_of_row _ _ _ _ _ _ G3]; rfl
          have y5 : w3.cell? ⟨w.heap.size, 5, none⟩ = some (.slice hkp hd.lk.length hkc) := by rw [cell_of_row _ _ _ _ _ _ G3]; rfl
          have GA := heap_alloc_new w3 (.cells #[.int .i64 hd.e, .int .i64 hd.t, .slice htp hd.tr.length htc, .int .i64 hd.c, .slice hlp hd.li.length hlc, .slice hkp hd.lk.length hkc] 25)
          have bA := (Below.refl w3.heap.size w3).alloc (Nat.le_refl _) (.cells #[.int .i64 hd.e, .int .i64 hd.t, .slice htp hd.tr.length htc, .int .i64 hd.c, .slice hlp hd.li.length hlc, .slice hkp hd.lk.length hkc] 25)
          have hq1 := h1.later bw3
          have hq2 := h2.later bw3
          have hq3 := h3.later bw3
          go_wp2
          go_loopw [42] (fun i wr => ∃ (k : Nat) (last : Rc) (ltp : Option Addr) (ltc : Nat) (llp : Option Addr) (llc : Nat) (lkp : Option Addr) (lkc : Nat), k ≤ E.length ∧ i = .int .i64 k ∧ wr.heap[w3.heap.size]? = some (.cells #[.int .i64 last.e, .int .i64 last.t, .slice ltp last.tr.length ltc, .int .i64 last.c, .slice llp last.li.length llc, .slice lkp last.lk.length lkc] 25 (0, 0)) ∧ HB w3 (.slice ltp last.tr.length ltc) last.tr ∧ HB w3 (.slice llp last.li.length llc) last.li ∧ PA w3 (.slice lkp last.lk.length lkc) last.lk ∧ Below w3.heap.size w3 wr ∧ Hid (folP size last (way.drop k) (E.drop k) = R) ∧ Hid (canB size last = true) ∧ Hid (to ≤ last.e ∧ E.drop k = wayN last.e.toNat to.toNat)) (fun i _ => E.length - (intOf i).toNat)
          case atStart => exact ⟨0, hd, htp, htc, hlp, hlc, hkp, hkc, Nat.zero_le _, rfl, GA, hq1, hq2, hq3, bA, HF.out.symm, HCB, ⟨by omega, HE.out⟩⟩
          case round =>
            clear GA bA hq1 hq2 hq3 HF HE HCB G3 y0 y1 y2 y3 y4 y5
            obtain ⟨k, last, ltp, ltc, llp, llc, lkp, lkc, hk, rfl, GL, q1, q2, q3', hbw, HFk, HCk, HEk⟩ := hrel
            have hsz := hbw.size
            obtain ⟨s1, s2, s3, s4, _, _, _, _, s9, s10, s11, s12⟩ := (canB_iff _ _).1 HCk.out
            have ltz : w.heap.size + 1 < wr.heap.size := by omega
            have Zr := (hbw.block _ l3).trans Z3
            have bw := bw3.trans (hbw.mono bw3.size)
            have ltg : w3.heap.size < wr.heap.size := (Array.getElem?_eq_some_iff.1 GL).1
            by_cases hlt : k < E.length
            · clear s9 s10 s11 s12
              have hltw : k < way.length := by have := HL.out; omega
              obtain ⟨eb, eo, rfl, fe⟩ := i3.addr (by omega)
              obtain ⟨ep, hep⟩ : ∃ ep, E[k]? = some ep := ⟨_, List.getElem?_eq_getElem hlt⟩
              have ce := cell_later hbw (fe k ep hep)
              have HWA : Hid (ep ∈ linksL last.e.toNat ∧ to.toNat ≤ ep ∧ E.drop (k + 1) = wayN ep to.toNat) := way_at E k ep _ _ (by omega) hep HEk.out.2
              have HEP : Hid (E[k]? = some ep) := hep
              clear hep fe
              obtain ⟨vb, vo, rfl⟩ := hW.addr (by omega)
              obtain ⟨r, rtp, rtc, rlp, rlc, rkp, rkc, HRK, hrc⟩ := hW.get k hltw
              have hrc3 := hrc.later bw3
              obtain ⟨⟨j0, j1, j2, j3, j4, j5⟩, n1, n2, n3⟩ := hrc3
              clear hrc
              have hlt2 : (k : Int) < (E.length : Int) := by omega
              have hlt3 : (k : Int) < (way.length : Int) := by omega
              have bD : Below wr.heap.size wr wr.drew := (Below.refl _ wr).drew
              have HLi : Hid (r.e = (ep : Int) → ∀ W, Below wr.heap.size wr W → Calls Tryd.prog 18 #[.int .i64 size, .agg #[.int .i64 last.e, .int .i64 last.t, .slice ltp last.tr.length ltc, .int .i64 last.c, .slice llp last.li.length llc, .slice lkp last.lk.length lkc], .agg #[.int .i64 r.e, .int .i64 r.t, .slice rtp r.tr.length rtc, .int .i64 r.c, .slice rlp r.li.length rlc, .slice rkp r.lk.length rkc]] W fun x w' => x = .returned (.bool (lkB size last r)) ∧ Below W.heap.size W w') := fun he W hB => linked_any size last r _ _ _ _ _ _ W ((q1.later hbw).later hB) ((q2.later hbw).later hB) ((q3'.later hbw).later hB) ((n1.later hbw).later hB) ((n2.later hbw).later hB) ((n3.later hbw).later hB) ((hTD.later bw).later hB) ((hT.later bw).later hB) HCk.out (by omega) (by rw [he, Int.toNat_natCast]; exact HWA.out.1)
              have HS : Hid (R = if r.e = (ep : Int) ∧ lkB size last r = true then folP size r (way.drop (k + 1)) (E.drop (k + 1)) else none) := HFk.out.symm.trans (folP_step size last r way E k ep HRK.out HEP.out)
              have HCR : Hid (lkB size last r = true → canB size r = true) := fun h => by
                unfold lkB at h
                rw [Bool.and_eq_true] at h
                exact h.1
              have HNx : Hid (r.e = (ep : Int) → to ≤ r.e ∧ E.drop (k + 1) = wayN r.e.toNat to.toNat) := fun he => by
                have := HWA.out
                rw [he, Int.toNat_natCast]
                exact ⟨by omega, this.2.2⟩
              generalize lkB size last r = LB at *
              have hcells : ∀ W, Below wr.heap.size wr W → W.cell? ⟨w3.heap.size, 0, none⟩ = some (.int .i64 last.e) ∧ W.cell? ⟨w3.heap.size, 1, none⟩ = some (.int .i64 last.t) ∧ W.cell? ⟨w3.heap.size, 2, none⟩ = some (.slice ltp last.tr.length ltc) ∧ W.cell? ⟨w3.heap.size, 3, none⟩ = some (.int .i64 last.c) ∧ W.cell? ⟨w3.heap.size, 4, none⟩ = some (.slice llp last.li.length llc) ∧ W.cell? ⟨w3.heap.size, 5, none⟩ = some (.slice lkp last.lk.length lkc) ∧ W.cell? ⟨vb, vo + k * 6, none⟩ = some (.int .i64 r.e) ∧ W.cell? ⟨vb, vo + k * 6 + 1, none⟩ = some (.int .i64 r.t) ∧ W.cell? ⟨vb, vo + k * 6 + 2, none⟩ = some (.slice rtp r.tr.length rtc) ∧ W.cell? ⟨vb, vo + k * 6 + 3, none⟩ = some (.int .i64 r.c) ∧ W.cell? ⟨vb, vo + k * 6 + 4, none⟩ = some (.slice rlp r.li.length rlc) ∧ W.cell? ⟨vb, vo + k * 6 + 5, none⟩ = some (.slice rkp r.lk.length rkc) := by
                intro W hB
                have GW := (hB.block _ ltg).trans GL
                have hj := hbw.trans (hB.mono hbw.size)
                refine ⟨?_, ?_, ?_, ?_, ?_, ?_, cell_later hj j0, cell_later hj j1, cell_later hj j2, cell_later hj j3, cell_later hj j4, cell_later hj j5⟩ <;> (rw [cell_of_row _ _ _ _ _ _ GW]; rfl)
              have hHeld := hcells _ bD
              clear HWA HEP HRK HFk HCk HEk j0 j1 j2 j3 j4 j5 q1 q2 q3' i3 hW h1 h2 h3 hTD hT
              go_wp2_with fail
              refine wp_region_heldN (by kernel_rfl) (fun W => W.cell? ⟨w3.heap.size, 0, none⟩ = some (.int .i64 last.e) ∧ W.cell? ⟨w3.heap.size, 1, none⟩ = some (.int .i64 last.t) ∧ W.cell? ⟨w3.heap.size, 2, none⟩ = some (.slice ltp last.tr.length ltc) ∧ W.cell? ⟨w3.heap.size, 3, none⟩ = some (.int .i64 last.c) ∧ W.cell? ⟨w3.heap.size, 4, none⟩ = some (.slice llp last.li.length llc) ∧ W.cell? ⟨w3.heap.size, 5, none⟩ = some (.slice lkp last.lk.length lkc) ∧ W.cell? ⟨vb, vo + k * 6, none⟩ = some (.int .i64 r.e) ∧ W.cell? ⟨vb, vo + k * 6 + 1, none⟩ = some (.int .i64 r.t) ∧ W.cell? ⟨vb, vo + k * 6 + 2, none⟩ = some (.slice rtp r.tr.length rtc) ∧ W.cell? ⟨vb, vo + k * 6 + 3, none⟩ = some (.int .i64 r.c) ∧ W.cell? ⟨vb, vo + k * 6 + 4, none⟩ = some (.slice rlp r.li.length rlc) ∧ W.cell? ⟨vb, vo + k * 6 + 5, none⟩ = some (.slice rkp r.lk.length rkc)) 17 rfl ?_
              refine tkY 0 ⟨some 47, .move (.tmp 2), 26, "skip.go:84", #[], none⟩ ?v0z1 hHeld ?y0z1 ?r0z1
              case y0z1 => (intro w hSw; (try dsimp only at hSw); go_simp) <;> with_reducible rfl
              try simp only [Act.put, List.setIfInBounds_toArray, List.set_cons_zero, List.set_cons_succ]
              refine tkY 1 ⟨some 48, .move (.tmp 12), 3, "skip.go:84", #[], none⟩ ?v1z2 hHeld ?y1z2 ?r1z2
              case y1z2 => (intro w hSw; (try dsimp only at hSw); go_simp) <;> with_reducible rfl
              try simp only [Act.put, List.setIfInBounds_toArray, List.set_cons_zero, List.set_cons_succ]
              refine tkY 2 ⟨some 49, .indexAddr 26 (.tmp 47) (.tmp 48), 0, "skip.go:84", #[⟨0, .data⟩, ⟨1, .data⟩], none⟩ ?v2z3 hHeld ?y2z3 ?r2z3
              case y2z3 => (intro w hSw; (try dsimp only at hSw); go_simp) <;> with_reducible rfl
              try simp only [Act.put, List.setIfInBounds_toArray, List.set_cons_zero, List.set_cons_succ]
              refine tkY 3 ⟨some 50, .fieldAddr 25 (.tmp 49) 0, 0, "skip.go:84", #[⟨2, .data⟩], none⟩ ?v3z4 hHeld ?y3z4 ?r3z4
              case y3z4 => (intro w hSw; (try dsimp only at hSw); go_simp) <;> with_reducible rfl
              try simp only [Act.put, List.setIfInBounds_toArray, List.set_cons_zero, List.set_cons_succ]
              refine tkY 4 ⟨some 51, .load 3 (.tmp 50), 3, "skip.go:84", #[⟨3, .data⟩], none⟩ ?v4z5 hHeld ?y4z5 ?r4z5
              case y4z5 => (intro w hSw; (try dsimp only at hSw); go_simp) <;> with_reducible rfl
              try simp only [Act.put, List.setIfInBounds_toArray, List.set_cons_zero, List.set_cons_succ]
              refine tkY 5 ⟨some 52, .move (.tmp 13), 3, "skip.go:84", #[], none⟩ ?v5z6 hHeld ?y5z6 ?r5z6
              case y5z6 => (intro w hSw; (try dsimp only at hSw); go_simp) <;> with_reducible rfl
              try simp only [Act.put, List.setIfInBounds_toArray, List.set_cons_zero, List.set_cons_succ]
              by_cases hc6 : r.e = (ep : Int)
              · have n6 : (r.e != (ep : Int)) = false := by simpa using hc6
                have HQ : Hid (r.e = (ep : Int)) := hc6
                clear hc6
                refine tkY 6 ⟨some 53, .binOp .neq 3 (.tmp 51) (.tmp 52) 3, 4, "skip.go:84", #[⟨4, .data⟩, ⟨5, .data⟩], none⟩ ?v6z7 hHeld ?y6z7 ?r6z7
                case y6z7 => (intro w hSw; (try dsimp only at hSw); go_simp) <;> with_reducible rfl
                try simp only [Act.put, List.setIfInBounds_toArray, List.set_cons_zero, List.set_cons_succ]
                refine tkY 7 ⟨some 54, .move (.tmp 53), 4, "skip.go:84", #[⟨6, .data⟩], none⟩ ?v7z8 hHeld ?y7z8 ?r7z8
                case y7z8 => (intro w hSw; (try dsimp only at hSw); go_simp) <;> with_reducible rfl
                try simp only [Act.put, List.setIfInBounds_toArray, List.set_cons_zero, List.set_cons_succ]
                refine tkY 8 ⟨some 55, .move (.tmp 0), 3, "skip.go:84", #[⟨7, .guard⟩], some (7, false)⟩ ?v8z9 hHeld ?y8z9 ?r8z9
                case y8z9 => (intro w hSw; (try dsimp only at hSw); go_simp) <;> with_reducible rfl
                try simp only [Act.put, List.setIfInBounds_toArray, List.set_cons_zero, List.set_cons_succ]
                refine tkY 9 ⟨some 56, .load 25 (.tmp 11), 25, "skip.go:84", #[⟨7, .guard⟩], some (7, false)⟩ ?v9z10 hHeld ?y9z10 ?r9z10
                case y9z10 => (intro w hSw; (try dsimp only at hSw); go_simp) <;> with_reducible rfl
                try simp only [Act.put, List.setIfInBounds_toArray, List.set_cons_zero, List.set_cons_succ]
                refine tkY 10 ⟨some 57, .move (.tmp 2), 26, "skip.go:84", #[⟨7, .guard⟩], some (7, false)⟩ ?v10z11 hHeld ?y10z11 ?r10z11
                case y10z11 => (intro w hSw; (try dsimp only at hSw); go_simp) <;> with_reducible rfl
                try simp only [Act.put, List.setIfInBounds_toArray, List.set_cons_zero, List.set_cons_succ]
                refine tkY 11 ⟨some 58, .move (.tmp 12), 3, "skip.go:84", #[⟨7, .guard⟩], some (7, false)⟩ ?v11z12 hHeld ?y11z12 ?r11z12
                case y11z12 => (intro w hSw; (try dsimp only at hSw); go_simp) <;> with_reducible rfl
                try simp only [Act.put, List.setIfInBounds_toArray, List.set_cons_zero, List.set_cons_succ]
                refine tkY 12 ⟨some 59, .indexAddr 26 (.tmp 57) (.tmp 58), 0, "skip.go:84", #[⟨10, .data⟩, ⟨11, .data⟩, ⟨7, .guard⟩], some (7, false)⟩ ?v12z13 hHeld ?y12z13 ?r12z13
                case y12z13 => (intro w hSw; (try dsimp only at hSw); go_simp) <;> with_reducible rfl
                try simp only [Act.put, List.setIfInBounds_toArray, List.set_cons_zero, List.set_cons_succ]
                refine tkY 13 ⟨some 60, .load 25 (.tmp 59), 25, "skip.go:84", #[⟨12, .data⟩, ⟨7, .guard⟩], some (7, false)⟩ ?v13z14 hHeld ?y13z14 ?r13z14
                case y13z14 => (intro w hSw; (try dsimp only at hSw); go_simp) <;> with_reducible rfl
                try simp only [Act.put, List.setIfInBounds_toArray, List.set_cons_zero, List.set_cons_succ]
                refine wpAnyH_ready (rs := [14]) (by kernel_rfl) (by simp) ?_
                refine AllReadyH.cons (o := ⟨some 61, .call { callee := .value (.func 18), args := #[.tmp 55, .tmp 56, .tmp 60], argTypes := #[3, 25, 25] }, 4, "skip.go:84", #[⟨8, .data⟩, ⟨9, .data⟩, ⟨13, .data⟩, ⟨7, .chain⟩, ⟨7, .guard⟩], some (7, false)⟩) rfl (fun K hK => ?_) AllReadyH.nil
                go_simp
                refine (HLi.out HQ.out _ bD).mono ?_
                rintro x w5 ⟨rfl, b5'⟩
                have b5 := bD.trans (b5'.mono bD.size)
                replace hHeld := hcells w5 b5
                cases LB with
                | true =>
                  refine hK.out _ _ ?_ (fun _ => ?_)
                  · exact hHeld
                  clear hK K
                  try simp only [Act.put, List.setIfInBounds_toArray, List.set_cons_zero, List.set_cons_succ]
                  refine tkY 15 ⟨some 62, .unOp .not 4 (.tmp 61), 4, "skip.go:84", #[⟨14, .data⟩, ⟨7, .guard⟩], some (7, false)⟩ ?v15z15 hHeld ?y15z15 ?r15z15
                  case y15z15 => (intro w hSw; (try dsimp only at hSw); go_simp) <;> with_reducible rfl
                  try simp only [Act.put, List.setIfInBounds_toArray, List.set_cons_zero, List.set_cons_succ]
                  refine tkY 16 ⟨some 63, .pick (.tmp 54) (.const (.bool true)) (.tmp 62), 4, "skip.go:84", #[⟨7, .data⟩, ⟨15, .data⟩], none⟩ ?v16z16 hHeld ?y16z16 ?r16z16
                  case y16z16 => (intro w hSw; (try dsimp only at hSw); go_simp) <;> with_reducible rfl
                  try simp only [Act.put, List.setIfInBounds_toArray, List.set_cons_zero, List.set_cons_succ]
                  refine wpAnyH_done (by kernel_rfl) ?_ _
                  have HR : Hid (folP size r (way.drop (k + 1)) (E.drop (k + 1)) = R) := (HS.out.trans (if_pos ⟨HQ.out, by trivial⟩)).symm
                  have HC5 : Hid (canB size r = true) := HCR.out (by trivial)
                  have HE5 : Hid (to ≤ r.e ∧ E.drop (k + 1) = wayN r.e.toNat to.toNat) := HNx.out HQ.out
                  have G5 := (b5.block _ ltg).trans GL
                  obtain ⟨d0, d1, d2, d3, d4, d5, e0, e1, e2, e3, e4, e5⟩ := hHeld
                  have f0 : w5.frozen? ⟨w3.heap.size, 0, none⟩ = false := frz_of G5
                  have f1 : w5.frozen? ⟨w3.heap.size, 1, none⟩ = false := frz_of G5
                  have f2 : w5.frozen? ⟨w3.heap.size, 2, none⟩ = false := frz_of G5
                  have f3 : w5.frozen? ⟨w3.heap.size, 3, none⟩ = false := frz_of G5
                  have f4 : w5.frozen? ⟨w3.heap.size, 4, none⟩ = false := frz_of G5
                  have f5 : w5.frozen? ⟨w3.heap.size, 5, none⟩ = false := frz_of G5
                  have hon : Only w3.heap.size w5 (((((((w5).setCell ⟨w3.heap.size, 0, none⟩ (.int .i64 r.e)).setCell ⟨w3.heap.size, 1, none⟩ (.int .i64 r.t)).setCell ⟨w3.heap.size, 2, none⟩ (.slice rtp r.tr.length rtc)).setCell ⟨w3.heap.size, 3, none⟩ (.int .i64 r.c)).setCell ⟨w3.heap.size, 4, none⟩ (.slice rlp r.li.length rlc)).setCell ⟨w3.heap.size, 5, none⟩ (.slice rkp r.lk.length rkc)) := ((((((Only.refl _ _).setCell 0 _).setCell 1 _).setCell 2 _).setCell 3 _).setCell 4 _).setCell 5 _
                  have G6 : (((((((w5).setCell ⟨w3.heap.size, 0, none⟩ (.int .i64 r.e)).setCell ⟨w3.heap.size, 1, none⟩ (.int .i64 r.t)).setCell ⟨w3.heap.size, 2, none⟩ (.slice rtp r.tr.length rtc)).setCell ⟨w3.heap.size, 3, none⟩ (.int .i64 r.c)).setCell ⟨w3.heap.size, 4, none⟩ (.slice rlp r.li.length rlc)).setCell ⟨w3.heap.size, 5, none⟩ (.slice rkp r.lk.length rkc)).heap[w3.heap.size]? = some (.cells #[.int .i64 r.e, .int .i64 r.t, .slice rtp r.tr.length rtc, .int .i64 r.c, .slice rlp r.li.length rlc, .slice rkp r.lk.length rkc] 25 (0, 0)) := set6 _ _ _ _ _ _ _ _ _ _ _ _ _ _ _ G5
                  have b6 : Below w3.heap.size w3 (((((((w5).setCell ⟨w3.heap.size, 0, none⟩ (.int .i64 r.e)).setCell ⟨w3.heap.size, 1, none⟩ (.int .i64 r.t)).setCell ⟨w3.heap.size, 2, none⟩ (.slice rtp r.tr.length rtc)).setCell ⟨w3.heap.size, 3, none⟩ (.int .i64 r.c)).setCell ⟨w3.heap.size, 4, none⟩ (.slice rlp r.li.length rlc)).setCell ⟨w3.heap.size, 5, none⟩ (.slice rkp r.lk.length rkc)) := (hbw.trans (b5.mono hbw.size)).trans (hon.below (Nat.le_refl _))
                  clear hcells HLi b5' hon G5 b5 HS HCR HNx HQ n6
                  go_wp2
                  go_roundw
                  case rel => first | exact ⟨k + 1, r, rtp, rtc, rlp, rlc, rkp, rkc, by omega, by go_num, G6, n1, n2, n3, b6, HR, HC5, HE5⟩ | ((repeat apply Exists.intro); exact ⟨⟨k + 1, r, rtp, rtc, rlp, rlc, rkp, rkc, by omega, by go_num, G6, n1, n2, n3, b6, HR, HC5, HE5⟩, rfl⟩)
                  case measure => simp [intOf]; omega
                | false =>
                  refine hK.out _ _ ?_ (fun _ => ?_)
                  · exact hHeld
                  clear hK K
                  try simp only [Act.put, List.setIfInBounds_toArray, List.set_cons_zero, List.set_cons_succ]
                  refine tkY 15 ⟨some 62, .unOp .not 4 (.tmp 61), 4, "skip.go:84", #[⟨14, .data⟩, ⟨7, .guard⟩], some (7, false)⟩ ?v15z17 hHeld ?y15z17 ?r15z17
                  case y15z17 => (intro w hSw; (try dsimp only at hSw); go_simp) <;> with_reducible rfl
                  try simp only [Act.put, List.setIfInBounds_toArray, List.set_cons_zero, List.set_cons_succ]
                  refine tkY 16 ⟨some 63, .pick (.tmp 54) (.const (.bool true)) (.tmp 62), 4, "skip.go:84", #[⟨7, .data⟩, ⟨15, .data⟩], none⟩ ?v16z18 hHeld ?y16z18 ?r16z18
                  case y16z18 => (intro w hSw; (try dsimp only at hSw); go_simp) <;> with_reducible rfl
                  try simp only [Act.put, List.setIfInBounds_toArray, List.set_cons_zero, List.set_cons_succ]
                  refine wpAnyH_done (by kernel_rfl) ?_ _
                  have HR : Hid (R = none) := HS.out.trans (if_neg (fun h => by have := h.2; simp at this))
                  have ZF := (b5.block _ ltz).trans Zr
                  have bF := bw.trans (b5.mono bw.size)
                  clear hHeld hcells HLi b5'
                  have x0 : w5.cell? ⟨w.heap.size + 1, 0, none⟩ = some (.int .i64 0) := by rw [cell_of_row _ _ _ _ _ _ ZF]; rfl
                  have x1 : w5.cell? ⟨w.heap.size + 1, 1, none⟩ = some (.int .i64 0) := by rw [cell_of_row _ _ _ _ _ _ ZF]; rfl
                  have x2 : w5.cell? ⟨w.heap.size + 1, 2, none⟩ = some (.slice none 0 0) := by rw [cell_of_row _ _ _ _ _ _ ZF]; rfl
                  have x3 : w5.cell? ⟨w.heap.size + 1, 3, none⟩ = some (.int .i64 0) := by rw [cell_of_row _ _ _ _ _ _ ZF]; rfl
                  have x4 : w5.cell? ⟨w.heap.size + 1, 4, none⟩ = some (.slice none 0 0) := by rw [cell_of_row _ _ _ _ _ _ ZF]; rfl
                  have x5 : w5.cell? ⟨w.heap.size + 1, 5, none⟩ = some (.slice none 0 0) := by rw [cell_of_row _ _ _ _ _ _ ZF]; rfl
                  have f0 : w5.frozen? ⟨w.heap.size + 1, 0, none⟩ = false := frz_of ZF
                  have f1 : w5.frozen? ⟨w.heap.size + 1, 1, none⟩ = false := frz_of ZF
                  have f2 : w5.frozen? ⟨w.heap.size + 1, 2, none⟩ = false := frz_of ZF
                  have f3 : w5.frozen? ⟨w.heap.size + 1, 3, none⟩ = false := frz_of ZF
                  have f4 : w5.frozen? ⟨w.heap.size + 1, 4, none⟩ = false := frz_of ZF
                  have f5 : w5.frozen? ⟨w.heap.size + 1, 5, none⟩ = false := frz_of ZF
                  have hon : Only (w.heap.size + 1) w5 (((((((w5).setCell ⟨w.heap.size + 1, 0, none⟩ (.int .i64 0)).setCell ⟨w.heap.size + 1, 1, none⟩ (.int .i64 0)).setCell ⟨w.heap.size + 1, 2, none⟩ (.slice none 0 0)).setCell ⟨w.heap.size + 1, 3, none⟩ (.int .i64 0)).setCell ⟨w.heap.size + 1, 4, none⟩ (.slice none 0 0)).setCell ⟨w.heap.size + 1, 5, none⟩ (.slice none 0 0)) := ((((((Only.refl _ _).setCell 0 _).setCell 1 _).setCell 2 _).setCell 3 _).setCell 4 _).setCell 5 _
                  have bf : Below w.heap.size w (((((((w5).setCell ⟨w.heap.size + 1, 0, none⟩ (.int .i64 0)).setCell ⟨w.heap.size + 1, 1, none⟩ (.int .i64 0)).setCell ⟨w.heap.size + 1, 2, none⟩ (.slice none 0 0)).setCell ⟨w.heap.size + 1, 3, none⟩ (.int .i64 0)).setCell ⟨w.heap.size + 1, 4, none⟩ (.slice none 0 0)).setCell ⟨w.heap.size + 1, 5, none⟩ (.slice none 0 0)) := bF.trans (hon.below (by omega))
                  clear hon ZF bF b5
                  go_wp2
                  refine bodyPost_ret (v := .tuple #[.agg #[.int .i64 0, .int .i64 0, .slice none 0 0, .int .i64 0, .slice none 0 0, .slice none 0 0], .bool false]) ?_ rfl ?_
                  · simp only [results, Tryd.results7]
                    go_simp
                  · exact ⟨fun _ => rfl, fun r h => (by rw [HR.out] at h; cases h), bf⟩
              · have n6 : (r.e != (ep : Int)) = true := by simpa using hc6
                have HQ : Hid (¬ r.e = (ep : Int)) := hc6
                clear hc6
                refine tkY 6 ⟨some 53, .binOp .neq 3 (.tmp 51) (.tmp 52) 3, 4, "skip.go:84", #[⟨4, .data⟩, ⟨5, .data⟩], none⟩ ?v6z19 hHeld ?y6z19 ?r6z19
                case y6z19 => (intro w hSw; (try dsimp only at hSw); go_simp) <;> with_reducible rfl
                try simp only [Act.put, List.setIfInBounds_toArray, List.set_cons_zero, List.set_cons_succ]
                refine tkY 7 ⟨some 54, .move (.tmp 53), 4, "skip.go:84", #[⟨6, .data⟩], none⟩ ?v7z20 hHeld ?y7z20 ?r7z20
                case y7z20 => (intro w hSw; (try dsimp only at hSw); go_simp) <;> with_reducible rfl
                try simp only [Act.put, List.setIfInBounds_toArray, List.set_cons_zero, List.set_cons_succ]
                refine tkN 8 ⟨some 55, .move (.tmp 0), 3, "skip.go:84", #[⟨7, .guard⟩], some (7, false)⟩ hHeld ?_
                try simp only [Act.put, List.setIfInBounds_toArray, List.set_cons_zero, List.set_cons_succ]
                refine tkN 9 ⟨some 56, .load 25 (.tmp 11), 25, "skip.go:84", #[⟨7, .guard⟩], some (7, false)⟩ hHeld ?_
                try simp only [Act.put, List.setIfInBounds_toArray, List.set_cons_zero, List.set_cons_succ]
                refine tkN 10 ⟨some 57, .move (.tmp 2), 26, "skip.go:84", #[⟨7, .guard⟩], some (7, false)⟩ hHeld ?_
                try simp only [Act.put, List.setIfInBounds_toArray, List.set_cons_zero, List.set_cons_succ]
                refine tkN 11 ⟨some 58, .move (.tmp 12), 3, "skip.go:84", #[⟨7, .guard⟩], some (7, false)⟩ hHeld ?_
                try simp only [Act.put, List.setIfInBounds_toArray, List.set_cons_zero, List.set_cons_succ]
                refine tkN 12 ⟨some 59, .indexAddr 26 (.tmp 57) (.tmp 58), 0, "skip.go:84", #[⟨10, .data⟩, ⟨11, .data⟩, ⟨7, .guard⟩], some (7, false)⟩ hHeld ?_
                try simp only [Act.put, List.setIfInBounds_toArray, List.set_cons_zero, List.set_cons_succ]
                refine tkN 13 ⟨some 60, .load 25 (.tmp 59), 25, "skip.go:84", #[⟨12, .data⟩, ⟨7, .guard⟩], some (7, false)⟩ hHeld ?_
                try simp only [Act.put, List.setIfInBounds_toArray, List.set_cons_zero, List.set_cons_succ]
                refine tkN 14 ⟨some 61, .call { callee := .value (.func 18), args := #[.tmp 55, .tmp 56, .tmp 60], argTypes := #[3, 25, 25] }, 4, "skip.go:84", #[⟨8, .data⟩, ⟨9, .data⟩, ⟨13, .data⟩, ⟨7, .chain⟩, ⟨7, .guard⟩], some (7, false)⟩ hHeld ?_
                try simp only [Act.put, List.setIfInBounds_toArray, List.set_cons_zero, List.set_cons_succ]
                refine tkN 15 ⟨some 62, .unOp .not 4 (.tmp 61), 4, "skip.go:84", #[⟨14, .data⟩, ⟨7, .guard⟩], some (7, false)⟩ hHeld ?_
                try simp only [Act.put, List.setIfInBounds_toArray, List.set_cons_zero, List.set_cons_succ]
                refine tkY 16 ⟨some 63, .pick (.tmp 54) (.const (.bool true)) (.tmp 62), 4, "skip.go:84", #[⟨7, .data⟩, ⟨15, .data⟩], none⟩ ?v16z21 hHeld ?y16z21 ?r16z21
                case y16z21 => (intro w hSw; (try dsimp only at hSw); go_simp) <;> with_reducible rfl
                try simp only [Act.put, List.setIfInBounds_toArray, List.set_cons_zero, List.set_cons_succ]
                refine wpAnyH_done (by kernel_rfl) ?_ _
                have HR : Hid (R = none) := HS.out.trans (if_neg (fun h => HQ.out h.1))
                clear hHeld hcells HLi
                obtain ⟨U, hU⟩ : ∃ U, U = wr.drew := ⟨_, rfl⟩
                rw [← hU] at bD ⊢
                clear hU
                have ZF := (bD.block _ ltz).trans Zr
                have bF := bw.trans (bD.mono bw.size)
                have x0 : U.cell? ⟨w.heap.size + 1, 0, none⟩ = some (.int .i64 0) := by rw [cell_of_row _ _ _ _ _ _ ZF]; rfl
                have x1 : U.cell? ⟨w.heap.size + 1, 1, none⟩ = some (.int .i64 0) := by rw [cell_of_row _ _ _ _ _ _ ZF]; rfl
                have x2 : U.cell? ⟨w.heap.size + 1, 2, none⟩ = some (.slice none 0 0) := by rw [cell_of_row _ _ _ _ _ _ ZF]; rfl
                have x3 : U.cell? ⟨w.heap.size + 1, 3, none⟩ = some (.int .i64 0) := by rw [cell_of_row _ _ _ _ _ _ ZF]; rfl
                have x4 : U.cell? ⟨w.heap.size + 1, 4, none⟩ = some (.slice none 0 0) := by rw [cell_of_row _ _ _ _ _ _ ZF]; rfl
                have x5 : U.cell? ⟨w.heap.size + 1, 5, none⟩ = some (.slice none 0 0) := by rw [cell_of_row _ _ _ _ _ _ ZF]; rfl
                have f0 : U.frozen? ⟨w.heap.size + 1, 0, none⟩ = false := frz_of ZF
                have f1 : U.frozen? ⟨w.heap.size + 1, 1, none⟩ = false := frz_of ZF
                have f2 : U.frozen? ⟨w.heap.size + 1, 2, none⟩ = false := frz_of ZF
                have f3 : U.frozen? ⟨w.heap.size + 1, 3, none⟩ = false := frz_of ZF
                have f4 : U.frozen? ⟨w.heap.size + 1, 4, none⟩ = false := frz_of ZF
                have f5 : U.frozen? ⟨w.heap.size + 1, 5, none⟩ = false := frz_of ZF
                have hon : Only (w.heap.size + 1) U (((((((U).setCell ⟨w.heap.size + 1, 0, none⟩ (.int .i64 0)).setCell ⟨w.heap.size + 1, 1, none⟩ (.int .i64 0)).setCell ⟨w.heap.size + 1, 2, none⟩ (.slice none 0 0)).setCell ⟨w.heap.size + 1, 3, none⟩ (.int .i64 0)).setCell ⟨w.heap.size + 1, 4, none⟩ (.slice none 0 0)).setCell ⟨w.heap.size + 1, 5, none⟩ (.slice none 0 0)) := ((((((Only.refl _ _).setCell 0 _).setCell 1 _).setCell 2 _).setCell 3 _).setCell 4 _).setCell 5 _
                have bf : Below w.heap.size w (((((((U).setCell ⟨w.heap.size + 1, 0, none⟩ (.int .i64 0)).setCell ⟨w.heap.size + 1, 1, none⟩ (.int .i64 0)).setCell ⟨w.heap.size + 1, 2, none⟩ (.slice none 0 0)).setCell ⟨w.heap.size + 1, 3, none⟩ (.int .i64 0)).setCell ⟨w.heap.size + 1, 4, none⟩ (.slice none 0 0)).setCell ⟨w.heap.size + 1, 5, none⟩ (.slice none 0 0)) := bF.trans (hon.below (by omega))
                clear hon ZF bF bD
                go_wp2
                refine bodyPost_ret (v := .tuple #[.agg #[.int .i64 0, .int .i64 0, .slice none 0 0, .int .i64 0, .slice none 0 0, .slice none 0 0], .bool false]) ?_ rfl ?_
                · simp only [results, Tryd.results7]
                  go_simp
                · exact ⟨fun _ => rfl, fun r h => (by rw [HR.out] at h; cases h), bf⟩
            · have HRs : Hid (R = some last) := by
                have := HFk.out
                rw [List.drop_eq_nil_of_le (by have := HL.out; omega), List.drop_eq_nil_of_le (by have := HL.out; omega)] at this
                exact this.symm
              have hlk := linksL_len last.e.toNat (by omega)
              have hCop := copied_any last _ _ _ wr (q1.later hbw) (q2.later hbw) (q3'.later hbw) (by omega) (by omega) (by omega) (sized_le s12 s2)
              have d0 : wr.cell? ⟨w3.heap.size, 0, none⟩ = some (.int .i64 last.e) := by rw [cell_of_row _ _ _ _ _ _ GL]; rfl
              have d1 : wr.cell? ⟨w3.heap.size, 1, none⟩ = some (.int .i64 last.t) := by rw [cell_of_row _ _ _ _ _ _ GL]; rfl
              have d2 : wr.cell? ⟨w3.heap.size, 2, none⟩ = some (.slice ltp last.tr.length ltc) := by rw [cell_of_row _ _ _ _ _ _ GL]; rfl
              have d3 : wr.cell? ⟨w3.heap.size, 3, none⟩ = some (.int .i64 last.c) := by rw [cell_of_row _ _ _ _ _ _ GL]; rfl
              have d4 : wr.cell? ⟨w3.heap.size, 4, none⟩ = some (.slice llp last.li.length llc) := by rw [cell_of_row _ _ _ _ _ _ GL]; rfl
              have d5 : wr.cell? ⟨w3.heap.size, 5, none⟩ = some (.slice lkp last.lk.length lkc) := by rw [cell_of_row _ _ _ _ _ _ GL]; rfl
              clear HFk HCk HEk q1 q2 q3' s9 s10 s11 s12 hlk
              go_wp2_with fail
              refine hCop.mono ?_
              rintro x w6 ⟨tp6, tc6, lp6, lc6, kp6, kc6, rfl, u1, u2, u3, b6⟩
              have Z6 := (b6.block _ ltz).trans Zr
              have bw6 := bw.trans (b6.mono bw.size)
              have x0 : w6.cell? ⟨w.heap.size + 1, 0, none⟩ = some (.int .i64 0) := by rw [cell_of_row _ _ _ _ _ _ Z6]; rfl
              have x1 : w6.cell? ⟨w.heap.size + 1, 1, none⟩ = some (.int .i64 0) := by rw [cell_of_row _ _ _ _ _ _ Z6]; rfl
              have x2 : w6.cell? ⟨w.heap.size + 1, 2, none⟩ = some (.slice none 0 0) := by rw [cell_of_row _ _ _ _ _ _ Z6]; rfl
              have x3 : w6.cell? ⟨w.heap.size + 1, 3, none⟩ = some (.int .i64 0) := by rw [cell_of_row _ _ _ _ _ _ Z6]; rfl
              have x4 : w6.cell? ⟨w.heap.size + 1, 4, none⟩ = some (.slice none 0 0) := by rw [cell_of_row _ _ _ _ _ _ Z6]; rfl
              have x5 : w6.cell? ⟨w.heap.size + 1, 5, none⟩ = some (.slice none 0 0) := by rw [cell_of_row _ _ _ _ _ _ Z6]; rfl
              have f0 : w6.frozen? ⟨w.heap.size + 1, 0, none⟩ = false := frz_of Z6
              have f1 : w6.frozen? ⟨w.heap.size + 1, 1, none⟩ = false := frz_of Z6
              have f2 : w6.frozen? ⟨w.heap.size + 1, 2, none⟩ = false := frz_of Z6
              have f3 : w6.frozen? ⟨w.heap.size + 1, 3, none⟩ = false := frz_of Z6
              have f4 : w6.frozen? ⟨w.heap.size + 1, 4, none⟩ = false := frz_of Z6
              have f5 : w6.frozen? ⟨w.heap.size + 1, 5, none⟩ = false := frz_of Z6
              have hon : Only (w.heap.size + 1) w6 (((((((w6).setCell ⟨w.heap.size + 1, 0, none⟩ (.int .i64 last.e)).setCell ⟨w.heap.size + 1, 1, none⟩ (.int .i64 last.t)).setCell ⟨w.heap.size + 1, 2, none⟩ (.slice tp6 last.tr.length tc6)).setCell ⟨w.heap.size + 1, 3, none⟩ (.int .i64 last.c)).setCell ⟨w.heap.size + 1, 4, none⟩ (.slice lp6 last.li.length lc6)).setCell ⟨w.heap.size + 1, 5, none⟩ (.slice kp6 last.lk.length kc6)) := ((((((Only.refl _ _).setCell 0 _).setCell 1 _).setCell 2 _).setCell 3 _).setCell 4 _).setCell 5 _
              have tk := TK.of_only (T := 25) hon Z6
              have bf : Below w.heap.size w (((((((w6).setCell ⟨w.heap.size + 1, 0, none⟩ (.int .i64 last.e)).setCell ⟨w.heap.size + 1, 1, none⟩ (.int .i64 last.t)).setCell ⟨w.heap.size + 1, 2, none⟩ (.slice tp6 last.tr.length tc6)).setCell ⟨w.heap.size + 1, 3, none⟩ (.int .i64 last.c)).setCell ⟨w.heap.size + 1, 4, none⟩ (.slice lp6 last.li.length lc6)).setCell ⟨w.heap.size + 1, 5, none⟩ (.slice kp6 last.lk.length kc6)) := bw6.trans (hon.below (by omega))
              have v1 := u1.tk tk (by decide)
              have v2 := u2.tk tk (by decide)
              have v3 := u3.tk tk (by decide) (by decide)
              clear hon tk u1 u2 u3 b6 Z6 bw6 hCop d0 d1 d2 d3 d4 d5
              go_wp2
              refine bodyPost_ret (v := .tuple #[.agg #[.int .i64 last.e, .int .i64 last.t, .slice tp6 last.tr.length tc6, .int .i64 last.c, .slice lp6 last.li.length lc6, .slice kp6 last.lk.length kc6], .bool true]) ?_ rfl ?_
              · simp only [results, Tryd.results7]
                go_simp
              · refine ⟨fun h => (by rw [HRs.out] at h; cases h), fun r h => ?_, bf⟩
                rw [HRs.out] at h
                cases h
                exact ⟨_, _, _, _, _, _, _, rfl, v1, v2, v3⟩
        · have e3 : ((way.length : Int) != (E.length : Int)) = true := by simp; omega
          have HR : Hid (R = none) := HF.out.trans (folP_len size way E hd hlen)
          clear hlen HF HE HCB
          have x0 : w3.cell? ⟨w.heap.size + 1, 0, none⟩ = some (.int .i64 0) := by rw [cell_of_row _ _ _ _ _ _ Z3]; rfl
          have x1 : w3.cell? ⟨w.heap.size + 1, 1, none⟩ = some (.int .i64 0) := by rw [cell_of_row _ _ _ _ _ _ Z3]; rfl
          have x2 : w3.cell? ⟨w.heap.size + 1, 2, none⟩ = some (.slice none 0 0) := by rw [cell_of_row _ _ _ _ _ _ Z3]; rfl
          have x3 : w3.cell? ⟨w.heap.size + 1, 3, none⟩ = some (.int .i64 0) := by rw [cell_of_row _ _ _ _ _ _ Z3]; rfl
          have x4 : w3.cell? ⟨w.heap.size + 1, 4, none⟩ = some (.slice none 0 0) := by rw [cell_of_row _ _ _ _ _ _ Z3]; rfl
          have x5 : w3.cell? ⟨w.heap.size + 1, 5, none⟩ = some (.slice none 0 0) := by rw [cell_of_row _ _ _ _ _ _ Z3]; rfl
          have f0 : w3.frozen? ⟨w.heap.size + 1, 0, none⟩ = false := frz_of Z3
          have f1 : w3.frozen? ⟨w.heap.size + 1, 1, none⟩ = false := frz_of Z3
          have f2 : w3.frozen? ⟨w.heap.size + 1, 2, none⟩ = false := frz_of Z3
          have f3 : w3.frozen? ⟨w.heap.size + 1, 3, none⟩ = false := frz_of Z3
          have f4 : w3.frozen? ⟨w.heap.size + 1, 4, none⟩ = false := frz_of Z3
          have f5 : w3.frozen? ⟨w.heap.size + 1, 5, none⟩ = false := frz_of Z3
          have hon : Only (w.heap.size + 1) w3 (((((((w3).setCell ⟨w.heap.size + 1, 0, none⟩ (.int .i64 0)).setCell ⟨w.heap.size + 1, 1, none⟩ (.int .i64 0)).setCell ⟨w.heap.size + 1, 2, none⟩ (.slice none 0 0)).setCell ⟨w.heap.size + 1, 3, none⟩ (.int .i64 0)).setCell ⟨w.heap.size + 1, 4, none⟩ (.slice none 0 0)).setCell ⟨w.heap.size + 1, 5, none⟩ (.slice none 0 0)) := ((((((Only.refl _ _).setCell 0 _).setCell 1 _).setCell 2 _).setCell 3 _).setCell 4 _).setCell 5 _
          have bf : Below w.heap.size w (((((((w3).setCell ⟨w.heap.size + 1, 0, none⟩ (.int .i64 0)).setCell ⟨w.heap.size + 1, 1, none⟩ (.int .i64 0)).setCell ⟨w.heap.size + 1, 2, none⟩ (.slice none 0 0)).setCell ⟨w.heap.size + 1, 3, none⟩ (.int .i64 0)).setCell ⟨w.heap.size + 1, 4, none⟩ (.slice none 0 0)).setCell ⟨w.heap.size + 1, 5, none⟩ (.slice none 0 0)) := bw3.trans (hon.below (by omega))
          clear hon bw3 Z3 G3
          go_wp2
          refine bodyPost_ret (v := .tuple #[.agg #[.int .i64 0, .int .i64 0, .slice none 0 0, .int .i64 0, .slice none 0 0, .slice none 0 0], .bool false]) ?_ rfl ?_
          · simp only [results, Tryd.results7]
            go_simp
          · exact ⟨fun _ => rfl, fun r h => (by rw [HR.out] at h; cases h), bf⟩

theorem follow_any (size : Int) (hd : Rc) (tv lv kv vv : Value) (way : List Rc) (to : Int) (w : World) (h1 : HB w tv hd.tr) (h2 : HB w lv hd.li) (h3 : PA w kv hd.lk) (hW : RA w vv way) (hTD : TD w) (hT : Tabs w) :
    Calls Tryd.prog 7 #[.int .i64 size, .agg #[.int .i64 hd.e, .int .i64 hd.t, tv, .int .i64 hd.c, lv, kv], vv, .int .i64 to] w (FolSaid (folR size hd way to) w) := by
  refine (followT_any size hd tv lv kv vv way to w h1 h2 h3 hW hTD hT).mono ?_
  rintro x w' ⟨f1, f2, f3⟩
  refine ⟨f1, fun r hr => ?_, f3⟩
  obtain ⟨G, tp, tc, lp, lc, kp, kc, e, g1, g2, g3⟩ := f2 r hr
  exact ⟨tp, tc, lp, lc, kp, kc, e, g1.1, g2.1, g3.pa⟩

end Go.Proofs.YtpndpmkoegmbkaaDoor
