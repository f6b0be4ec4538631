/- What this text proves: the walk of history.Publish of the first batch over this program. What this text proves: the walks of mts.New without a seed, of history.first, of ledger's Entries where there is none, of ledger's Open where there is no device, over this program. -/
import Derived.Test.YtcgpgnajmfemhaaGreatDoorJHyAdd
import Derived.Test.YtcgpgnajmfemhaaGreatDoorJP2
import Derived.Test.YtcgpgnajmfemhaaGreatDoorJE4
import Derived.Test.YtcgpgnajmfemhaaGreatDoorJZ1
namespace Go.Proofs.YtcgpgnajmfemhaaGreatDoor.Vf
open Go.RowKit

/-- A directory that was just opened, on a device of N sectors; all of it lies from B on. -/
def HO (B N g : Nat) (w : World) : Prop :=
  ∃ (gl gs gk gt ga b1 b2 bb br kk : Nat) (l : List UInt8) (tv lv : Value) (tr li : List UInt8), HY w g gl gk gt (.slice (some ⟨bb, 0, none⟩) 1 1) (.slice (some ⟨br, 0, none⟩) 1 1) 0 ∧ LS B gl gs N kk 200 3 3 2 4 30 2400 1 3 0 0 0 [l] w ∧ kk ≤ 15 ∧
    (SN w gt 3 3 2 4 30 2400 1 3 ga (.slice (some ⟨b1, 0, none⟩) 1 1) (.slice (some ⟨b2, 0, none⟩) 1 1) (.slice none 0 0) ∧ BK w b2 (.cells #[.int .i64 0, .int .i64 (-1)] 146 (0, 0)) ∧ AG w ga 3 2400 none 0 0) ∧ BK w b1 (.cells #[.slice none 0 0] 22 (0, 0)) ∧ BK w bb (.cells #[.slice none 0 0] 22 (0, 0)) ∧
    R0 w br tv lv ∧ HT w tv tr ∧ HT w lv li ∧ b1 ≠ bb ∧ (B ≤ g ∧ B ≤ gt ∧ B ≤ ga ∧ B ≤ b1 ∧ B ≤ bb ∧ B ≤ b2 ∧ B ≤ br)

theorem AG.later' {w w' : World} {g : Nat} {s r : Int} {p : Option Addr} {n c : Nat} (h : AG w g s r p n c) (hb : Below w.heap.size w w') : AG w' g s r p n c := h.later hb

theorem HO.later {B N g : Nat} {w w' : World} (h : HO B N g w) (hb : Below w.heap.size w w') : HO B N g w' := by
  obtain ⟨gl, gs, gk, gt, ga, b1, b2, bb, br, kk, l, tv, lv, tr, li, h1, h2, h3, ⟨h4, h5, h6⟩, h7, h8, h9, h10, h11, h12, h13⟩ := h
  exact ⟨gl, gs, gk, gt, ga, b1, b2, bb, br, kk, l, tv, lv, tr, li, h1.later hb, h2.later hb, h3, ⟨SN.later h4 hb, h5.later hb, h6.later hb⟩, h7.later hb, h8.later hb, h9.later hb, h10.sty (Sty.of_below hb), h11.sty (Sty.of_below hb), h12, h13⟩

theorem cf_copiedB : ∀ (args : Array Value) (w : World), (callFunc 23 args).run Tryz.prog w = .ok (.enter 23 args) w := by intro args w; go_simp

theorem br_one {w : World} {g gR : Nat} {id key : List UInt8} (h : BR w g gR 1 [(id, key)]) : ∃ vi vk, BK w gR (.cells #[vi, vk] 90 (0, 0)) ∧ HX w vi id ∧ HX w vk key := by
  obtain ⟨cs, h1, h2, h3⟩ := h
  obtain ⟨p1, c1, p2, c2, q1, q2, q3, q4⟩ := h3 0 (id, key) rfl
  refine ⟨_, _, ?_, HX.of_hbn q3, HX.of_hbn q4⟩
  show w.heap[gR]? = _
  rw [h1]
  have : cs = #[.slice p1 id.length c1, .slice p2 key.length c2] := by
    apply Array.ext
    · simpa using h2
    · intro i hi hj
      simp at hj
      have hq : i = 0 ∨ i = 1 := by omega
      rcases hq with rfl | rfl
      · rw [Array.getElem?_eq_getElem hi] at q1
        simpa using q1
      · rw [Array.getElem?_eq_getElem hi] at q2
        simpa using q2
  rw [this]

theorem SB.sty5 {w w' : World} {gt ga b1 b2 gR : Nat} {vi vk : Value} {id key : List UInt8} (h : SB w gt ga b1 b2 gR vi vk id key) (s1 : Sty 128 w w') (s2 : Sty 146 w w') (s3 : Sty 134 w w') (s4 : Sty 90 w w') (s5 : Sty 5 w w') : SB w' gt ga b1 b2 gR vi vk id key :=
  ⟨s1 _ _ _ h.1, h.2.1.sty s2, s3 _ _ _ h.2.2.1, h.2.2.2.1.sty s4, h.2.2.2.2.1.sty s5, h.2.2.2.2.2.sty s5⟩

/-- What a copy of a batch is. -/
def RC (W : World) (bs : List (List UInt8 × List UInt8)) (v : Value) (w' : World) : Prop := ∃ gR, v = .slice (some ⟨gR, 0, none⟩) bs.length bs.length ∧ W.heap.size ≤ gR ∧ BR w' gR gR bs.length bs ∧ Below W.heap.size W w'

theorem copied_rc (v : Value) (bs : List (List UInt8 × List UInt8)) (w : World) (h : BA w v bs) (hn : bs.length ≤ 100) (hl : ∀ x ∈ bs, x.1.length ≤ 140737488355328 ∧ x.2.length ≤ 140737488355328) : Calls Tryz.prog 23 #[v] w fun e w' => ∃ u, e = .returned u ∧ RC w bs u w' := by
  refine (copiedB_any v bs w h hn hl).mono ?_
  rintro e w' ⟨gR, rfl, h1, h2, h3⟩
  exact ⟨_, rfl, gR, rfl, h1, h2, h3⟩

theorem ent_boxed {w w3 : World} {t : Int} {u : Value} (k : Below ((w.alloc (.cells #[.int .i64 t, u] 66)).drew.heap.size) (w.alloc (.cells #[.int .i64 t, u] 66)).drew w3) : w3.heap[w.heap.size]? = some (.cells #[.int .i64 t, u] 66 (0, 0)) ∧ w3.cell? ⟨w.heap.size, 0, none⟩ = some (.int .i64 t) ∧ w3.cell? ⟨w.heap.size, 1, none⟩ = some u ∧ w3.frozen? ⟨w.heap.size, 0, none⟩ = false ∧ w3.frozen? ⟨w.heap.size, 1, none⟩ = false := by
  have h := (k.block w.heap.size (by simp)).trans (heap_alloc_new w (.cells #[.int .i64 t, u] 66))
  exact ⟨h, (ent_twoH h).1, (ent_twoH h).2, by simp [World.frozen?, h], by simp [World.frozen?, h]⟩

theorem epH : epochsV 3 3 2 4 30 1 3 = 8 := by decide
theorem entH : ([69] ++ numL (clampN 0)).length ≤ 1048576 := by decide +kernel

theorem ent_stored {w : World} {g : Nat} {a b : Value} (h : w.heap[g]? = some (.cells #[a, b] 66 (0, 0))) (u v : Value) : ((w.setCell ⟨g, 0, none⟩ u).setCell ⟨g, 1, none⟩ v).heap[g]? = some (.cells #[u, v] 66 (0, 0)) := by
  have h1 := heap_setCell_same w g 0 _ _ u h
  have h2 := heap_setCell_same _ g 1 _ _ v h1
  rw [h2]
  simp

set_option maxRecDepth 100000 in
set_option maxHeartbeats 16000000 in
theorem hpub_first {B N g : Nat} {id key : List UInt8} {v : Value} {w : World} (H : HO B N g w) (hv : BA w v [(id, key)]) (hT : ∀ W, Below B w W → Tabs W ∧ TD W) (hB : 3 ≤ B) (hBw : B ≤ w.heap.size) (hN : N ≤ 16384) (h255 : id.length ≤ 255) (hkl : key.length ≤ 65535) (hck : ChkIs 2 4 [(id, key)] 0)
    (hb : bulkB [(id, key)] ≤ 1048576) (hL1 : 1 ≤ (entL 0 [(id, key)]).length) (hL2 : (entL 0 [(id, key)]).length ≤ 4000) (hfit : 15 + (tsec (entL 0 [(id, key)]).length + 1) ≤ N) :
    Calls Tryz.prog 4 #[.pointer (some ⟨g, 0, none⟩), v] w fun x w' => x = .returned (.tuple #[.int .i64 1, .int .i64 0]) ∧ (∃ gl gk gt pb cb pr cr, HY w' g gl gk gt (.slice pb 2 cb) (.slice pr 2 cr) 0) ∧ Below B w w' := by
  obtain ⟨p, c, rfl⟩ := hv.shape
  obtain ⟨gl, gs, gk, gt, ga, b1, b2, bb, br, kk, l, tv, lv, tr, li, h1, h2, h3, ⟨h4, h5, h6⟩, h7, h8, h9, h10, h11, h12, h13⟩ := H
  have hM := hmiss_no h1
  have a0 := h1.par 0 (by decide)
  have a1 := h1.par 1 (by decide)
  have a2 := h1.par 2 (by decide)
  have a3 := h1.par 3 (by decide)
  have a4 := h1.par 4 (by decide)
  have a5 := h1.par 5 (by decide)
  have a6 := h1.par 6 (by decide)
  have a7 := h1.par 7 (by decide)
  have hC := fun W (hbW : Below w.heap.size w W) => check_any 3 3 2 4 30 2400 1 3 _ _ W (hv.later hbW)
  have hlen : ([(id, key)] : List (List UInt8 × List UInt8)).length = 1 := rfl
  rw [hlen] at hC
  have hCp := fun W (hbW : Below w.heap.size w W) => copied_rc _ _ W (hv.later hbW) (by simp) (by intro x hx; simp at hx; subst hx; exact ⟨by simp; omega, by simp; omega⟩)
  rw [hlen] at hCp
  clear hlen
  go_enter Tryz.func4, Tryz.ntmps4
  go_wp2_with (first
    | (go_at_call 21; refine hM.mono ?_; rintro e wm ⟨rfl, hwm⟩; have hwm2 := hwm.symm; clear hwm; subst hwm2)
    | (go_at_call 22; refine (hC _ (Below.refl _ _)).mono ?_; rintro e w1 ⟨x, rfl, hx, k1⟩; obtain rfl := chk_one hx hck))
  have e13 := (h1.later k1).cells.2.2.2.2.2
  have e8 := (h1.later k1).cells.1
  clear hM hC a0 a1 a2 a3 a4 a5 a6 a7 hx
  have hCp1 : ∀ W, Below w1.heap.size w1 W → Calls Tryz.prog 23 #[.slice p 1 c] W fun e w' => ∃ u, e = .returned u ∧ ∃ gR, u = .slice (some ⟨gR, 0, none⟩) 1 1 ∧ BR w' gR gR 1 [(id, key)] ∧ Below W.heap.size W w' ∧ Below w1.heap.size w1 w' ∧ w'.cell? ⟨g, 13, none⟩ = some (.int .i64 0) := by
    intro W hbW
    refine (hCp W (k1.trans (hbW.mono k1.size))).mono ?_
    rintro e w' ⟨u, rfl, gR, rfl, _, hBR, k3⟩
    have k13 := hbW.trans (k3.mono hbW.size)
    exact ⟨_, rfl, gR, rfl, hBR, k3, k13, cell_later k13 e13⟩
  clear hCp
  have HCp : Hid _ := hCp1
  clear hCp1
  have e13a := cell_later ((Below.refl _ w1).alloc (Nat.le_refl _) (.cells #[.int .i64 0, .slice none 0 0] 66)) e13
  go_region_law (first
    | (refine step_calls1 (by rfl) 23 _ _ (by rfl) _ (by rfl) (cf_copiedB _ _) _ (HCp.out _ ((Below.refl _ _).alloc (Nat.le_refl _) _).drew) ?_; rintro v3 w3 ⟨gR, rfl, hBR, k3, k13, y13⟩; obtain ⟨gE3, y0, y1, f0, f1⟩ := ent_boxed k3)
    | (refine step_calls1 (by rfl) 23 _ _ (by rfl) _ (by rfl) (cf_copiedB _ _) _ (HCp.out _ (Below.refl _ _).drew) ?_; rintro v3 w3 ⟨gR, rfl, hBR, k3, k13, y13⟩; have y13a := cell_later ((Below.refl _ w3).alloc (Nat.le_refl _) (.cells #[.int .i64 0, .slice none 0 0] 66)) y13))
  all_goals
    first
      | (have onB : Only w1.heap.size w3 ((w3.setCell ⟨w1.heap.size, 0, none⟩ (.int .i64 0)).setCell ⟨w1.heap.size, 1, none⟩ (.slice (some ⟨gR, 0, none⟩) 1 1)) := ((Only.refl _ w3).setCell _ _).setCell _ _
         have bZ := k13.trans (onB.below (Nat.le_refl _))
         have gEZ := ent_stored gE3 (.int .i64 0) (.slice (some ⟨gR, 0, none⟩) 1 1)
         have hBZ := hBR.tk (TK.of_only onB gE3) (by decide) (by decide)
         clear gE3 y0 y1 f0 f1 onB
         generalize (w3.setCell ⟨w1.heap.size, 0, none⟩ (.int .i64 0)).setCell ⟨w1.heap.size, 1, none⟩ (.slice (some ⟨gR, 0, none⟩) 1 1) = Z at *
         obtain ⟨ge, hge⟩ : ∃ ge, ge = w1.heap.size := ⟨_, rfl⟩
         rw [← hge] at gEZ ⊢
         clear hge)
      | (have bZ := k13.alloc k13.size (.cells #[.int .i64 0, .slice (some ⟨gR, 0, none⟩) 1 1] 66)
         have gEZ := heap_alloc_new w3 (.cells #[.int .i64 0, .slice (some ⟨gR, 0, none⟩) 1 1] 66)
         have hBZ := hBR.tk (TK.of_below (T := 3) ((Below.refl _ w3).alloc (Nat.le_refl _) (.cells #[.int .i64 0, .slice (some ⟨gR, 0, none⟩) 1 1] 66))) (by decide) (by decide)
         clear y13a
         generalize w3.alloc (.cells #[.int .i64 0, .slice (some ⟨gR, 0, none⟩) 1 1] 66) = Z at *
         obtain ⟨ge, hge⟩ : ∃ ge, ge = w3.heap.size := ⟨_, rfl⟩
         rw [← hge] at gEZ ⊢
         clear hge)
    clear k3 k13 y13 hBR e13a
    have bwZ := k1.trans (bZ.mono k1.size)
    obtain ⟨vi, vk, hBk, hXi, hXk⟩ := br_one hBZ
    have e8Z := cell_later bZ e8
    obtain ⟨eE0, eE1⟩ := ent_twoH gEZ
    have hP : ∀ W, Below Z.heap.size Z W → Calls Tryz.prog 24 #[.pointer (some ⟨gl, 0, none⟩), .agg #[.int .i64 0, .slice (some ⟨gR, 0, none⟩) 1 1]] W fun e w5 => e = .returned (.int .i64 0) ∧ HY w5 g gl gk gt (.slice (some ⟨bb, 0, none⟩) 1 1) (.slice (some ⟨br, 0, none⟩) 1 1) 0 ∧ BK w5 bb (.cells #[.slice none 0 0] 22 (0, 0)) ∧ BK w5 b1 (.cells #[.slice none 0 0] 22 (0, 0)) ∧ R0 w5 br tv lv ∧ HT w5 tv tr ∧ HT w5 lv li ∧ SB w5 gt ga b1 b2 gR vi vk id key ∧ Below B w w5 ∧ w5.heap[ge]? = some (.cells #[.int .i64 0, .slice (some ⟨gR, 0, none⟩) 1 1] 66 (0, 0)) := by
      intro W hbW
      have bw := bwZ.trans (hbW.mono bwZ.size)
      have hBA : BA W (.slice (some ⟨gR, 0, none⟩) 1 1) [(id, key)] := ba_oneV (hBk.later hbW) (hXi.later hbW).1 (hXk.later hbW).1
      refine (lpub_ok (h2.later bw) (hT W (bw.mono hBw)).1 hB (Nat.le_trans hBw bw.size) hBA (by omega) (by omega) hck (by omega) (by omega) (by omega) (by rw [epH]; omega) (by rw [epH]; omega) (by simp) (by omega) hb (by simp) entH hL1 hL2 (by omega) hN (by simp) (by omega)).mono ?_
      rintro e w5 ⟨rfl, _, b5, s5⟩
      refine ⟨rfl, (h1.later bw).sty (s5 _ (by decide) (by decide) (by decide) (by decide) (by decide)), (h8.later bw).sty (s5 _ (by decide) (by decide) (by decide) (by decide) (by decide)), (h7.later bw).sty (s5 _ (by decide) (by decide) (by decide) (by decide) (by decide)), (h9.later bw).sty (s5 _ (by decide) (by decide) (by decide) (by decide) (by decide)), (h10.sty (Sty.of_below bw)).sty (s5 _ (by decide) (by decide) (by decide) (by decide) (by decide)), (h11.sty (Sty.of_below bw)).sty (s5 _ (by decide) (by decide) (by decide) (by decide) (by decide)), ?_, (bw.mono hBw).trans b5, ?_⟩
      · exact SB.sty5 (⟨SN.later h4 bw, h5.later bw, h6.later bw, hBk.later hbW, hXi.later hbW, hXk.later hbW⟩ : SB W gt ga b1 b2 gR vi vk id key) (s5 _ (by decide) (by decide) (by decide) (by decide) (by decide)) (s5 _ (by decide) (by decide) (by decide) (by decide) (by decide)) (s5 _ (by decide) (by decide) (by decide) (by decide) (by decide)) (s5 _ (by decide) (by decide) (by decide) (by decide) (by decide)) (s5 _ (by decide) (by decide) (by decide) (by decide) (by decide))
      · exact s5 66 (by decide) (by decide) (by decide) (by decide) (by decide) _ _ _ ((hbW.block _ (Array.getElem?_eq_some_iff.1 gEZ).1).trans gEZ)
    clear HCp hBZ hBk hXi hXk gEZ bwZ bZ h4 h5 h6 h7 h8 h9 h10 h11 h1 h2 hv k1 e13 e8
    go_wp2
    go_region_with (first | (go_at_call 24; refine (hP _ (by repeat (first | exact Below.refl _ _ | refine Below.drew ?_))).mono ?_; rintro e w5 ⟨rfl, x1, x2, x3, x4, x5, x6, x7, x8, x9⟩; obtain ⟨eF0, eF1⟩ := ent_twoH x9))
    all_goals
      clear hP
      have hA := hadd_one x1 x2 x4 x5 x6 x7 x3 h12 h255 hkl hck (u := 0) (fun W hbW => hT W (x8.trans hbW)) h13.1 h13.2.1 h13.2.2.1 h13.2.2.2.1 h13.2.2.2.2.1 h13.2.2.2.2.2.1 h13.2.2.2.2.2.2 (Nat.le_trans hBw x8.size)
      go_wp2_with fail
      refine hA.mono ?_
      rintro e w6 ⟨rfl, ⟨pb, cb, pr, cr, x10⟩, x11⟩
      have hE := hepoch_n x10 (by decide) (by decide)
      clear hA
      go_wp2_with fail
      refine hE.mono ?_
      rintro e w7 ⟨rfl, hw⟩
      have hw2 := hw.symm
      clear hw
      subst hw2
      go_wp2
      go_ret2
      exact ⟨rfl, ⟨_, _, _, _, _, _, _, x10⟩, x8.trans x11⟩

end Go.Proofs.YtcgpgnajmfemhaaGreatDoor.Vf

namespace Go.Proofs.YtcgpgnajmfemhaaGreatDoor.Vf
open Go.RowKit

set_option maxRecDepth 100000 in
set_option maxHeartbeats 400000 in
theorem hcan_yes (w : World) :
    Calls Tryz.prog 73 #[.int .i64 3, .int .i64 3] w fun e w' => e = .returned (.bool true) ∧ w' = w := by
  go_enter Tryz.func73, Tryz.ntmps73
  go_wp2
  go_ret
  exact ⟨rfl, rfl⟩

set_option maxRecDepth 100000 in
set_option maxHeartbeats 1000000 in
theorem hkeys_new (w : World) :
    Calls Tryz.prog 38 #[.int .i64 3, .slice none 0 0, .int .i64 3] w fun e w' => ∃ g, e = .returned (.tuple #[.pointer (some ⟨g, 0, none⟩), .int .i64 0]) ∧ w.heap.size ≤ g ∧ Below w.heap.size w w' := by
  have hC := hcan_yes
  have hCl := clone_own (.slice none 0 0) [] w (HB.nil _) (by simp)
  go_enter Tryz.func38, Tryz.ntmps38
  go_wp2_with fail
  refine (hC _).mono ?_
  rintro e w1 ⟨rfl, hw1⟩
  have hw2 := hw1.symm
  clear hw1
  subst hw2
  go_wp2_with fail
  refine hCl.mono ?_
  rintro e w1 ⟨p1, c1, rfl, o1, hb1⟩
  clear hC hCl
  go_wp2
  go_ret2
  exact ⟨w1.heap.size, rfl, hb1.size, hb1.alloc hb1.size _⟩

set_option maxRecDepth 100000 in
set_option maxHeartbeats 1000000 in
theorem hfirst_any (w : World) (hT : Tabs w) :
    Calls Tryz.prog 40 #[.int .i64 3] w fun x w' => ∃ tv lv, x = .returned (.agg #[.int .i64 0, .int .i64 0, tv, .int .i64 0, lv, .slice none 0 0]) ∧ HT w' tv (rootF 3 []) ∧ HT w' lv (rootF 3 []) ∧ Below w.heap.size w w' := by
  have bA := (Below.refl w.heap.size w).alloc (Nat.le_refl _) (.cells #[.int .i64 0, .int .i64 0, .slice none 0 0, .int .i64 0, .slice none 0 0, .slice none 0 0] 40)
  have gA := heap_alloc_new w (.cells #[.int .i64 0, .int .i64 0, .slice none 0 0, .int .i64 0, .slice none 0 0, .slice none 0 0] 40)
  obtain ⟨A, hA⟩ : ∃ A, w.alloc (.cells #[.int .i64 0, .int .i64 0, .slice none 0 0, .int .i64 0, .slice none 0 0, .slice none 0 0] 40) = A := ⟨_, rfl⟩
  rw [hA] at bA gA
  have hR := fun W (hb : Below w.heap.size w W) => root_none 3 (.slice none 0 0) W (PA.nil _) (hT.later hb)
  have hRl := rootF_len 3 32 (by decide) [] (by simp) (by simp)
  generalize rootF 3 [] = F at *
  go_enter Tryz.func40, Tryz.ntmps40
  go_wp2_with fail
  refine (hR _ bA).mono ?_
  rintro x w1 ⟨p1, c1, rfl, h1, b1, t1⟩
  have bw1 := bA.trans (b1.mono bA.size)
  go_wp2_with fail
  refine (hR _ bw1).mono ?_
  rintro x w2 ⟨p2, c2, rfl, h2, b2, t2⟩
  have bw2 := bw1.trans (b2.mono bw1.size)
  have gB := (b2.block _ (by have := (Array.getElem?_eq_some_iff.1 gA).1; have := b1.size; omega)).trans ((b1.block _ (Array.getElem?_eq_some_iff.1 gA).1).trans gA)
  have on := Only.refl w.heap.size w2
  have hH1 : HT w2 (.slice p1 F.length c1) F := ⟨h1.later b2, t1.later b2⟩
  have hH2 : HT w2 (.slice p2 F.length c2) F := ⟨h2, t2⟩
  obtain ⟨y0, y1, y2, y3, y4, y5⟩ : w2.cell? ⟨w.heap.size, 0, none⟩ = some (.int .i64 0) ∧ w2.cell? ⟨w.heap.size, 1, none⟩ = some (.int .i64 0) ∧ w2.cell? ⟨w.heap.size, 2, none⟩ = some (.slice none 0 0) ∧ w2.cell? ⟨w.heap.size, 3, none⟩ = some (.int .i64 0) ∧ w2.cell? ⟨w.heap.size, 4, none⟩ = some (.slice none 0 0) ∧ w2.cell? ⟨w.heap.size, 5, none⟩ = some (.slice none 0 0) := by
    refine ⟨?_, ?_, ?_, ?_, ?_, ?_⟩ <;> rw [cell_of_row _ _ _ _ _ _ gB] <;> rfl
  have fz : ∀ i, w2.frozen? ⟨w.heap.size, i, none⟩ = false := fun i => by simp [World.frozen?, gB]
  have f0 := fz 0
  have f1 := fz 1
  have f2 := fz 2
  have f3 := fz 3
  have f4 := fz 4
  have f5 := fz 5
  clear hR h1 t1 h2 t2 fz
  go_wp2
  refine bodyPost_ret (v := .agg #[.int .i64 0, .int .i64 0, .slice p1 F.length c1, .int .i64 0, .slice p2 F.length c2, .slice none 0 0]) ?_ rfl ?_
  · simp only [results, Tryz.results40]
    go_simp
  · have onF : Only w.heap.size w2 ((((((w2.setCell ⟨w.heap.size, 0, none⟩ (.int .i64 0)).setCell ⟨w.heap.size, 1, none⟩ (.int .i64 0)).setCell ⟨w.heap.size, 2, none⟩ (.slice p1 F.length c1)).setCell ⟨w.heap.size, 3, none⟩ (.int .i64 0)).setCell ⟨w.heap.size, 4, none⟩ (.slice p2 F.length c2)).setCell ⟨w.heap.size, 5, none⟩ (.slice none 0 0)) := (((((on.setCell _ _).setCell _ _).setCell _ _).setCell _ _).setCell _ _).setCell _ _
    have sF := sty_onlyT onF gB (T := 5) (by decide)
    exact ⟨_, _, rfl, hH1.sty sF, hH2.sty sF, bw2.trans (onF.below (Nat.le_refl _))⟩

set_option maxRecDepth 100000 in
set_option maxHeartbeats 1600000 in
theorem lopen_none (s h mi mk ch ar ca pg : Int) (hz : chkV s h mi mk ch ar ca pg = 0) (v : Value) (w : World) (hv : v = .pointer none ∨ ∃ g, v = .pointer (some ⟨g, 0, none⟩) ∧ w.cell? ⟨g, 0, none⟩ = some (.slice none 0 0)) :
    Calls Tryz.prog 37 #[v, .agg #[.int .i64 s, .int .i64 h, .int .i64 mi, .int .i64 mk, .int .i64 ch, .int .i64 ar, .int .i64 ca, .int .i64 pg], .slice none 0 0] w fun x w' => x = .returned (.tuple #[.pointer none, .int .i64 2]) ∧ Below w.heap.size w w' := by
  have b0 := (Below.refl w.heap.size w).alloc (Nat.le_refl _) (.cells #[.int .i64 s, .int .i64 h, .int .i64 mi, .int .i64 mk, .int .i64 ch, .int .i64 ar, .int .i64 ca, .int .i64 pg] 25)
  have g0 := heap_alloc_new w (.cells #[.int .i64 s, .int .i64 h, .int .i64 mi, .int .i64 mk, .int .i64 ch, .int .i64 ar, .int .i64 ca, .int .i64 pg] 25)
  obtain ⟨V, hV⟩ : ∃ V, w.alloc (.cells #[.int .i64 s, .int .i64 h, .int .i64 mi, .int .i64 mk, .int .i64 ch, .int .i64 ar, .int .i64 ca, .int .i64 pg] 25) = V := ⟨_, rfl⟩
  rw [hV] at b0 g0
  obtain ⟨q0, q1, q2, q3, q4, q5, q6, q7⟩ := par_cells g0
  have hC := chk_any s h mi mk ch ar ca pg V
  rw [hz] at hC
  clear hz
  have hO := fun W (hb : Below w.heap.size w W) => open_none v W (by
    rcases hv with rfl | ⟨g, rfl, hc⟩
    · exact Go.Proofs.YtcgpgnajmfemhaaGreatDoor.miss_nil W
    · exact Go.Proofs.YtcgpgnajmfemhaaGreatDoor.miss_raw g W (cell_later hb hc))
  clear hv g0
  go_enter Tryz.func37, Tryz.ntmps37
  go_wp2_with (first
    | (go_at_call 67; refine hC.mono ?_; rintro e w1 ⟨rfl, b1⟩; have bw1 := b0.trans (b1.mono b0.size))
    | (go_at_call 68; refine (hO _ bw1).mono ?_; rintro e w2 ⟨rfl, hw2⟩; have hw3 := hw2.symm; clear hw2; subst hw3))
  go_ret2
  exact ⟨rfl, bw1⟩

set_option maxRecDepth 100000 in
set_option maxHeartbeats 4000000 in
theorem lents_none {B g gl N kk K : Nat} {s h mi mk ch ar ca pg n c t : Int} {l : List UInt8} {w : World} (H : LS B g gl N kk K s h mi mk ch ar ca pg n c t [l] w) (hl : l.length ≤ 4000) :
    Calls Tryz.prog 41 #[.pointer (some ⟨g, 0, none⟩)] w fun x w' => x = .returned (.slice none 0 0) ∧ Below w.heap.size w w' := by
  obtain ⟨bd, bn, bm, base, cc, cr, pr, st, k1, k2, k3, k4, k5, k6, k7, k8, k9, k10, k11⟩ := H
  have a8 := k1.cells.2.1
  have hM := lmiss_no g gl w a8
  have hRc := srecs_any k2 k3 (by simp) (fun l' hl' => by simp at hl'; subst hl'; omega)
  have hlen : ([l] : List (List UInt8)).length = 1 := rfl
  rw [hlen] at hRc
  have kc : ∀ (p : Option Addr) (c : Nat) w', (Instr.slice 38 (.slice p 1 c) (some (.int .i64 1)) none none).run Tryz.prog w' = .ok (.slice (cutP p c 1) 0 (c - 1)) w' := fun p c w' => run_cut (P := Tryz.prog) Tryz.underlying38 s_bytes p 1 c 1 1 rfl (by omega) w'
  clear k1 k2 k3 k4 k5 k6 k7 k8 k9 k10 k11 hlen
  go_enter Tryz.func41, Tryz.ntmps41
  go_wp2_with (first | (go_at_call 45; refine hM.mono ?_; rintro e wm ⟨rfl, hwm⟩; have hwm2 := hwm.symm; clear hwm; subst hwm2) | fail)
  refine hRc.mono ?_
  rintro e w1 ⟨p1, c1, rfl, o1, b1⟩
  have kc2 := kc p1 c1
  obtain ⟨c2, hc2⟩ : ∃ c2, c2 = c1 - 1 := ⟨_, rfl⟩
  rw [← hc2] at kc2
  generalize cutP p1 c1 1 = q at *
  clear hRc o1 kc hc2
  go_wp2
  go_loopw [3, 17] (fun v i wr => v = .slice none 0 0 ∧ i = .int .i64 0 ∧ wr = w1) (fun _ _ _ => 0)
  case atStart => exact ⟨rfl, rfl, rfl⟩
  case round =>
    obtain ⟨rfl, rfl, hw⟩ := hrel
    subst hw
    go_wp2
    go_ret
    exact ⟨rfl, b1⟩

end Go.Proofs.YtcgpgnajmfemhaaGreatDoor.Vf
