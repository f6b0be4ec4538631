/- What this text proves: the walks of feed.shown and annalsref19.epoch over this program: whether events are those of a record's epoch, and are shown. What this text proves: the walk of annalsref19.epoch over this program: how many of some events are those of an epoch's cut, or -1. -/
import Derived.Test.YtggficgmjbgmpaaDoorJFdVoc
namespace Go.Proofs.YtggficgmjbgmpaaDoor
open Go.RowKit

/-- The record as a value. -/
def recV (r : Rk) (t : Int) (tp : Option Addr) (tn tc : Nat) (lp : Option Addr) (lc : Nat) (kp : Option Addr) (kn kc : Nat) : Array Value := #[.int .i64 r.e, .int .i64 t, .slice tp tn tc, .int .i64 r.c, .slice lp r.li.length lc, .slice kp kn kc]

theorem evL_len (size : Int) (l : List Ev) : (evL size l).length = l.length := by unfold evL; simp

set_option maxRecDepth 100000 in
set_option maxHeartbeats 8000000 in
theorem shown_any (size fr t : Int) (r : Rk) (tp : Option Addr) (tn tc : Nat) (lp : Option Addr) (lc : Nat) (kp : Option Addr) (kn kc : Nat) (ev ov : Value) (l : List Ev) (ls : List (List UInt8)) (w : World) (he : EA w ev l) (ho : PA w ov ls) (hl : HB w (.slice lp r.li.length lc) r.li) (hT : Tabs w) (hn : l.length ≤ 1000000) (h0 : 0 ≤ fr) (h1 : fr + (l.length : Int) ≤ 9223372036854775807) (hc : -9223372036854775808 ≤ r.c ∧ r.c ≤ 9223372036854775807) :
    Calls Tryd.prog 28 #[.int .i64 size, .agg #[.int .i64 r.e, .int .i64 t, .slice tp tn tc, .int .i64 r.c, .slice lp r.li.length lc, .slice kp kn kc], .int .i64 fr, ev, ov] w fun x w' => ∃ B, x = .returned (.bool B) ∧ Hid (B = true ↔ Sh size r fr l ls) ∧ Below w.heap.size w w' := by
  obtain ⟨p, c, rfl⟩ := he.shape
  obtain ⟨q, d, rfl⟩ := ho.shape
  have hmx := he.len.2
  unfold maxLen at hmx
  obtain ⟨i0, hi0, hz0, hz1, hz2⟩ := info_parts i_bytes
  have hsig : ∀ k x, l[k]? = some x → (fun j => (evL size l).getD j []) k = clF size (x.id, x.key) := by
    intro k x hx
    simp [List.getD, evL, hx]
  have HP : Hid ((List.range l.length).map (fun j => (evL size l).getD j []) = evL size l) := by
    show _ = _
    apply List.ext_getElem
    · simp [evL]
    · intro i h1 h2; simp at h1; simp [List.getD, evL, h1]
  generalize (fun j => (evL size l).getD j []) = sig at *
  have HS : Hid (∀ k x, l[k]? = some x → sig k = clF size (x.id, x.key)) := hsig
  have HF : Hid (∀ v W, PA W v (evL size l) → Below w.heap.size w W → Calls Tryd.prog 41 #[.int .i64 size, .int .i64 r.c, .int .i64 fr, v, .slice q ls.length d] W fun x w' => ∃ p c, x = .returned (.tuple #[.slice p (foldR size r.c fr (evL size l) ls).1.length c, .int .i64 (foldR size r.c fr (evL size l) ls).2]) ∧ HB w' (.slice p (foldR size r.c fr (evL size l) ls).1.length c) (foldR size r.c fr (evL size l) ls).1 ∧ Below W.heap.size W w') :=
    fun v W hv hW => fold_wide size r.c fr v _ _ ls W (hT.later hW) hv (ho.later hW) hc.1 hc.2
  have HG : Hid (∀ B : Bool, (B = true ↔ (Mat r.e fr l ∧ (foldR size r.c fr (evL size l) ls).2 = 0 ∧ (foldR size r.c fr (evL size l) ls).1 = r.li)) → (B = true ↔ Sh size r fr l ls)) := fun _ h => h
  generalize hFR : foldR size r.c fr (evL size l) ls = FR at *
  have HLn : Hid ((evL size l).length = l.length) := evL_len size l
  have lib := hl.len
  generalize evL size l = LV at *
  clear hsig hFR hc ho
  have b1 := (Below.refl w.heap.size w).alloc (Nat.le_refl _) (.cells #[.int .i64 r.e, .int .i64 t, .slice tp tn tc, .int .i64 r.c, .slice lp r.li.length lc, .slice kp kn kc] 41)
  have n1 := heap_alloc_new w (.cells #[.int .i64 r.e, .int .i64 t, .slice tp tn tc, .int .i64 r.c, .slice lp r.li.length lc, .slice kp kn kc] 41)
  have s1 : (w.alloc (.cells #[.int .i64 r.e, .int .i64 t, .slice tp tn tc, .int .i64 r.c, .slice lp r.li.length lc, .slice kp kn kc] 41)).heap.size = w.heap.size + 1 := by simp
  obtain ⟨w1, hw1⟩ : ∃ w1, w.alloc (.cells #[.int .i64 r.e, .int .i64 t, .slice tp tn tc, .int .i64 r.c, .slice lp r.li.length lc, .slice kp kn kc] 41) = w1 := ⟨_, rfl⟩
  rw [hw1] at b1 n1 s1
  have rcell : ∀ W, Below (w.heap.size + 1) w1 W → W.cell? ⟨w.heap.size, 0, none⟩ = some (.int .i64 r.e) ∧ W.cell? ⟨w.heap.size, 3, none⟩ = some (.int .i64 r.c) ∧ W.cell? ⟨w.heap.size, 4, none⟩ = some (.slice lp r.li.length lc) := fun W hW => by
    have g := (hW.block _ (by omega)).trans n1
    refine ⟨?_, ?_, ?_⟩ <;> (rw [cell_of_row _ _ _ _ _ _ g]; rfl)
  go_enter Tryd.func28, Tryd.ntmps28
  go_wp2_with (first | (at_make; refine wpList_make_full _ rfl _ _ 33 rfl (w.heap.size + 1) 39 i0 (.slice none 0 0) 1 Tryd.underlying33 hi0 hz0 hz1 .i64 .i64 _ _ l.length rfl rfl ?_ ?_ ?_ ?_ ?_ ?_))
  all_goals (try (first | omega | (unfold maxLen; omega) | (rw [hz2]; omega) | (rw [s1]; omega)))
  intro w3 hown3 hgrow3
  (try rw [hw1] at hgrow3)
  have b3 : Below (w.heap.size + 1) w1 w3 := (Below.refl _ w1).grown hgrow3 (by rw [s1]; omega) (by intro k hk; cases hk)
  have hq3 : RQ w3 (w.heap.size + 1) (w.heap.size + 1) l.length 0 sig := ⟨_, hown3, fun j u hj => by omega⟩
  clear hown3 hgrow3 hw1
  go_wp2
  go_loopw [21] (fun i wr => ∃ k : Nat, k ≤ l.length ∧ i = .int .i64 (k : Int) ∧ Hid (∀ (j : Nat) x, j < k → l[j]? = some x → x.e = r.e ∧ x.i = fr + (j : Int)) ∧ RQ wr (w.heap.size + 1) (w.heap.size + 1) l.length k sig ∧ Below (w.heap.size + 1) w1 wr) (fun i _ => l.length - (intOf i).toNat)
  case atStart => exact ⟨0, Nat.zero_le _, rfl, (fun j x hj => absurd hj (Nat.not_lt_zero _)), hq3, b3⟩
  case round =>
    obtain ⟨k, hk, rfl, hm, hq, hbe⟩ := hrel
    clear hq3 b3
    obtain ⟨rc0, rc3, rc4⟩ := rcell wr hbe
    have hwr := b1.trans (hbe.mono (by omega))
    have hszr : w.heap.size + 1 ≤ wr.heap.size := by have := hbe.size; omega
    by_cases hlt : k < l.length
    · obtain ⟨bl, o, rfl⟩ := he.addr (by omega)
      obtain ⟨x, q1, k1, q2, k2, hx, hcs⟩ := he.get k hlt
      obtain ⟨⟨c0, c1, c2, c3⟩, h4, h5⟩ := hcs.later hwr
      have hlt2 : (k : Int) < (l.length : Int) := by omega
      have hsum : fr + (k : Int) ≤ 9223372036854775807 := by omega
      obtain ⟨C, hC⟩ : ∃ C, wr.alloc (.cells #[.int .i64 x.e, .int .i64 x.i, .slice q1 x.id.length k1, .slice q2 x.key.length k2] 53) = C := ⟨_, rfl⟩
      have bC := (Below.refl wr.heap.size wr).alloc (Nat.le_refl _) (.cells #[.int .i64 x.e, .int .i64 x.i, .slice q1 x.id.length k1, .slice q2 x.key.length k2] 53)
      have gC := heap_alloc_new wr (.cells #[.int .i64 x.e, .int .i64 x.i, .slice q1 x.id.length k1, .slice q2 x.key.length k2] 53)
      have hbC := hbe.alloc (by omega) (.cells #[.int .i64 x.e, .int .i64 x.i, .slice q1 x.id.length k1, .slice q2 x.key.length k2] 53)
      rw [hC] at bC gC hbC
      have f0 : C.cell? ⟨wr.heap.size, 0, none⟩ = some (.int .i64 x.e) := by rw [cell_of_row _ _ _ _ _ _ gC]; rfl
      have f1 : C.cell? ⟨wr.heap.size, 1, none⟩ = some (.int .i64 x.i) := by rw [cell_of_row _ _ _ _ _ _ gC]; rfl
      have f2 : C.cell? ⟨wr.heap.size, 2, none⟩ = some (.slice q1 x.id.length k1) := by rw [cell_of_row _ _ _ _ _ _ gC]; rfl
      have f3 : C.cell? ⟨wr.heap.size, 3, none⟩ = some (.slice q2 x.key.length k2) := by rw [cell_of_row _ _ _ _ _ _ gC]; rfl
      have rC0 : C.cell? ⟨w.heap.size, 0, none⟩ = some (.int .i64 r.e) := cell_later bC rc0
      have hbwC := b1.trans (hbC.mono (by omega))
      by_cases e1 : x.e = r.e
      · by_cases e2 : x.i = fr + (k : Int)
        · have hL := leaf_any12 size (.slice q1 x.id.length k1) (.slice q2 x.key.length k2) (x.id, x.key) C (h4.later bC) (h5.later bC) (hT.later hbwC)
          rw [← HS.out k x hx.out] at hL
          have hqC := hq.later bC
          have hm' : Hid (∀ (j : Nat) y, j < k + 1 → l[j]? = some y → y.e = r.e ∧ y.i = fr + (j : Int)) := by
            intro j y hj hy
            rcases Nat.lt_succ_iff_lt_or_eq.1 hj with h | rfl
            · exact hm.out j y h hy
            · rw [hx.out] at hy
              cases hy
              exact ⟨e1, e2⟩
          have n1 : (x.e != r.e) = false := by simp [e1]
          have n2 : (x.i != fr + (k : Int)) = false := by simp [e2]
          generalize x.e = xe at *
          generalize x.i = xi at *
          clear hx hcs h4 h5 hm hq gC e1 e2
          go_wp2_with fail
          refine hL.mono ?_
          rintro e w4 ⟨p4, c4, rfl, h4, b4, t4⟩
          have hq4 := hqC.later b4
          have hb04 := hbC.trans (b4.mono (by have := hbC.size; omega))
          obtain ⟨y, cy, fy⟩ := hq4.cell k hlt
          have hq5 := hq4.put _ h4 t4
          have hb5 : Below (w.heap.size + 1) w1 (w4.setCell ⟨w.heap.size + 1, k, none⟩ (.slice p4 (sig k).length c4)) := hb04.setCell (Nat.le_refl _) _
          clear hqC hq4 b4 hb04 h4 t4 hL bC hbC hbwC
          go_wp2
          go_roundw
          case rel => exact ⟨k + 1, by omega, by go_num, hm', hq5, hb5⟩
          case measure => simp [intOf]; omega
        · have n1 : (x.e != r.e) = false := by simp [e1]
          have n2 : (x.i != fr + (k : Int)) = true := by simpa using e2
          have HN : Hid (false = true ↔ Sh size r fr l ls) := by
            show _ ↔ _
            simp only [Bool.false_eq_true, false_iff]
            intro h
            exact e2 (h.1 k x hx.out).2
          generalize x.e = xe at *
          generalize x.i = xi at *
          clear hx hcs h4 h5 hm hq gC e1 e2 HF HG HS HP
          go_wp2
          go_ret
          exact ⟨false, rfl, HN, hbwC⟩
      · have n1 : (x.e != r.e) = true := by simpa using e1
        have HN : Hid (false = true ↔ Sh size r fr l ls) := by
          show _ ↔ _
          simp only [Bool.false_eq_true, false_iff]
          intro h
          exact e1 (h.1 k x hx.out).1
        generalize x.e = xe at *
        clear hx hcs h4 h5 hm hq gC e1 HF HG HS HP
        go_wp2
        go_ret
        exact ⟨false, rfl, HN, hbwC⟩
    · obtain rfl : k = l.length := by omega
      have hmat : Mat r.e fr l := fun j x hj => hm.out j x (List.getElem?_eq_some_iff.1 hj).1 hj
      have hpa := hq.rs.pa
      rw [HP.out] at hpa
      have hF := HF.out _ _ hpa hwr
      have hlw := hl.later hwr
      have HG2 := fun B h => HG.out B h
      clear HF hq hm HS HP hpa HG
      obtain ⟨F1, F2⟩ := FR
      dsimp only at hF HG2
      have HGB : Hid (∀ B : Bool, (B = true ↔ (F2 = 0 ∧ F1 = r.li)) → (B = true ↔ Sh size r fr l ls)) := fun B h => HG2 B (h.trans ⟨fun h => ⟨hmat, h⟩, fun h => h.2⟩)
      clear HG2 hmat
      go_wp2_with fail
      refine hF.mono ?_
      rintro e w5 ⟨p5, c5, rfl, h5, b5⟩
      have hb5 := hbe.trans (b5.mono (by omega))
      obtain ⟨_, _, rd4⟩ := rcell w5 hb5
      have hw5 := hwr.trans (b5.mono hwr.size)
      have hl5 := hlw.later b5
      clear hF
      by_cases ez : F2 = 0
      · subst ez
        have hE := equal_any _ _ F1 r.li w5 h5 hl5
        have HB2 := HGB.out (F1 == r.li) (by simp)
        have HB3 : Hid ((F1 == r.li) = true ↔ Sh size r fr l ls) := HB2
        clear HB2 HGB h5 hl5 hlw
        generalize (F1 == r.li) = BB at *
        go_wp2_with fail
        refine hE.mono ?_
        rintro e w6 ⟨rfl, hw6⟩
        subst hw6
        cases BB with
        | true =>
          go_wp2
          go_ret
          exact ⟨true, rfl, (show (true = true ↔ _) by simpa using HB3.out), hw5⟩
        | false =>
          go_wp2
          go_ret
          exact ⟨false, rfl, HB3, hw5⟩
      · have HB2 := HGB.out false (by simp [ez])
        have HB3 : Hid (false = true ↔ Sh size r fr l ls) := HB2
        have nz : (F2 == 0) = false := by simpa using ez
        clear HB2 HGB h5 hl5 hlw
        go_wp2
        go_ret
        exact ⟨false, rfl, HB3, hw5⟩

end Go.Proofs.YtggficgmjbgmpaaDoor

namespace Go.Proofs.YtggficgmjbgmpaaDoor
open Go.RowKit

theorem Mat.take {re fr : Int} {l : List Ev} {n : Nat} {k : Nat} {x : Ev} (h : Mat re fr (l.take n)) (hk : k < n) (hx : l[k]? = some x) : x.e = re ∧ x.i = fr + (k : Int) := h k x (by rw [List.getElem?_take, if_pos hk]; exact hx)

set_option maxRecDepth 100000 in
set_option maxHeartbeats 8000000 in
theorem repoch_any (size fr to t : Int) (r : Rk) (tp : Option Addr) (tn tc : Nat) (lp : Option Addr) (lc : Nat) (kp : Option Addr) (kn kc : Nat) (ev ov : Value) (l : List Ev) (ls : List (List UInt8)) (n : Nat) (w : World) (he : EA w ev l) (ho : PA w ov ls) (hl : HB w (.slice lp r.li.length lc) r.li) (hn : l.length ≤ 1000000) (h0 : 0 ≤ fr) (h1 : to = fr + (n : Int)) (h2 : to ≤ 9223372036854775807) :
    Calls Tryd.prog 29 #[.int .i64 size, .agg #[.int .i64 r.e, .int .i64 t, .slice tp tn tc, .int .i64 r.c, .slice lp r.li.length lc, .slice kp kn kc], .agg #[.int .i64 fr, .int .i64 to], ev, ov] w fun x w' => ∃ z : Int, x = .returned (.int .i64 z) ∧ ((z = (n : Int) ∧ Hid (n ≤ l.length ∧ Sh size r fr (l.take n) ls)) ∨ (z = -1 ∧ Hid (¬ (n ≤ l.length ∧ Sh size r fr (l.take n) ls)))) ∧ Below w.heap.size w w' := by
  subst h1
  obtain ⟨p, c, rfl⟩ := he.shape
  obtain ⟨q, d, rfl⟩ := ho.shape
  have hmx := he.len.2
  unfold maxLen at hmx
  obtain ⟨i0, hi0, hz0, hz1, hz2⟩ := info_parts i_bytes
  obtain ⟨w1, hw1⟩ : ∃ w1, (w.alloc (.cells #[.int .i64 r.e, .int .i64 t, .slice tp tn tc, .int .i64 r.c, .slice lp r.li.length lc, .slice kp kn kc] 41)).alloc (.cells #[.int .i64 fr, .int .i64 (fr + (n : Int))] 30) = w1 := ⟨_, rfl⟩
  have b1 := (Below.refl w.heap.size w).alloc (Nat.le_refl _) (.cells #[.int .i64 r.e, .int .i64 t, .slice tp tn tc, .int .i64 r.c, .slice lp r.li.length lc, .slice kp kn kc] 41)
  have b2 := b1.alloc b1.size (.cells #[.int .i64 fr, .int .i64 (fr + (n : Int))] 30)
  have n1 := heap_alloc_new w (.cells #[.int .i64 r.e, .int .i64 t, .slice tp tn tc, .int .i64 r.c, .slice lp r.li.length lc, .slice kp kn kc] 41)
  have s1 : (w.alloc (.cells #[.int .i64 r.e, .int .i64 t, .slice tp tn tc, .int .i64 r.c, .slice lp r.li.length lc, .slice kp kn kc] 41)).heap.size = w.heap.size + 1 := by simp
  have n2 := heap_alloc_new (w.alloc (.cells #[.int .i64 r.e, .int .i64 t, .slice tp tn tc, .int .i64 r.c, .slice lp r.li.length lc, .slice kp kn kc] 41)) (.cells #[.int .i64 fr, .int .i64 (fr + (n : Int))] 30)
  have m1 := (((Below.refl _ (w.alloc (.cells #[.int .i64 r.e, .int .i64 t, .slice tp tn tc, .int .i64 r.c, .slice lp r.li.length lc, .slice kp kn kc] 41))).alloc (Nat.le_refl _) (.cells #[.int .i64 fr, .int .i64 (fr + (n : Int))] 30)).block _ (by rw [s1]; omega)).trans n1
  have s2 : ((w.alloc (.cells #[.int .i64 r.e, .int .i64 t, .slice tp tn tc, .int .i64 r.c, .slice lp r.li.length lc, .slice kp kn kc] 41)).alloc (.cells #[.int .i64 fr, .int .i64 (fr + (n : Int))] 30)).heap.size = w.heap.size + 2 := by simp
  rw [s1] at n2
  rw [hw1] at n2 s2 m1 b2
  have rcell : ∀ W, Below (w.heap.size + 2) w1 W → (W.cell? ⟨w.heap.size, 0, none⟩ = some (.int .i64 r.e) ∧ W.cell? ⟨w.heap.size, 3, none⟩ = some (.int .i64 r.c) ∧ W.cell? ⟨w.heap.size, 4, none⟩ = some (.slice lp r.li.length lc)) ∧ W.cell? ⟨w.heap.size + 1, 0, none⟩ = some (.int .i64 fr) ∧ W.cell? ⟨w.heap.size + 1, 1, none⟩ = some (.int .i64 (fr + (n : Int))) := fun W hW => by
    have g := (hW.block _ (by omega)).trans m1
    have g' := (hW.block _ (by omega)).trans n2
    refine ⟨⟨?_, ?_, ?_⟩, ?_, ?_⟩
    · rw [cell_of_row _ _ _ _ _ _ g]; rfl
    · rw [cell_of_row _ _ _ _ _ _ g]; rfl
    · rw [cell_of_row _ _ _ _ _ _ g]; rfl
    · rw [cell_of_row _ _ _ _ _ _ g']; rfl
    · rw [cell_of_row _ _ _ _ _ _ g']; rfl
  obtain ⟨⟨d0, d3, d4⟩, d5, d6⟩ := rcell w1 (Below.refl _ _)
  have esub : fr + (n : Int) - fr = (n : Int) := by omega
  clear b1 n1 m1 n2 s1
  by_cases hnl : n ≤ l.length
  · have k1 : ∀ w, (Instr.slice 38 (.slice p l.length c) none (some (.int .i64 (n : Int))) none).run Tryd.prog w = .ok (.slice p n c) w := fun w => run_upto4 (P := Tryd.prog) Tryd.underlying38 s_event p l.length c n (by omega) w
    have HF : Hid (∀ v W, PA W v (evL size (l.take n)) → Below w.heap.size w W → Calls Tryd.prog 42 #[.int .i64 size, .int .i64 r.c, .int .i64 fr, v, .slice q ls.length d] W fun x w' => ∃ p c, x = .returned (.tuple #[.slice p (foldR size r.c fr (evL size (l.take n)) ls).1.length c, .int .i64 (foldR size r.c fr (evL size (l.take n)) ls).2]) ∧ HB w' (.slice p (foldR size r.c fr (evL size (l.take n)) ls).1.length c) (foldR size r.c fr (evL size (l.take n)) ls).1 ∧ Below W.heap.size W w') :=
      fun v W hv hW => rfold_wide size r.c fr v _ _ ls W hv (ho.later hW) (by rw [evL_len]; simp; omega)
    have HG : Hid ((Mat r.e fr (l.take n) ∧ (foldR size r.c fr (evL size (l.take n)) ls).2 = 0 ∧ (foldR size r.c fr (evL size (l.take n)) ls).1 = r.li) ↔ (n ≤ l.length ∧ Sh size r fr (l.take n) ls)) := ⟨fun h => ⟨hnl, h⟩, fun h => h.2⟩
    obtain ⟨FR, hFR⟩ : ∃ FR, foldR size r.c fr (evL size (l.take n)) ls = FR := ⟨_, rfl⟩
    rw [hFR] at HF HG
    have hng : ¬ ((l.length : Int) < (n : Int)) := by omega
    clear hFR ho
    go_enter Tryd.func29, Tryd.ntmps29
    go_wp2
    go_loopw [12, 30] (fun v i wr => ∃ k : Nat, k ≤ n ∧ i = .int .i64 (k : Int) ∧ Hid (∀ (j : Nat) x, j < k → l[j]? = some x → x.e = r.e ∧ x.i = fr + (j : Int)) ∧ RL wr (w.heap.size + 2) v (evL size (l.take k)) ∧ Below (w.heap.size + 2) w1 wr) (fun _ i _ => n - (intOf i).toNat)
    case atStart => exact ⟨0, Nat.zero_le _, rfl, (fun j x hj => absurd hj (Nat.not_lt_zero _)), RL.nil _ _, by (try rw [hw1]); exact Below.refl _ _⟩
    case round =>
      obtain ⟨k, hk, rfl, hm, hr, hbe⟩ := hrel
      obtain ⟨⟨rc0, rc3, rc4⟩, rc5, rc6⟩ := rcell wr hbe
      have hwr := b2.trans (hbe.mono (by omega))
      have hszr : w.heap.size + 2 ≤ wr.heap.size := by have := hbe.size; omega
      by_cases hlt : k < n
      · obtain ⟨bl, o, rfl⟩ := he.addr (by omega)
        obtain ⟨x, q1, k1', q2, k2, hx, hcs⟩ := he.get k (by omega)
        obtain ⟨⟨c0, c1, c2, c3⟩, h4, h5⟩ := hcs.later hwr
        have hlt2 : (k : Int) < (n : Int) := by omega
        have hsum : fr + (k : Int) ≤ 9223372036854775807 := by omega
        obtain ⟨C, hC⟩ : ∃ C, wr.alloc (.cells #[.int .i64 x.e, .int .i64 x.i, .slice q1 x.id.length k1', .slice q2 x.key.length k2] 53) = C := ⟨_, rfl⟩
        have bC := (Below.refl wr.heap.size wr).alloc (Nat.le_refl _) (.cells #[.int .i64 x.e, .int .i64 x.i, .slice q1 x.id.length k1', .slice q2 x.key.length k2] 53)
        have gC := heap_alloc_new wr (.cells #[.int .i64 x.e, .int .i64 x.i, .slice q1 x.id.length k1', .slice q2 x.key.length k2] 53)
        have hbC := hbe.alloc (by omega) (.cells #[.int .i64 x.e, .int .i64 x.i, .slice q1 x.id.length k1', .slice q2 x.key.length k2] 53)
        rw [hC] at bC gC hbC
        have f0 : C.cell? ⟨wr.heap.size, 0, none⟩ = some (.int .i64 x.e) := by rw [cell_of_row _ _ _ _ _ _ gC]; rfl
        have f1 : C.cell? ⟨wr.heap.size, 1, none⟩ = some (.int .i64 x.i) := by rw [cell_of_row _ _ _ _ _ _ gC]; rfl
        have f2 : C.cell? ⟨wr.heap.size, 2, none⟩ = some (.slice q1 x.id.length k1') := by rw [cell_of_row _ _ _ _ _ _ gC]; rfl
        have f3 : C.cell? ⟨wr.heap.size, 3, none⟩ = some (.slice q2 x.key.length k2) := by rw [cell_of_row _ _ _ _ _ _ gC]; rfl
        have rC0 : C.cell? ⟨w.heap.size, 0, none⟩ = some (.int .i64 r.e) := cell_later bC rc0
        have rC5 : C.cell? ⟨w.heap.size + 1, 0, none⟩ = some (.int .i64 fr) := cell_later bC rc5
        have hbwC := b2.trans (hbC.mono (by omega))
        by_cases e1 : x.e = r.e
        · by_cases e2 : x.i = fr + (k : Int)
          · have hL := rleaf_any12 size (.slice q1 x.id.length k1') (.slice q2 x.key.length k2) (x.id, x.key) C (h4.later bC) (h5.later bC)
            have HT : Hid (evL size (l.take k) ++ [clF size (x.id, x.key)] = evL size (l.take (k + 1))) := by
              show _ = _
              unfold evL
              rw [List.take_add_one, hx.out]
              simp
            have hAl : (evL size (l.take k)).length ≤ 1000000 := by rw [evL_len]; simp; omega
            generalize evL size (l.take k) = A at *
            generalize clF size (x.id, x.key) = F at *
            have hm' : Hid (∀ (j : Nat) y, j < k + 1 → l[j]? = some y → y.e = r.e ∧ y.i = fr + (j : Int)) := by
              intro j y hj hy
              rcases Nat.lt_succ_iff_lt_or_eq.1 hj with h | rfl
              · exact hm.out j y h hy
              · rw [hx.out] at hy
                cases hy
                exact ⟨e1, e2⟩
            have n1 : (x.e != r.e) = false := by simp [e1]
            have n2 : (x.i != fr + (k : Int)) = false := by simp [e2]
            have hrC := hr.later bC
            obtain ⟨pr, cr, rfl⟩ := hr.pa.shape
            generalize x.e = xe at *
            generalize x.i = xi at *
            clear hx hcs h4 h5 hm hr gC e1 e2
            go_wp2_with fail
            refine hL.mono ?_
            rintro e w3 ⟨p3, c3', rfl, h3, hb3, t3⟩
            have hb03 := hbC.trans (hb3.mono (by have := hbC.size; omega))
            obtain ⟨vs, o3, q3⟩ := hrC.later hb3
            have bB := (Below.refl w3.heap.size w3).alloc (Nat.le_refl _) (.cells #[.slice p3 F.length c3'] 39)
            have oB := owns_later o3 bB
            have s3 := hb03.size
            clear hL hrC hb3
            go_wp2_with (first | (at_builtin; refine wpList_append_own _ rfl (.tmp 49) (.tmp 57) 33 rfl (w.heap.size + 2) 39 i0 (.slice none 0 0) 1 24 Tryd.underlying33 hi0 hz0 hz1 hz2 rfl (by decide) _ _ _ rfl oB ⟨w3.heap.size, 0, none⟩ 1 1 [.slice p3 F.length c3'] rfl rfl (cell_one_new _ _ _) ?ub ?uc ?ud ?ue ?_))
            case ub => first | rfl | (intro u hu; simp at hu; subst hu; rfl)
            case uc => unfold maxLen; omega
            case ud => omega
            case ue => first | omega | (simp; omega)
            intro v6 w6 hown6 hgrow6 _
            have r6 : RL w6 (w.heap.size + 2) v6 (A ++ [F]) := RL.snoc oB (fun j u hu => ⟨(q3 j u hu).1.later bB, (q3 j u hu).2.later bB⟩) (h3.later bB) (t3.later bB) hgrow6 hown6
            have hb6 : Below (w.heap.size + 2) w1 w6 := (hb03.alloc (by omega) _).grown hgrow6 (by simp; omega) (fun k hk => (oB.lt k hk).1)
            rw [HT.out] at r6
            clear hown6 hgrow6 oB o3 q3 bB h3 t3 HT
            go_wp2
            go_roundw
            case rel => exact ⟨k + 1, by omega, by go_num, hm', r6, hb6⟩
            case measure => simp [intOf]; omega
          · have n1 : (x.e != r.e) = false := by simp [e1]
            have n2 : (x.i != fr + (k : Int)) = true := by simpa using e2
            have HN : Hid (¬ (n ≤ l.length ∧ Sh size r fr (l.take n) ls)) := fun h => e2 (h.2.1.take hlt hx.out).2
            obtain ⟨pr, cr, rfl⟩ := hr.pa.shape
            generalize x.e = xe at *
            generalize x.i = xi at *
            clear hx hcs h4 h5 hm hr gC e1 e2 HF HG
            go_wp2
            go_ret
            exact ⟨-1, rfl, .inr ⟨rfl, HN⟩, hbwC⟩
        · have n1 : (x.e != r.e) = true := by simpa using e1
          have HN : Hid (¬ (n ≤ l.length ∧ Sh size r fr (l.take n) ls)) := fun h => e1 (h.2.1.take hlt hx.out).1
          obtain ⟨pr, cr, rfl⟩ := hr.pa.shape
          generalize x.e = xe at *
          clear hx hcs h4 h5 hm hr gC e1 HF HG
          go_wp2
          go_ret
          exact ⟨-1, rfl, .inr ⟨rfl, HN⟩, hbwC⟩
      · obtain rfl : k = n := by omega
        have hmat : Mat r.e fr (l.take k) := fun j x hj => by
          rw [List.getElem?_take] at hj
          split at hj
          · next hjk => exact hm.out j x hjk hj
          · cases hj
        have hpa := hr.pa
        obtain ⟨pr, cr, rfl⟩ := hpa.shape
        have hF := HF.out _ _ hpa hwr
        have hlw := hl.later hwr
        obtain ⟨F1, F2⟩ := FR
        dsimp only at hF
        have HGB : Hid ((F2 = 0 ∧ F1 = r.li) ↔ (k ≤ l.length ∧ Sh size r fr (l.take k) ls)) := ⟨fun h => HG.out.1 ⟨hmat, h⟩, fun h => (HG.out.2 h).2⟩
        generalize (evL size (l.take k)).length = EL at *
        clear HF hr hm hpa HG hmat
        go_wp2_with fail
        refine hF.mono ?_
        rintro e w5 ⟨p5, c5, rfl, h5, b5⟩
        have hb5 := hbe.trans (b5.mono (by omega))
        obtain ⟨⟨_, _, rd4⟩, _, _⟩ := rcell w5 hb5
        have hw5 := hwr.trans (b5.mono hwr.size)
        have hl5 := hlw.later b5
        have qs1 := h5.str (P := Tryd.prog) 39 5 9 Tryd.underlying39 Tryd.underlying5 Tryd.underlying9
        have qs2 := hl5.str (P := Tryd.prog) 39 5 9 Tryd.underlying39 Tryd.underlying5 Tryd.underlying9
        clear hF hlw
        by_cases ez : F2 = 0
        · subst ez
          by_cases el : F1 = r.li
          · have HB3 : Hid (k ≤ l.length ∧ Sh size r fr (l.take k) ls) := HGB.out.1 ⟨rfl, el⟩
            subst el
            clear HGB
            go_wp2
            go_ret
            exact ⟨(k : Int), rfl, .inl ⟨rfl, HB3⟩, hw5⟩
          · have HB3 : Hid (¬ (k ≤ l.length ∧ Sh size r fr (l.take k) ls)) := fun h => el (HGB.out.2 h).2
            have hbq : (F1 == r.li) = false := beq_eq_false_iff_ne.2 el
            clear HGB el
            go_wp2
            go_ret
            exact ⟨-1, rfl, .inr ⟨rfl, HB3⟩, hw5⟩
        · have HB3 : Hid (¬ (k ≤ l.length ∧ Sh size r fr (l.take k) ls)) := fun h => ez (HGB.out.2 h).1
          have nz : (F2 != 0) = true := by simpa using ez
          clear HGB
          go_wp2
          go_ret
          exact ⟨-1, rfl, .inr ⟨rfl, HB3⟩, hw5⟩
  · have HN : Hid (¬ (n ≤ l.length ∧ Sh size r fr (l.take n) ls)) := fun h => hnl h.1
    have hng : ((l.length : Int) < (n : Int)) := by omega
    clear ho he
    go_enter Tryd.func29, Tryd.ntmps29
    go_wp2
    go_ret
    exact ⟨-1, rfl, .inr ⟨rfl, HN⟩, by (try rw [hw1]); exact b2⟩

end Go.Proofs.YtggficgmjbgmpaaDoor
