/- What this text proves: the walk of seek.Check over this program: what any looks find from any head. (By program: mkekchk.py.) -/
import Derived.Test.YtpndpmkoegmbkaaDoorJEt
namespace Go.Proofs.YtpndpmkoegmbkaaDoor
open Go.RowKit

/-- What Check answers. -/
def ChkSaid (R : Option Rc) (w : World) (x : Ending) (w' : World) : Prop :=
  ∃ tp tc lp lc kp kc, x = .returned (.tuple #[.agg (RVs (R.getD zR) tp tc lp lc kp kc), .int .i64 (if R.isSome then 0 else 95)]) ∧ HB w' (.slice tp (R.getD zR).tr.length tc) (R.getD zR).tr ∧ HB w' (.slice lp (R.getD zR).li.length lc) (R.getD zR).li ∧ PA w' (.slice kp (R.getD zR).lk.length kc) (R.getD zR).lk ∧ Below w.heap.size w w'

theorem fnd_nil (size : Int) (hd : Rc) (t : Int) (ss : List (List Rc)) (a : Rc) : fnd size hd t ss [] a = a := by cases ss <;> rfl

theorem five_of (w : World) (o0 o1 o2 o3 o4 : Obj) : ((((w.alloc o0).alloc o1).alloc o2).alloc o3).alloc o4 = ((((w.alloc o0).alloc o1).alloc o2).alloc o3).alloc o4 ∧ (((((w.alloc o0).alloc o1).alloc o2).alloc o3).alloc o4).heap.size = w.heap.size + 5 ∧ (((((w.alloc o0).alloc o1).alloc o2).alloc o3).alloc o4).heap[w.heap.size]? = some o0 ∧ (((((w.alloc o0).alloc o1).alloc o2).alloc o3).alloc o4).heap[w.heap.size + 1]? = some o1 ∧ (((((w.alloc o0).alloc o1).alloc o2).alloc o3).alloc o4).heap[w.heap.size + 2]? = some o2 ∧ (((((w.alloc o0).alloc o1).alloc o2).alloc o3).alloc o4).heap[w.heap.size + 3]? = some o3 ∧ (((((w.alloc o0).alloc o1).alloc o2).alloc o3).alloc o4).heap[w.heap.size + 4]? = some o4 ∧ Below w.heap.size w (((((w.alloc o0).alloc o1).alloc o2).alloc o3).alloc o4) := by
  have s1 : (w.alloc o0).heap.size = w.heap.size + 1 := by simp
  have s2 : ((w.alloc o0).alloc o1).heap.size = w.heap.size + 2 := by simp
  have s3 : (((w.alloc o0).alloc o1).alloc o2).heap.size = w.heap.size + 3 := by simp
  have s4 : ((((w.alloc o0).alloc o1).alloc o2).alloc o3).heap.size = w.heap.size + 4 := by simp
  have n0 := heap_alloc_new w o0
  have n1 := heap_alloc_new (w.alloc o0) o1
  have n2 := heap_alloc_new ((w.alloc o0).alloc o1) o2
  have n3 := heap_alloc_new (((w.alloc o0).alloc o1).alloc o2) o3
  have n4 := heap_alloc_new ((((w.alloc o0).alloc o1).alloc o2).alloc o3) o4
  rw [s1] at n1
  rw [s2] at n2
  rw [s3] at n3
  rw [s4] at n4
  have k1 : ∀ k, k < w.heap.size + 1 → ((w.alloc o0).alloc o1).heap[k]? = (w.alloc o0).heap[k]? := fun k hk => ((Below.refl _ (w.alloc o0)).alloc (Nat.le_refl _) o1).block k (by omega)
  have k2 : ∀ k, k < w.heap.size + 2 → (((w.alloc o0).alloc o1).alloc o2).heap[k]? = ((w.alloc o0).alloc o1).heap[k]? := fun k hk => ((Below.refl _ ((w.alloc o0).alloc o1)).alloc (Nat.le_refl _) o2).block k (by omega)
  have k3 : ∀ k, k < w.heap.size + 3 → ((((w.alloc o0).alloc o1).alloc o2).alloc o3).heap[k]? = (((w.alloc o0).alloc o1).alloc o2).heap[k]? := fun k hk => ((Below.refl _ (((w.alloc o0).alloc o1).alloc o2)).alloc (Nat.le_refl _) o3).block k (by omega)
  have k4 : ∀ k, k < w.heap.size + 4 → (((((w.alloc o0).alloc o1).alloc o2).alloc o3).alloc o4).heap[k]? = ((((w.alloc o0).alloc o1).alloc o2).alloc o3).heap[k]? := fun k hk => ((Below.refl _ ((((w.alloc o0).alloc o1).alloc o2).alloc o3)).alloc (Nat.le_refl _) o4).block k (by omega)
  have b1 := (Below.refl w.heap.size w).alloc (Nat.le_refl _) o0
  have b2 := b1.alloc b1.size o1
  have b3 := b2.alloc b2.size o2
  have b4 := b3.alloc b3.size o3
  refine ⟨rfl, by simp, ?_, ?_, ?_, ?_, n4, b4.alloc b4.size o4⟩
  · rw [k4 _ (by omega), k3 _ (by omega), k2 _ (by omega), k1 _ (by omega)]
    exact n0
  · rw [k4 _ (by omega), k3 _ (by omega), k2 _ (by omega)]
    exact n1
  · rw [k4 _ (by omega), k3 _ (by omega)]
    exact n2
  · rw [k4 _ (by omega)]
    exact n3

theorem two_of_alloc (w : World) (o0 o1 : Obj) : ((w.alloc o0).alloc o1).heap.size = w.heap.size + 2 ∧ ((w.alloc o0).alloc o1).heap[w.heap.size]? = some o0 ∧ ((w.alloc o0).alloc o1).heap[w.heap.size + 1]? = some o1 ∧ Below w.heap.size w ((w.alloc o0).alloc o1) := by
  have s1 : (w.alloc o0).heap.size = w.heap.size + 1 := by simp
  have n0 := heap_alloc_new w o0
  have n1 := heap_alloc_new (w.alloc o0) o1
  rw [s1] at n1
  have b1 := (Below.refl w.heap.size w).alloc (Nat.le_refl _) o0
  exact ⟨by simp, (((Below.refl _ (w.alloc o0)).alloc (Nat.le_refl _) o1).block _ (by omega)).trans n0, n1, b1.alloc b1.size o1⟩

set_option maxRecDepth 100000 in
set_option maxHeartbeats 8000000 in
theorem check_any (size t : Int) (hd : Rc) (tv lv kv sv : Value) (ss : List (List Rc)) (w : World) (h1 : HB w tv hd.tr) (h2 : HB w lv hd.li) (h3 : PA w kv hd.lk) (hQ : QA w sv ss) (hTD : TD w) (hT : Tabs w) :
    Calls Tryd.prog 14 #[.int .i64 size, .agg #[.int .i64 hd.e, .int .i64 hd.t, tv, .int .i64 hd.c, lv, kv], sv, .int .i64 t] w (ChkSaid (chkR size hd ss t) w) := by
  obtain ⟨htp, htc, rfl⟩ := h1.shape
  obtain ⟨hlp, hlc, rfl⟩ := h2.shape
  obtain ⟨hkp, hkc, rfl⟩ := h3.shape
  obtain ⟨sp, sc, rfl⟩ := hQ.shape
  have hQm : sc ≤ 9223372036854775807 := hQ.len.2.2
  have hQl := hQ.len.2.1
  obtain ⟨_, sX, gX0, gX1, gX2, gX3, gX4, bX⟩ := five_of w (.cells #[.int .i64 size] 3) (.cells #[.int .i64 hd.e, .int .i64 hd.t, .slice htp hd.tr.length htc, .int .i64 hd.c, .slice hlp hd.li.length hlc, .slice hkp hd.lk.length hkc] 25) (.cells #[.slice sp ss.length sc] 35) (.cells #[.int .i64 t] 3) (.cells #[.int .i64 0, .int .i64 0, .slice none 0 0, .int .i64 0, .slice none 0 0, .slice none 0 0] 25)
  obtain ⟨X, hX⟩ : ∃ X, ((((w.alloc (.cells #[.int .i64 size] 3)).alloc (.cells #[.int .i64 hd.e, .int .i64 hd.t, .slice htp hd.tr.length htc, .int .i64 hd.c, .slice hlp hd.li.length hlc, .slice hkp hd.lk.length hkc] 25)).alloc (.cells #[.slice sp ss.length sc] 35)).alloc (.cells #[.int .i64 t] 3)).alloc (.cells #[.int .i64 0, .int .i64 0, .slice none 0 0, .int .i64 0, .slice none 0 0, .slice none 0 0] 25) = X := ⟨_, rfl⟩
  rw [hX] at sX gX0 gX1 gX2 gX3 gX4 bX
  have hCan : Calls Tryd.prog 16 #[.int .i64 size, .agg #[.int .i64 hd.e, .int .i64 hd.t, .slice htp hd.tr.length htc, .int .i64 hd.c, .slice hlp hd.li.length hlc, .slice hkp hd.lk.length hkc]] X fun x w' => x = .returned (.bool (canB size hd)) ∧ Below X.heap.size X w' := can_any size hd.e hd.t hd.c _ _ _ hd.tr hd.li hd.lk X (h1.later bX) (h2.later bX) (h3.later bX) (hTD.later bX)
  have x0 : X.cell? ⟨w.heap.size, 0, none⟩ = some (.int .i64 size) := by rw [cell_of_row _ _ _ _ _ _ gX0]; rfl
  have hx0 : X.cell? ⟨w.heap.size + 1, 0, none⟩ = some (.int .i64 hd.e) := by rw [cell_of_row _ _ _ _ _ _ gX1]; rfl
  have hx1 : X.cell? ⟨w.heap.size + 1, 1, none⟩ = some (.int .i64 hd.t) := by rw [cell_of_row _ _ _ _ _ _ gX1]; rfl
  have hx2 : X.cell? ⟨w.heap.size + 1, 2, none⟩ = some (.slice htp hd.tr.length htc) := by rw [cell_of_row _ _ _ _ _ _ gX1]; rfl
  have hx3 : X.cell? ⟨w.heap.size + 1, 3, none⟩ = some (.int .i64 hd.c) := by rw [cell_of_row _ _ _ _ _ _ gX1]; rfl
  have hx4 : X.cell? ⟨w.heap.size + 1, 4, none⟩ = some (.slice hlp hd.li.length hlc) := by rw [cell_of_row _ _ _ _ _ _ gX1]; rfl
  have hx5 : X.cell? ⟨w.heap.size + 1, 5, none⟩ = some (.slice hkp hd.lk.length hkc) := by rw [cell_of_row _ _ _ _ _ _ gX1]; rfl
  have HC0 : Hid (canB size hd = false → chkR size hd ss t = none) := fun h => if_neg (fun q => by rw [h] at q; cases q.1)
  have HC1 : Hid (canB size hd = true → 0 ≤ hd.e ∧ hd.e < 4611686018427387904) := fun h => by
    obtain ⟨_, _, a3, a4, _⟩ := (canB_iff _ _).1 h
    exact ⟨by omega, by omega⟩
  have HC2 : Hid (canB size hd = true → chkR size hd ss t = if (srchA (gC size hd ss t) hd.e.toNat).2.isSome = true ∧ ss.length ≤ (srchA (gC size hd ss t) hd.e.toNat).1.length then some (fnd size hd t ss (srchA (gC size hd ss t) hd.e.toNat).1 zR) else none) := fun h => by
    show _ = _
    unfold chkR
    simp only [h, true_and]
  generalize hR0 : chkR size hd ss t = R at *
  clear hR0
  generalize hCB : canB size hd = CB at *
  go_enter Tryd.func14, Tryd.ntmps14
  go_wp2_with fail
  first | rw [hX] | skip
  refine hCan.mono ?_
  rintro x w2 ⟨rfl, b2⟩
  have g20 := (b2.block _ (by omega)).trans gX0
  have g21 := (b2.block _ (by omega)).trans gX1
  have g22 := (b2.block _ (by omega)).trans gX2
  have g23 := (b2.block _ (by omega)).trans gX3
  have g24 : w2.heap[w.heap.size + 1 + 1 + 1 + 1]? = some (.cells #[.int .i64 0, .int .i64 0, .slice none 0 0, .int .i64 0, .slice none 0 0, .slice none 0 0] 25) := (b2.block _ (by omega)).trans gX4
  have bw2 := bX.trans (b2.mono bX.size)
  have s2 := b2.size
  clear hCan gX0 gX1 gX2 gX3 gX4 bX b2 x0 hx0 hx1 hx2 hx3 hx4 hx5
  cases CB with
  | false =>
    have HR : Hid (R = none) := HC0.out rfl
    clear HC0 HC1 HC2 hQ h1 h2 h3 hTD hT hX
    have x0 : w2.cell? ⟨w.heap.size + 1 + 1 + 1 + 1, 0, none⟩ = some (.int .i64 0) := by rw [cell_of_row _ _ _ _ _ _ g24]; rfl
    have x1 : w2.cell? ⟨w.heap.size + 1 + 1 + 1 + 1, 1, none⟩ = some (.int .i64 0) := by rw [cell_of_row _ _ _ _ _ _ g24]; rfl
    have x2 : w2.cell? ⟨w.heap.size + 1 + 1 + 1 + 1, 2, none⟩ = some (.slice none 0 0) := by rw [cell_of_row _ _ _ _ _ _ g24]; rfl
    have x3 : w2.cell? ⟨w.heap.size + 1 + 1 + 1 + 1, 3, none⟩ = some (.int .i64 0) := by rw [cell_of_row _ _ _ _ _ _ g24]; rfl
    have x4 : w2.cell? ⟨w.heap.size + 1 + 1 + 1 + 1, 4, none⟩ = some (.slice none 0 0) := by rw [cell_of_row _ _ _ _ _ _ g24]; rfl
    have x5 : w2.cell? ⟨w.heap.size + 1 + 1 + 1 + 1, 5, none⟩ = some (.slice none 0 0) := by rw [cell_of_row _ _ _ _ _ _ g24]; rfl
    have z0 : w2.frozen? ⟨w.heap.size + 1 + 1 + 1 + 1, 0, none⟩ = false := frz_of g24
    have z1 : w2.frozen? ⟨w.heap.size + 1 + 1 + 1 + 1, 1, none⟩ = false := frz_of g24
    have z2 : w2.frozen? ⟨w.heap.size + 1 + 1 + 1 + 1, 2, none⟩ = false := frz_of g24
    have z3 : w2.frozen? ⟨w.heap.size + 1 + 1 + 1 + 1, 3, none⟩ = false := frz_of g24
    have z4 : w2.frozen? ⟨w.heap.size + 1 + 1 + 1 + 1, 4, none⟩ = false := frz_of g24
    have z5 : w2.frozen? ⟨w.heap.size + 1 + 1 + 1 + 1, 5, none⟩ = false := frz_of g24
    have hon : Only (w.heap.size + 1 + 1 + 1 + 1) w2 (((((((w2).setCell ⟨w.heap.size + 1 + 1 + 1 + 1, 0, none⟩ (.int .i64 0)).setCell ⟨w.heap.size + 1 + 1 + 1 + 1, 1, none⟩ (.int .i64 0)).setCell ⟨w.heap.size + 1 + 1 + 1 + 1, 2, none⟩ (.slice none 0 0)).setCell ⟨w.heap.size + 1 + 1 + 1 + 1, 3, none⟩ (.int .i64 0)).setCell ⟨w.heap.size + 1 + 1 + 1 + 1, 4, none⟩ (.slice none 0 0)).setCell ⟨w.heap.size + 1 + 1 + 1 + 1, 5, none⟩ (.slice none 0 0)) := ((((((Only.refl _ _).setCell 0 _).setCell 1 _).setCell 2 _).setCell 3 _).setCell 4 _).setCell 5 _
    have bf : Below w.heap.size w (((((((w2).setCell ⟨w.heap.size + 1 + 1 + 1 + 1, 0, none⟩ (.int .i64 0)).setCell ⟨w.heap.size + 1 + 1 + 1 + 1, 1, none⟩ (.int .i64 0)).setCell ⟨w.heap.size + 1 + 1 + 1 + 1, 2, none⟩ (.slice none 0 0)).setCell ⟨w.heap.size + 1 + 1 + 1 + 1, 3, none⟩ (.int .i64 0)).setCell ⟨w.heap.size + 1 + 1 + 1 + 1, 4, none⟩ (.slice none 0 0)).setCell ⟨w.heap.size + 1 + 1 + 1 + 1, 5, none⟩ (.slice none 0 0)) := bw2.trans (hon.below (by omega))
    clear hon
    go_wp2
    refine bodyPost_ret (v := .tuple #[.agg #[.int .i64 0, .int .i64 0, .slice none 0 0, .int .i64 0, .slice none 0 0, .slice none 0 0], .int .i64 95]) ?_ rfl ?_
    · simp only [results, Tryd.results14]
      go_simp
    · rw [HR.out]
      exact ⟨none, 0, none, 0, none, 0, rfl, HB.nil _, HB.nil _, PA.nil _, bf⟩
  | true =>
    obtain ⟨a3, a4⟩ := HC1.out rfl
    have hRR := HC2.out rfl
    clear HC0 HC1 HC2
    obtain ⟨N, hN⟩ : ∃ N : Nat, hd.e = (N : Int) := ⟨hd.e.toNat, by omega⟩
    have hNt : hd.e.toNat = N := by omega
    rw [hNt] at hRR
    obtain ⟨sW, gF, gL, b3⟩ := two_of_alloc w2 (.cells #[.int .i64 0, .int .i64 0, .slice none 0 0, .int .i64 0, .slice none 0 0, .slice none 0 0] 25) (.cells #[.int .i64 0] 3)
    obtain ⟨W1, hW1⟩ : ∃ W1, (w2.alloc (.cells #[.int .i64 0, .int .i64 0, .slice none 0 0, .int .i64 0, .slice none 0 0, .slice none 0 0] 25)).alloc (.cells #[.int .i64 0] 3) = W1 := ⟨_, rfl⟩
    rw [hW1] at sW gF gL b3
    have g30 := (b3.block _ (by omega)).trans g20
    have g31 := (b3.block _ (by omega)).trans g21
    have g32 := (b3.block _ (by omega)).trans g22
    have g33 := (b3.block _ (by omega)).trans g23
    have bw := bw2.trans (b3.mono bw2.size)
    have hJ0 : CJ w2.heap.size size t hd ss W1 [] W1 := ⟨Below.refl _ _, none, 0, none, 0, none, 0, by rw [fnd_nil]; exact gF, by simpa using gL, by rw [fnd_nil]; exact RT.zero _⟩
    have hS := search_any 30 #[.pointer (some ⟨w2.heap.size + 1, 0, none⟩), .pointer (some ⟨w.heap.size + 2, 0, none⟩), .pointer (some ⟨w.heap.size, 0, none⟩), .pointer (some ⟨w.heap.size + 1, 0, none⟩), .pointer (some ⟨w.heap.size + 3, 0, none⟩), .pointer (some ⟨w2.heap.size, 0, none⟩)] eg_checkF (gC size hd ss t) N (by omega) (CJ w2.heap.size size t hd ss W1) W1 hJ0
      (fun l m w' _ _ hJ => checkF_walk w.heap.size w2.heap.size size t hd htp htc hlp hlc hkp hkc sp sc ss w W1 l m w' h1 h2 h3 hQ hTD hT rfl (by omega) bw g30 g31 g32 g33 hJ)
    rw [← hN] at hS
    have hE : W1.cell? ⟨w.heap.size + 1, 0, none⟩ = some (.int .i64 hd.e) := by rw [cell_of_row _ _ _ _ _ _ g31]; rfl
    generalize srchA (gC size hd ss t) N = A at *
    have e1 : (w2.alloc (.cells #[.int .i64 0, .int .i64 0, .slice none 0 0, .int .i64 0, .slice none 0 0, .slice none 0 0] 25)).heap.size = w2.heap.size + 1 := by simp
    have HW1 : Hid ((w2.alloc (.cells #[.int .i64 0, .int .i64 0, .slice none 0 0, .int .i64 0, .slice none 0 0, .slice none 0 0] 25)).alloc (.cells #[.int .i64 0] 3) = W1) := hW1
    have HRR : Hid (R = if A.2.isSome = true ∧ ss.length ≤ A.1.length then some (fnd size hd t ss A.1 zR) else none) := hRR
    have hE2 : ((w2.alloc (.cells #[.int .i64 0, .int .i64 0, .slice none 0 0, .int .i64 0, .slice none 0 0, .slice none 0 0] 25)).alloc (.cells #[.int .i64 0] 3)).cell? ⟨w.heap.size + 1, 0, none⟩ = some (.int .i64 hd.e) := by rw [hW1]; exact hE
    have hE3 : w2.cell? ⟨w.heap.size + 1, 0, none⟩ = some (.int .i64 hd.e) := by rw [cell_of_row _ _ _ _ _ _ g21]; rfl
    clear hW1 hRR hJ0 g30 h1 h2 h3 hQ hTD hT g20 g21 g23 gF gL hNt hN hX
    have hz4 : W1.heap[w.heap.size + 1 + 1 + 1 + 1]? = some (.cells #[.int .i64 0, .int .i64 0, .slice none 0 0, .int .i64 0, .slice none 0 0, .slice none 0 0] 25) := (b3.block _ (by omega)).trans g24
    go_wp2_with fail
    first | rw [HW1.out] | skip
    refine hS.mono ?_
    rintro x w3 ⟨⟨hB3, tp, tc, lp, lc, kp, kc, F3, L3, rRT⟩, hcase⟩
    have Z3 := (hB3.block _ (by omega)).trans hz4
    have bw3 := bw.trans (hB3.mono (by omega))
    have q2 := (hB3.block _ (by omega)).trans g32
    have k2 : w3.cell? ⟨w.heap.size + 1 + 1, 0, none⟩ = some (.slice sp ss.length sc) := by rw [cell_of_row _ _ _ _ _ _ q2]; rfl
    have kL : w3.cell? ⟨w2.heap.size + 1, 0, none⟩ = some (.int .i64 ((min A.1.length ss.length : Nat) : Int)) := by rw [cell_of_row _ _ _ _ _ _ L3]; rfl
    have hs3 := hB3.size
    clear hS b3 bw2 g24 g31 g32 g33 g22 L3 q2 hB3 hz4 bw hE HW1 hE2 hE3
    rcases hcase with ⟨hA, rfl⟩ | ⟨n, hA, rfl⟩
    · have HR : Hid (R = none) := by
        show _ = _
        rw [HRR.out, hA]
        simp
      clear HRR hA rRT F3
      have x0 : w3.cell? ⟨w.heap.size + 1 + 1 + 1 + 1, 0, none⟩ = some (.int .i64 0) := by rw [cell_of_row _ _ _ _ _ _ Z3]; rfl
      have x1 : w3.cell? ⟨w.heap.size + 1 + 1 + 1 + 1, 1, none⟩ = some (.int .i64 0) := by rw [cell_of_row _ _ _ _ _ _ Z3]; rfl
      have x2 : w3.cell? ⟨w.heap.size + 1 + 1 + 1 + 1, 2, none⟩ = some (.slice none 0 0) := by rw [cell_of_row _ _ _ _ _ _ Z3]; rfl
      have x3 : w3.cell? ⟨w.heap.size + 1 + 1 + 1 + 1, 3, none⟩ = some (.int .i64 0) := by rw [cell_of_row _ _ _ _ _ _ Z3]; rfl
      have x4 : w3.cell? ⟨w.heap.size + 1 + 1 + 1 + 1, 4, none⟩ = some (.slice none 0 0) := by rw [cell_of_row _ _ _ _ _ _ Z3]; rfl
      have x5 : w3.cell? ⟨w.heap.size + 1 + 1 + 1 + 1, 5, none⟩ = some (.slice none 0 0) := by rw [cell_of_row _ _ _ _ _ _ Z3]; rfl
      have z0 : w3.frozen? ⟨w.heap.size + 1 + 1 + 1 + 1, 0, none⟩ = false := frz_of Z3
      have z1 : w3.frozen? ⟨w.heap.size + 1 + 1 + 1 + 1, 1, none⟩ = false := frz_of Z3
      have z2 : w3.frozen? ⟨w.heap.size + 1 + 1 + 1 + 1, 2, none⟩ = false := frz_of Z3
      have z3 : w3.frozen? ⟨w.heap.size + 1 + 1 + 1 + 1, 3, none⟩ = false := frz_of Z3
      have z4 : w3.frozen? ⟨w.heap.size + 1 + 1 + 1 + 1, 4, none⟩ = false := frz_of Z3
      have z5 : w3.frozen? ⟨w.heap.size + 1 + 1 + 1 + 1, 5, none⟩ = false := frz_of Z3
      have hon : Only (w.heap.size + 1 + 1 + 1 + 1) w3 (((((((w3).setCell ⟨w.heap.size + 1 + 1 + 1 + 1, 0, none⟩ (.int .i64 0)).setCell ⟨w.heap.size + 1 + 1 + 1 + 1, 1, none⟩ (.int .i64 0)).setCell ⟨w.heap.size + 1 + 1 + 1 + 1, 2, none⟩ (.slice none 0 0)).setCell ⟨w.heap.size + 1 + 1 + 1 + 1, 3, none⟩ (.int .i64 0)).setCell ⟨w.heap.size + 1 + 1 + 1 + 1, 4, none⟩ (.slice none 0 0)).setCell ⟨w.heap.size + 1 + 1 + 1 + 1, 5, none⟩ (.slice none 0 0)) := ((((((Only.refl _ _).setCell 0 _).setCell 1 _).setCell 2 _).setCell 3 _).setCell 4 _).setCell 5 _
      have bf : Below w.heap.size w (((((((w3).setCell ⟨w.heap.size + 1 + 1 + 1 + 1, 0, none⟩ (.int .i64 0)).setCell ⟨w.heap.size + 1 + 1 + 1 + 1, 1, none⟩ (.int .i64 0)).setCell ⟨w.heap.size + 1 + 1 + 1 + 1, 2, none⟩ (.slice none 0 0)).setCell ⟨w.heap.size + 1 + 1 + 1 + 1, 3, none⟩ (.int .i64 0)).setCell ⟨w.heap.size + 1 + 1 + 1 + 1, 4, none⟩ (.slice none 0 0)).setCell ⟨w.heap.size + 1 + 1 + 1 + 1, 5, none⟩ (.slice none 0 0)) := bw3.trans (hon.below (by omega))
      clear hon
      go_wp2
      refine bodyPost_ret (v := .tuple #[.agg #[.int .i64 0, .int .i64 0, .slice none 0 0, .int .i64 0, .slice none 0 0, .slice none 0 0], .int .i64 95]) ?_ rfl ?_
      · simp only [results, Tryd.results14]
        go_simp
      · rw [HR.out]
        exact ⟨none, 0, none, 0, none, 0, rfl, HB.nil _, HB.nil _, PA.nil _, bf⟩
    · by_cases hle : ss.length ≤ A.1.length
      · have HR : Hid (R = some (fnd size hd t ss A.1 zR)) := by
          show _ = _
          rw [HRR.out, hA, if_pos ⟨rfl, hle⟩]
        have em : min A.1.length ss.length = ss.length := by omega
        rw [em] at kL
        generalize fnd size hd t ss A.1 zR = r at *
        clear HRR hA em hle
        have y0 : w3.cell? ⟨w2.heap.size, 0, none⟩ = some (.int .i64 r.e) := by rw [cell_of_row _ _ _ _ _ _ F3]; rfl
        have y1 : w3.cell? ⟨w2.heap.size, 1, none⟩ = some (.int .i64 r.t) := by rw [cell_of_row _ _ _ _ _ _ F3]; rfl
        have y2 : w3.cell? ⟨w2.heap.size, 2, none⟩ = some (.slice tp r.tr.length tc) := by rw [cell_of_row _ _ _ _ _ _ F3]; rfl
        have y3 : w3.cell? ⟨w2.heap.size, 3, none⟩ = some (.int .i64 r.c) := by rw [cell_of_row _ _ _ _ _ _ F3]; rfl
        have y4 : w3.cell? ⟨w2.heap.size, 4, none⟩ = some (.slice lp r.li.length lc) := by rw [cell_of_row _ _ _ _ _ _ F3]; rfl
        have y5 : w3.cell? ⟨w2.heap.size, 5, none⟩ = some (.slice kp r.lk.length kc) := by rw [cell_of_row _ _ _ _ _ _ F3]; rfl
        have x0 : w3.cell? ⟨w.heap.size + 1 + 1 + 1 + 1, 0, none⟩ = some (.int .i64 0) := by rw [cell_of_row _ _ _ _ _ _ Z3]; rfl
        have x1 : w3.cell? ⟨w.heap.size + 1 + 1 + 1 + 1, 1, none⟩ = some (.int .i64 0) := by rw [cell_of_row _ _ _ _ _ _ Z3]; rfl
        have x2 : w3.cell? ⟨w.heap.size + 1 + 1 + 1 + 1, 2, none⟩ = some (.slice none 0 0) := by rw [cell_of_row _ _ _ _ _ _ Z3]; rfl
        have x3 : w3.cell? ⟨w.heap.size + 1 + 1 + 1 + 1, 3, none⟩ = some (.int .i64 0) := by rw [cell_of_row _ _ _ _ _ _ Z3]; rfl
        have x4 : w3.cell? ⟨w.heap.size + 1 + 1 + 1 + 1, 4, none⟩ = some (.slice none 0 0) := by rw [cell_of_row _ _ _ _ _ _ Z3]; rfl
        have x5 : w3.cell? ⟨w.heap.size + 1 + 1 + 1 + 1, 5, none⟩ = some (.slice none 0 0) := by rw [cell_of_row _ _ _ _ _ _ Z3]; rfl
        have z0 : w3.frozen? ⟨w.heap.size + 1 + 1 + 1 + 1, 0, none⟩ = false := frz_of Z3
        have z1 : w3.frozen? ⟨w.heap.size + 1 + 1 + 1 + 1, 1, none⟩ = false := frz_of Z3
        have z2 : w3.frozen? ⟨w.heap.size + 1 + 1 + 1 + 1, 2, none⟩ = false := frz_of Z3
        have z3 : w3.frozen? ⟨w.heap.size + 1 + 1 + 1 + 1, 3, none⟩ = false := frz_of Z3
        have z4 : w3.frozen? ⟨w.heap.size + 1 + 1 + 1 + 1, 4, none⟩ = false := frz_of Z3
        have z5 : w3.frozen? ⟨w.heap.size + 1 + 1 + 1 + 1, 5, none⟩ = false := frz_of Z3
        have hon : Only (w.heap.size + 1 + 1 + 1 + 1) w3 (((((((w3).setCell ⟨w.heap.size + 1 + 1 + 1 + 1, 0, none⟩ (.int .i64 r.e)).setCell ⟨w.heap.size + 1 + 1 + 1 + 1, 1, none⟩ (.int .i64 r.t)).setCell ⟨w.heap.size + 1 + 1 + 1 + 1, 2, none⟩ (.slice tp r.tr.length tc)).setCell ⟨w.heap.size + 1 + 1 + 1 + 1, 3, none⟩ (.int .i64 r.c)).setCell ⟨w.heap.size + 1 + 1 + 1 + 1, 4, none⟩ (.slice lp r.li.length lc)).setCell ⟨w.heap.size + 1 + 1 + 1 + 1, 5, none⟩ (.slice kp r.lk.length kc)) := ((((((Only.refl _ _).setCell 0 _).setCell 1 _).setCell 2 _).setCell 3 _).setCell 4 _).setCell 5 _
        have bf : Below w.heap.size w (((((((w3).setCell ⟨w.heap.size + 1 + 1 + 1 + 1, 0, none⟩ (.int .i64 r.e)).setCell ⟨w.heap.size + 1 + 1 + 1 + 1, 1, none⟩ (.int .i64 r.t)).setCell ⟨w.heap.size + 1 + 1 + 1 + 1, 2, none⟩ (.slice tp r.tr.length tc)).setCell ⟨w.heap.size + 1 + 1 + 1 + 1, 3, none⟩ (.int .i64 r.c)).setCell ⟨w.heap.size + 1 + 1 + 1 + 1, 4, none⟩ (.slice lp r.li.length lc)).setCell ⟨w.heap.size + 1 + 1 + 1 + 1, 5, none⟩ (.slice kp r.lk.length kc)) := bw3.trans (hon.below (by omega))
        have tk := TK.of_only (T := 25) hon Z3
        obtain ⟨G, v1, v2, v3⟩ := rRT.tk tk (by decide) (by decide)
        have u1 := v1.1
        have u2 := v2.1
        have u3 := v3.pa
        clear hon tk v1 v2 v3 rRT
        go_wp2
        refine bodyPost_ret (v := .tuple #[.agg #[.int .i64 r.e, .int .i64 r.t, .slice tp r.tr.length tc, .int .i64 r.c, .slice lp r.li.length lc, .slice kp r.lk.length kc], .int .i64 0]) ?_ rfl ?_
        · simp only [results, Tryd.results14]
          go_simp
        · rw [HR.out]
          exact ⟨tp, tc, lp, lc, kp, kc, rfl, u1, u2, u3, bf⟩
      · have HR : Hid (R = none) := by
          show _ = _
          rw [HRR.out, if_neg (fun h => hle h.2)]
        have em : min A.1.length ss.length = A.1.length := by omega
        rw [em] at kL
        generalize A.1.length = J at *
        have hne : ((J : Int) != (ss.length : Int)) = true := by simp; omega
        clear HRR hA em rRT F3
        have x0 : w3.cell? ⟨w.heap.size + 1 + 1 + 1 + 1, 0, none⟩ = some (.int .i64 0) := by rw [cell_of_row _ _ _ _ _ _ Z3]; rfl
        have x1 : w3.cell? ⟨w.heap.size + 1 + 1 + 1 + 1, 1, none⟩ = some (.int .i64 0) := by rw [cell_of_row _ _ _ _ _ _ Z3]; rfl
        have x2 : w3.cell? ⟨w.heap.size + 1 + 1 + 1 + 1, 2, none⟩ = some (.slice none 0 0) := by rw [cell_of_row _ _ _ _ _ _ Z3]; rfl
        have x3 : w3.cell? ⟨w.heap.size + 1 + 1 + 1 + 1, 3, none⟩ = some (.int .i64 0) := by rw [cell_of_row _ _ _ _ _ _ Z3]; rfl
        have x4 : w3.cell? ⟨w.heap.size + 1 + 1 + 1 + 1, 4, none⟩ = some (.slice none 0 0) := by rw [cell_of_row _ _ _ _ _ _ Z3]; rfl
        have x5 : w3.cell? ⟨w.heap.size + 1 + 1 + 1 + 1, 5, none⟩ = some (.slice none 0 0) := by rw [cell_of_row _ _ _ _ _ _ Z3]; rfl
        have z0 : w3.frozen? ⟨w.heap.size + 1 + 1 + 1 + 1, 0, none⟩ = false := frz_of Z3
        have z1 : w3.frozen? ⟨w.heap.size + 1 + 1 + 1 + 1, 1, none⟩ = false := frz_of Z3
        have z2 : w3.frozen? ⟨w.heap.size + 1 + 1 + 1 + 1, 2, none⟩ = false := frz_of Z3
        have z3 : w3.frozen? ⟨w.heap.size + 1 + 1 + 1 + 1, 3, none⟩ = false := frz_of Z3
        have z4 : w3.frozen? ⟨w.heap.size + 1 + 1 + 1 + 1, 4, none⟩ = false := frz_of Z3
        have z5 : w3.frozen? ⟨w.heap.size + 1 + 1 + 1 + 1, 5, none⟩ = false := frz_of Z3
        have hon : Only (w.heap.size + 1 + 1 + 1 + 1) w3 (((((((w3).setCell ⟨w.heap.size + 1 + 1 + 1 + 1, 0, none⟩ (.int .i64 0)).setCell ⟨w.heap.size + 1 + 1 + 1 + 1, 1, none⟩ (.int .i64 0)).setCell ⟨w.heap.size + 1 + 1 + 1 + 1, 2, none⟩ (.slice none 0 0)).setCell ⟨w.heap.size + 1 + 1 + 1 + 1, 3, none⟩ (.int .i64 0)).setCell ⟨w.heap.size + 1 + 1 + 1 + 1, 4, none⟩ (.slice none 0 0)).setCell ⟨w.heap.size + 1 + 1 + 1 + 1, 5, none⟩ (.slice none 0 0)) := ((((((Only.refl _ _).setCell 0 _).setCell 1 _).setCell 2 _).setCell 3 _).setCell 4 _).setCell 5 _
        have bf : Below w.heap.size w (((((((w3).setCell ⟨w.heap.size + 1 + 1 + 1 + 1, 0, none⟩ (.int .i64 0)).setCell ⟨w.heap.size + 1 + 1 + 1 + 1, 1, none⟩ (.int .i64 0)).setCell ⟨w.heap.size + 1 + 1 + 1 + 1, 2, none⟩ (.slice none 0 0)).setCell ⟨w.heap.size + 1 + 1 + 1 + 1, 3, none⟩ (.int .i64 0)).setCell ⟨w.heap.size + 1 + 1 + 1 + 1, 4, none⟩ (.slice none 0 0)).setCell ⟨w.heap.size + 1 + 1 + 1 + 1, 5, none⟩ (.slice none 0 0)) := bw3.trans (hon.below (by omega))
        clear hon
        go_wp2
        refine bodyPost_ret (v := .tuple #[.agg #[.int .i64 0, .int .i64 0, .slice none 0 0, .int .i64 0, .slice none 0 0, .slice none 0 0], .int .i64 95]) ?_ rfl ?_
        · simp only [results, Tryd.results14]
          go_simp
        · rw [HR.out]
          exact ⟨none, 0, none, 0, none, 0, rfl, HB.nil _, HB.nil _, PA.nil _, bf⟩

end Go.Proofs.YtpndpmkoegmbkaaDoor
