/- What this text proves: the walk of the function that mts.tree hands to sync.Once over this program: all levels of the tree are laid into the keys. -/
import Derived.Test.YtdjaemobfbbkoaaDoorJOnce
import Derived.Deep.RegionHeld3
import Derived.Deep.RegionLaw
import Derived.Deep.AppendLies
namespace Go.Proofs.YtdjaemobfbbkoaaDoor
open Go.RowKit

theorem i_rows : (Tryd.prog.info? 28).map (fun i => (i.zero, i.size, i.bytes)) = some (some (.slice none 0 0), 1, 24) := by kernel_rfl

theorem Tabs.only {g : Nat} {w w' : World} (h : Tabs w) (ho : Only g w w') (hg : 1 < g) : Tabs w' := by
  obtain ⟨⟨t, fr, h0⟩, h1⟩ := h
  refine ⟨⟨t, fr, ?_⟩, ?_⟩
  · rw [ho.block 0 (by omega) (Array.getElem?_eq_some_iff.1 h0).1]
    exact h0
  · intro i x hx
    have hc := h1 i x hx
    rw [World.cell?_of_block (ho.block 1 (by omega) (cell_lt hc))]
    exact hc

set_option maxRecDepth 100000 in
set_option maxHeartbeats 8000000 in
theorem treef_any (n h g bp : Nat) (p : Option Addr) (c : Nat) (seed : List UInt8) (lv0 : Value) (w : World) (k : KO w g n h (.slice p seed.length c) 0 1 lv0) (hs : HB w (.slice p seed.length c) seed)
    (hp : w.cell? ⟨bp, 0, none⟩ = some (.pointer (some ⟨g, 0, none⟩))) (hne : bp ≠ g) (hg1 : 1 < g) (hsl : seed.length ≤ 64) (hn : 1 ≤ n) (hn2 : n ≤ 32) (hh : h ≤ 8) (hT : Tabs w) :
    Calls Tryd.prog 50 #[.pointer (some ⟨bp, 0, none⟩)] w fun e w' => e = .returned (.tuple #[]) ∧ ∃ lv, KO w' g n h (.slice p seed.length c) 0 1 lv ∧ TL w' w.heap.size n h seed lv (h + 1) ∧ Only g w w' := by
  have c0 := k.c0
  have c1 := k.c1
  have c2 := k.c2
  have hgl := k.lt
  have hpl := cell_lt hp
  obtain ⟨i0, hi0, hz0, hz1, hz2⟩ := info_parts i_rows
  have hL := fun w' h' hT' => leaves_any n h (.slice p seed.length c) seed w' h' hsl hn hn2 hh hT'
  go_enter Tryd.func50, Tryd.ntmps50
  go_wp2
  go_region_held3 (fun w' => w'.cell? ⟨bp, 0, none⟩ = some (.pointer (some ⟨g, 0, none⟩)) ∧ w'.cell? ⟨g, 0, none⟩ = some (.int .i64 (n : Int)) ∧ w'.cell? ⟨g, 1, none⟩ = some (.int .i64 (h : Int)) ∧ w'.cell? ⟨g, 2, none⟩ = some (.slice p seed.length c)) (first | exact ⟨hp, c0, c1, c2⟩ | exact ⟨fp, f0, f1, f2⟩) (first
    | (go_at_call 51; refine (hL _ (hs.later (by repeat (first | exact Below.refl _ _ | refine Below.drew ?_))) (hT.later (by repeat (first | exact Below.refl _ _ | refine Below.drew ?_)))).mono ?_; rintro e w1 ⟨rfl, r1, hb1'⟩; have hb1 : Below w.heap.size w w1 := Below.trans (by repeat (first | exact Below.refl _ _ | refine Below.drew ?_)) hb1'; have fp := cell_later hb1 hp; have f0 := cell_later hb1 c0; have f1 := cell_later hb1 c1; have f2 := cell_later hb1 c2))
  all_goals
    have k1 := k.later hb1
    have hsz1 := hb1.size
    have r1' : RS w1 w.heap.size (.slice (some ⟨w.heap.size, 0, none⟩) (2 ^ h) (2 ^ h)) (2 ^ (h - 0)) (treeS n seed 0) := r1
    have bA := (Below.refl _ w1).alloc (Nat.le_refl _) (.cells #[.slice (some ⟨w.heap.size, 0, none⟩) (2 ^ h) (2 ^ h)] 28)
    have ka := k1.later bA
    have ra := r1'.later bA
    have oa : (w1.alloc (.cells #[.slice (some ⟨w.heap.size, 0, none⟩) (2 ^ h) (2 ^ h)] 28)).ownsRow w.heap.size 28 1 (.slice (some ⟨w1.heap.size, 0, none⟩) 1 1) 1 [.slice (some ⟨w.heap.size, 0, none⟩) (2 ^ h) (2 ^ h)] := ⟨rfl, .inr ⟨w1.heap.size, 1, _, rfl, hsz1, heap_alloc_new w1 _, Nat.le_refl _, by unfold maxLen; omega, rfl, rfl⟩⟩
    have hb01 := hb1.alloc hsz1 (.cells #[.slice (some ⟨w.heap.size, 0, none⟩) (2 ^ h) (2 ^ h)] 28)
    have Ta := hT.later hb01
    have Oa : Only g w (w1.alloc (.cells #[.slice (some ⟨w.heap.size, 0, none⟩) (2 ^ h) (2 ^ h)] 28)) := Only.of_below hb01 (by omega)
    have gp := cell_later hb01 hp
    have a6 := ka.c6
    have af := ka.free 6
    clear r1 r1' f0 f1 f2 hb1'
    have a1 := ka.c1
    have kb := ka.put6 (.slice (some ⟨w1.heap.size, 0, none⟩) 1 1)
    have Ob := Oa.setCell 6 (.slice (some ⟨w1.heap.size, 0, none⟩) 1 1)
    have Oab := (Only.refl g (w1.alloc (.cells #[.slice (some ⟨w.heap.size, 0, none⟩) (2 ^ h) (2 ^ h)] 28))).setCell 6 (.slice (some ⟨w1.heap.size, 0, none⟩) 1 1)
    have tb : TL ((w1.alloc (.cells #[.slice (some ⟨w.heap.size, 0, none⟩) (2 ^ h) (2 ^ h)] 28)).setCell ⟨g, 6, none⟩ (.slice (some ⟨w1.heap.size, 0, none⟩) 1 1)) w.heap.size n h seed (.slice (some ⟨w1.heap.size, 0, none⟩) 1 1) (0 + 1) := by
      refine TL.only ⟨_, oa, fun j u hu => ?_⟩ ka Oab (by omega)
      cases j with
      | zero => simp at hu; subst hu; exact ra
      | succ j => simp at hu
    have rb := ra.only ka Oab (by omega)
    have Tb := Ta.only Oab hg1
    have bpb := (World.cell?_of_block (w' := (w1.alloc (.cells #[.slice (some ⟨w.heap.size, 0, none⟩) (2 ^ h) (2 ^ h)] 28)).setCell ⟨g, 6, none⟩ (.slice (some ⟨w1.heap.size, 0, none⟩) 1 1)) (Oab.block bp hne (cell_lt gp))).trans gp
    clear oa ra Ta Oab
    go_wp2
    clear a1 a6 af gp ka Oa hb01 bA k1 fp
    generalize (w1.alloc (.cells #[.slice (some ⟨w.heap.size, 0, none⟩) (2 ^ h) (2 ^ h)] 28)).setCell ⟨g, 6, none⟩ (.slice (some ⟨w1.heap.size, 0, none⟩) 1 1) = wb at *
    go_loopw [1, 25] (fun lev i wr => ∃ (m : Nat) (lv : Value), m ≤ h ∧ i = .int .i64 m ∧ RS wr w.heap.size lev (2 ^ (h - m)) (treeS n seed m) ∧ KO wr g n h (.slice p seed.length c) 0 1 lv ∧ TL wr w.heap.size n h seed lv (m + 1) ∧ wr.cell? ⟨bp, 0, none⟩ = some (.pointer (some ⟨g, 0, none⟩)) ∧ Tabs wr ∧ Only g w wr) (fun _ i _ => h - (intOf i).toNat)
    case atStart => exact ⟨0, _, Nat.zero_le _, rfl, rb, kb, tb, bpb, Tb, Ob⟩
    case round =>
      obtain ⟨m, lv, hm, rfl, rr, kr, tr, bpr, Tr, Or⟩ := hrel
      clear rb kb tb bpb Tb Ob
      have hszr := Or.size
      by_cases hlt : m < h
      · have hlt2 : (m : Int) < (h : Int) := by omega
        have d0 := kr.c0
        have d6 := kr.c6
        have e2 : 2 * 2 ^ (h - (m + 1)) = 2 ^ (h - m) := by
          rw [show h - m = (h - (m + 1)) + 1 by omega, Nat.pow_succ, Nat.mul_comm]
        have hM1 : 1 ≤ 2 ^ (h - (m + 1)) := Nat.pos_of_ne_zero (by simp)
        have hM2 : 2 ^ (h - (m + 1)) ≤ 256 := Nat.pow_le_pow_right (by decide) (show h - (m + 1) ≤ 8 by omega) (n := 2)
        have hR := raised_any n m (2 ^ (h - (m + 1))) w.heap.size _ (treeS n seed m) (treeS n seed (m + 1)) wr (by rw [e2]; exact rr) hM1 hM2 (by omega) Tr (fun q => rfl)
        obtain ⟨gv, cv, hlev, _⟩ := rr.addr (by rw [← e2]; omega)
        subst hlev
        clear e2 hM2
        go_wp2_with fail
        refine hR.mono ?_
        rintro e w3 ⟨rfl, r3, hb3⟩
        have k3 := kr.later hb3
        have t3 := tr.later hb3
        have bp3 := cell_later hb3 bpr
        have T3 := Tr.later hb3
        have O3 : Only g w w3 := Or.trans (Only.of_below hb3 (by omega))
        clear rr kr tr bpr Tr Or hR d0 d6
        go_wp2
        have hsz3 := O3.size
        have d6 := k3.c6
        have df := k3.free 6
        have hb3s := hb3.size
        obtain ⟨vs, o3, q3⟩ := t3
        have hgb : lv.ownBlock ≠ some g := by
          intro e
          have := (o3.lt g e).1
          omega
        have hbb : lv.ownBlock ≠ some bp := by
          intro e
          have := (o3.lt bp e).1
          omega
        have hg3 : g < w3.heap.size := by omega
        have hbp3 : bp < w3.heap.size := by omega
        have bA3 : Below w3.heap.size w3 (w3.alloc (.cells #[.slice (some ⟨wr.heap.size, 0, none⟩) (2 ^ (h - (m + 1))) (2 ^ (h - (m + 1)))] 28)).drew := ((Below.refl _ w3).alloc (Nat.le_refl _) _).drew
        have zp := cell_later bA3 bp3
        have z6 := cell_later bA3 d6
        have zp' : (w3.alloc (.cells #[.slice (some ⟨wr.heap.size, 0, none⟩) (2 ^ (h - (m + 1))) (2 ^ (h - (m + 1)))] 28)).cell? ⟨bp, 0, none⟩ = some (.pointer (some ⟨g, 0, none⟩)) := zp
        have z6' : (w3.alloc (.cells #[.slice (some ⟨wr.heap.size, 0, none⟩) (2 ^ (h - (m + 1))) (2 ^ (h - (m + 1)))] 28)).cell? ⟨g, 6, none⟩ = some lv := z6
        go_region_law (refine step_append_lies _ (by rfl) _ _ _ (by rfl) w.heap.size 28 i0 _ 1 24 Tryd.underlying62 hi0 hz0 hz1 hz2 rfl (by omega) lv (m + 1) vs (by rfl) ((o3.alloc _).drew) ⟨w3.heap.size, 0, none⟩ 1 1 [.slice (some ⟨wr.heap.size, 0, none⟩) (2 ^ (h - (m + 1))) (2 ^ (h - (m + 1)))] (by rfl) (by rfl) (World.news_of_block (cs := #[.slice (some ⟨wr.heap.size, 0, none⟩) (2 ^ (h - (m + 1))) (2 ^ (h - (m + 1)))]) (t := 28) (fr := (0, 0)) (heap_alloc_new w3 _)) (by simp [Value.oneCell']) (by omega) (by unfold maxLen; omega) (by omega) (by simp; omega) (w3.heap.size + 1) (by simp) ?_; intro gg cap w5 hown5 hgrow5 hat hlt5; have f5 : w5.cell? ⟨bp, 0, none⟩ = some (.pointer (some ⟨g, 0, none⟩)) := (hgrow5.cell (cell_later (((Below.refl _ w3).alloc (Nat.le_refl _) _).drew) bp3) (Ne.symm hbb)); have f6 : w5.cell? ⟨g, 6, none⟩ = some lv := (hgrow5.cell (cell_later (((Below.refl _ w3).alloc (Nat.le_refl _) _).drew) d6) (Ne.symm hgb)); have f7 : w5.frozen? ⟨g, 6, none⟩ = false := (hgrow5.frozen_far ⟨g, 6, none⟩ (by simp; omega) (Ne.symm hgb)).trans ((k3.later (((Below.refl _ w3).alloc (Nat.le_refl _) _).drew)).free 6))
        all_goals
          have kA := k3.later bA3
          have rA := (r3.mono (base' := w.heap.size) (by omega)).later bA3
          have oA := owns_later o3 bA3
          have TA := T3.later bA3
          have OA : Only g w (w3.alloc (.cells #[.slice (some ⟨wr.heap.size, 0, none⟩) (2 ^ (h - (m + 1))) (2 ^ (h - (m + 1)))] 28)).drew := O3.trans (Only.of_below bA3 (by omega))
          have t5 := TL.snoc oA (fun j u hu => (q3 j u hu).later bA3) rA hgrow5 hown5
          have r5 := rA.grown oA hgrow5
          have k5 : KO w5 g n h (.slice p seed.length c) 0 1 lv := by
            unfold KO
            rw [hgrow5.block g (by simp; omega) (Ne.symm hgb)]
            exact kA
          have O5 : Only g w w5 := by
            refine ⟨OA.1.grown hgrow5 (by simp; omega) (fun k hk => ?_), fun k hk hk2 => ?_⟩
            · have := (o3.lt k hk).1
              omega
            · rw [hgrow5.block k (by simp; omega) (fun e => by have := (o3.lt k e.symm).1; omega)]
              exact OA.2 k hk hk2
          have k6 := k5.put6 (.slice (some ⟨gg, 0, none⟩) (m + 1 + 1) cap)
          have O56 := (Only.refl g w5).setCell 6 (.slice (some ⟨gg, 0, none⟩) (m + 1 + 1) cap)
          have O6 := O5.setCell 6 (.slice (some ⟨gg, 0, none⟩) (m + 1 + 1) cap)
          have t6 := t5.only k5 O56 (by omega)
          have r6 := r5.only k5 O56 (by omega)
          have T6 := hT.only O6 hg1
          have bp6 := (World.cell?_of_block (w' := w5.setCell ⟨g, 6, none⟩ (.slice (some ⟨gg, 0, none⟩) (m + 1 + 1) cap)) (O56.block bp hne (cell_lt f5))).trans f5
          clear kA rA oA TA OA t5 r5 k5 O5 O56 hgrow5 hown5 hat hlt5 f5 f6 f7 zp z6 zp' z6' q3 o3 k3 bp3 T3 O3 d6 df r3
          go_wp2
          go_roundw
          case rel => first | exact ⟨m + 1, _, by omega, by go_num, r6, k6, t6, bp6, T6, O6⟩ | ((repeat apply Exists.intro); exact ⟨⟨m + 1, _, by omega, by go_num, r6, k6, t6, bp6, T6, O6⟩, rfl⟩)
          case measure => simp [intOf]; omega
      · obtain rfl : m = h := by omega
        go_wp2
        go_end0
        exact ⟨rfl, lv, kr, tr, Or⟩

end Go.Proofs.YtdjaemobfbbkoaaDoor
