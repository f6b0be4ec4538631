/- What this text proves: the walk of mts.Public, whether the tree is there or not yet, over this program. -/
import Derived.Test.YtdjaemobfbbkoaaDoorJMSign
namespace Go.Proofs.YtdjaemobfbbkoaaDoor
open Go.RowKit

set_option maxRecDepth 100000 in
set_option maxHeartbeats 4000000 in
theorem public_any (g n h B : Nat) (seed : List UInt8) (w : World) (k : KS w g n h seed B) (hg1 : 1 < g) (hgB : g < B) (hBw : B ≤ w.heap.size) (hsl : seed.length ≤ 64) (hn : 1 ≤ n) (hn2 : n ≤ 32) (hh : h ≤ 8) (hT : Tabs w) :
    Calls Tryd.prog 11 #[.pointer (some ⟨g, 0, none⟩)] w fun e w' => ∃ p c, e = .returned (.slice p (treeS n seed h 0).length c) ∧ HB w' (.slice p (treeS n seed h 0).length c) (treeS n seed h 0) ∧ KS w' g n h seed B ∧ Only g w w' := by
  obtain ⟨d, p1, n1, c1, p2, n2, c2, ko, _, _, _⟩ := k.ko
  have c0 := ko.c0
  have c1 := ko.c1
  have hgl := ko.lt
  have hM := missing_made g n w c0 (by omega)
  have hTr := tree_any g n h B seed w.drew (k.later (Below.refl _ w).drew) hg1 hgB (by simpa using hBw) hsl hn hn2 hh (hT.later (Below.refl _ w).drew)
  go_enter Tryd.func11, Tryd.ntmps11
  go_wp2_with fail
  refine hM.mono ?_
  rintro e w1 ⟨rfl, hw1⟩
  have hw2 := hw1.symm
  clear hw1
  subst hw2
  clear hM
  go_wp2
  have hlen := treeS_len n seed h 0
  have hh1 : (h : Int) < (h : Int) + 1 := by omega
  have hh0 : (0 : Int) ≤ (h : Int) := by omega
  generalize hF : treeS n seed h 0 = F at *
  go_region_with (first
    | (go_at_call 25; refine hTr.mono ?_; rintro e w2 ⟨lv, rfl, k2, t2, O2⟩; have t2' := t2; obtain ⟨gl, cl, hlv, _, hml, hget⟩ := t2'.get (by omega); subst hlv; obtain ⟨gr, cr, e1, r2⟩ := hget h (by omega); rw [Nat.sub_self, Nat.pow_zero] at e1 r2; obtain ⟨g9, cap9, heq, _, _, _, hcell⟩ := r2.addr (by decide); (cases heq); obtain ⟨pr, cq, e3, h3, _⟩ := hcell 0 (by decide); rw [hF] at e3 h3; have k2' := k2; obtain ⟨ps, cs, ko2, _, _⟩ := k2'; have d1 := ko2.c1; clear hget hcell r2 ko2)
    | (go_at_call 24; refine (clone_any _ F _ h3 (by omega)).mono ?_; rintro e w3 ⟨p3, c3, rfl, h4, hb3⟩))
  all_goals
    have O02 : Only g w w2 := (Only.of_below ((Below.refl _ w).drew) (by omega)).trans O2
    have hs2 := O2.size
    have O03 := O02.trans (Only.of_below hb3 (by have := O02.size; omega))
    go_wp2
    go_ret
    rw [hF]
    exact ⟨_, _, rfl, h4, .inr ⟨_, k2.later hb3, t2.later hb3⟩, O03⟩

end Go.Proofs.YtdjaemobfbbkoaaDoor
