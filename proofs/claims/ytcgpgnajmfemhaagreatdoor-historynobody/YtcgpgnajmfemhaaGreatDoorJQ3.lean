/- What this text proves: the calls of snaps that no call made, over this program: each answers nothing, or ErrNil. What this text proves: the walks of snaps.New and of annalslaw22.small over this program. What this text proves: the walks of arena.Sweep (of an arena without nodes, with the root of nothing) and of snaps' sweep behind New, over this program. What this text proves: the walks of snaps' missing, Last, changes behind New, over this program. -/
import Derived.Test.YtcgpgnajmfemhaaGreatDoorJOw
import Derived.Test.YtcgpgnajmfemhaaGreatDoorJQ2
import Derived.Test.YtcgpgnajmfemhaaGreatDoorJQ1
import Derived.Test.YtcgpgnajmfemhaaGreatDoorJQ4
namespace Go.Proofs.YtcgpgnajmfemhaaGreatDoor.Vf
open Go.RowKit

/-- No call made these snaps. -/
def GoneS (q : Option Addr) (W : World) : Prop := Calls Tryz.prog 62 #[.pointer q] W fun e w' => e = .returned (.bool true) ∧ w' = W

theorem sgone_nil (W : World) : GoneS none W := by
  unfold GoneS
  go_enter Tryz.func62, Tryz.ntmps62
  go_wp2
  go_ret
  exact ⟨rfl, rfl⟩

theorem sgone_zero (W : World) (g : Nat) (h : W.cell? ⟨g, 8, none⟩ = some (.pointer none)) : GoneS (some ⟨g, 0, none⟩) W := by
  unfold GoneS
  go_enter Tryz.func62, Tryz.ntmps62
  go_wp2
  go_ret
  exact ⟨rfl, rfl⟩

theorem slast_gone (q : Option Addr) (W : World) (h : GoneS q W) : Calls Tryz.prog 89 #[.pointer q] W fun e w' => e = .returned (.int .i64 0) ∧ w' = W := by
  unfold GoneS at h
  go_enter Tryz.func89, Tryz.ntmps89
  go_wp2_with (go_at_call 62; refine h.mono ?_; rintro e w1 ⟨rfl, hw⟩; subst hw)
  go_ret
  exact ⟨rfl, rfl⟩

theorem skept_gone (q : Option Addr) (W : World) (h : GoneS q W) : Calls Tryz.prog 34 #[.pointer q] W fun e w' => e = .returned (.slice none 0 0) ∧ w' = W := by
  unfold GoneS at h
  go_enter Tryz.func34, Tryz.ntmps34
  go_wp2_with (go_at_call 62; refine h.mono ?_; rintro e w1 ⟨rfl, hw⟩; subst hw)
  go_ret
  exact ⟨rfl, rfl⟩

theorem sbuilt_gone (q : Option Addr) (W : World) (h : GoneS q W) : Calls Tryz.prog 35 #[.pointer q] W fun e w' => e = .returned (.slice none 0 0) ∧ w' = W := by
  unfold GoneS at h
  go_enter Tryz.func35, Tryz.ntmps35
  go_wp2_with (go_at_call 62; refine h.mono ?_; rintro e w1 ⟨rfl, hw⟩; subst hw)
  go_ret
  exact ⟨rfl, rfl⟩

theorem sarena_gone (q : Option Addr) (W : World) (h : GoneS q W) : Calls Tryz.prog 32 #[.pointer q] W fun e w' => e = .returned (.pointer none) ∧ w' = W := by
  unfold GoneS at h
  go_enter Tryz.func32, Tryz.ntmps32
  go_wp2_with (go_at_call 62; refine h.mono ?_; rintro e w1 ⟨rfl, hw⟩; subst hw)
  go_ret
  exact ⟨rfl, rfl⟩

theorem sgrow_gone (q : Option Addr) (v : Value) (W : World) (h : GoneS q W) : Calls Tryz.prog 88 #[.pointer q, v] W fun e w' => e = .returned (.tuple #[.slice none 0 0, .int .i64 2]) ∧ w' = W := by
  unfold GoneS at h
  go_enter Tryz.func88, Tryz.ntmps88
  go_wp2_with (go_at_call 62; refine h.mono ?_; rintro e w1 ⟨rfl, hw⟩; subst hw)
  go_ret2
  exact ⟨rfl, rfl⟩

end Go.Proofs.YtcgpgnajmfemhaaGreatDoor.Vf

namespace Go.Proofs.YtcgpgnajmfemhaaGreatDoor.Vf
open Go.RowKit

/-- The cells of snaps. -/
abbrev snC (s h mi mk ch ar ca pg : Int) (ga : Nat) (vb vr vt : Value) : Array Value := #[.int .i64 s, .int .i64 h, .int .i64 mi, .int .i64 mk, .int .i64 ch, .int .i64 ar, .int .i64 ca, .int .i64 pg, .pointer (some ⟨ga, 0, none⟩), vb, vr, vt]

theorem snew_bad (s h mi mk ch ar ca pg : Int) (w : World) (hne : chkV s h mi mk ch ar ca pg ≠ 0) : Calls Tryz.prog 39 #[.agg #[.int .i64 s, .int .i64 h, .int .i64 mi, .int .i64 mk, .int .i64 ch, .int .i64 ar, .int .i64 ca, .int .i64 pg]] w fun x w' => x = .returned (.tuple #[.pointer none, .int .i64 (chkV s h mi mk ch ar ca pg)]) ∧ Below w.heap.size w w' := by
  have b0 := (Below.refl w.heap.size w).alloc (Nat.le_refl _) (.cells #[.int .i64 s, .int .i64 h, .int .i64 mi, .int .i64 mk, .int .i64 ch, .int .i64 ar, .int .i64 ca, .int .i64 pg] 25)
  have hc := fun W => chk_any s h mi mk ch ar ca pg W
  have hne2 : (chkV s h mi mk ch ar ca pg != 0) = true := by simpa using hne
  generalize chkV s h mi mk ch ar ca pg = z at *
  go_enter Tryz.func39, Tryz.ntmps39
  go_wp2_with fail
  refine (hc _).mono ?_
  rintro x w1 ⟨rfl, b1⟩
  have bA := b0.trans (b1.mono b0.size)
  clear hc
  go_wp2
  go_ret2
  exact ⟨rfl, bA⟩

set_option maxRecDepth 100000 in
set_option maxHeartbeats 1000000 in
theorem snew_ok (s h mi mk ch ar ca pg : Int) (w : World) (h0 : chkV s h mi mk ch ar ca pg = 0) : Calls Tryz.prog 39 #[.agg #[.int .i64 s, .int .i64 h, .int .i64 mi, .int .i64 mk, .int .i64 ch, .int .i64 ar, .int .i64 ca, .int .i64 pg]] w fun x w' => ∃ g ga b1 b2 : Nat, x = .returned (.tuple #[.pointer (some ⟨g, 0, none⟩), .int .i64 0]) ∧ w'.heap[g]? = some (.cells (snC s h mi mk ch ar ca pg ga (.slice (some ⟨b1, 0, none⟩) 1 1) (.slice (some ⟨b2, 0, none⟩) 1 1) (.slice none 0 0)) 128 (0, 0)) ∧ w'.heap[b1]? = some (.cells #[.slice none 0 0] 22 (0, 0)) ∧ w'.heap[b2]? = some (.cells #[.int .i64 0, .int .i64 (-1)] 146 (0, 0)) ∧ AG w' ga s ar none 0 0 ∧ w.heap.size ≤ g ∧ w.heap.size ≤ ga ∧ w.heap.size ≤ b1 ∧ w.heap.size ≤ b2 ∧ Below w.heap.size w w' := by
  have b0 := (Below.refl w.heap.size w).alloc (Nat.le_refl _) (.cells #[.int .i64 s, .int .i64 h, .int .i64 mi, .int .i64 mk, .int .i64 ch, .int .i64 ar, .int .i64 ca, .int .i64 pg] 25)
  have g0 := heap_alloc_new w (.cells #[.int .i64 s, .int .i64 h, .int .i64 mi, .int .i64 mk, .int .i64 ch, .int .i64 ar, .int .i64 ca, .int .i64 pg] 25)
  have hc := fun W => chk_any s h mi mk ch ar ca pg W
  have hP : (1 ≤ s ∧ s ≤ 32) ∧ 1 ≤ ar ∧ ar ≤ 4194304 := by
    unfold chkV at h0
    split at h0
    · rename_i q
      have := q.1
      unfold mayP at this
      exact ⟨⟨by omega, by omega⟩, q.2⟩
    · cases h0
  rw [h0] at hc
  clear h0
  obtain ⟨⟨p1, p2⟩, p3, p4⟩ := hP
  have hA := fun W => anew_ok s ar W p1 p2 p3 p4
  have l0 : w.heap.size < (w.alloc (.cells #[.int .i64 s, .int .i64 h, .int .i64 mi, .int .i64 mk, .int .i64 ch, .int .i64 ar, .int .i64 ca, .int .i64 pg] 25)).heap.size := by simp
  clear p1 p2 p3 p4
  go_enter Tryz.func39, Tryz.ntmps39
  go_wp2_with fail
  refine (hc _).mono ?_
  rintro x w1 ⟨rfl, b1⟩
  have bA := b0.trans (b1.mono b0.size)
  have g1 := (b1.block _ l0).trans g0
  have l1 : w.heap.size < w1.heap.size := (Array.getElem?_eq_some_iff.1 g1).1
  clear hc g0 b0 b1 l0
  obtain ⟨c0, c1, c2, c3, c4, c5, c6, c7⟩ := par_cells g1
  go_wp2_with fail
  refine (hA _).mono ?_
  rintro x w2 ⟨rfl, hG, b2⟩
  have bB := bA.trans (b2.mono bA.size)
  have g2 := (b2.block _ l1).trans g1
  clear hA g1 c0 c1 c2 c3 c4 c5 c6 c7 l1
  obtain ⟨c0, c1, c2, c3, c4, c5, c6, c7⟩ := par_cells g2
  have hs := bA.size
  have hs2 := bB.size
  have n0 := heap_alloc_new w2 (.cells #[.slice none 0 0] 22)
  have a0 := (Below.refl w2.heap.size w2).alloc (Nat.le_refl _) (.cells #[.slice none 0 0] 22)
  have z0 : (w2.alloc (.cells #[.slice none 0 0] 22)).heap.size = w2.heap.size + 1 := by simp
  have n1 := heap_alloc_new (w2.alloc (.cells #[.slice none 0 0] 22)) (.cells #[.int .i64 0, .int .i64 (-1)] 146)
  have a1 := (Below.refl _ (w2.alloc (.cells #[.slice none 0 0] 22))).alloc (Nat.le_refl _) (.cells #[.int .i64 0, .int .i64 (-1)] 146)
  have n0' := (a1.block _ (by omega)).trans n0
  rw [z0] at n1 a1
  have a01 := a0.trans (a1.mono (by omega))
  generalize hX : (w2.alloc (.cells #[.slice none 0 0] 22)).alloc (.cells #[.int .i64 0, .int .i64 (-1)] 146) = X at *
  have zX : X.heap.size = w2.heap.size + 2 := by rw [← hX]; simp
  have n2 := heap_alloc_new X (.cells (snC s h mi mk ch ar ca pg w1.heap.size (.slice (some ⟨w2.heap.size, 0, none⟩) 1 1) (.slice (some ⟨w2.heap.size + 1, 0, none⟩) 1 1) (.slice none 0 0)) 128)
  have a2 := (Below.refl _ X).alloc (Nat.le_refl _) (.cells (snC s h mi mk ch ar ca pg w1.heap.size (.slice (some ⟨w2.heap.size, 0, none⟩) 1 1) (.slice (some ⟨w2.heap.size + 1, 0, none⟩) 1 1) (.slice none 0 0)) 128)
  have a02 := a01.trans (a2.mono (by omega))
  have bF := bB.trans (a02.mono hs2)
  have m0 := (a2.block _ (by omega)).trans n0'
  have m1 := (a2.block _ (by omega)).trans n1
  have hGF := hG.later a02
  go_wp2
  go_ret2
  first
  | exact ⟨_, _, _, _, rfl, n2, m0, m1, hGF, by omega, by omega, by omega, by omega, bF⟩
  | (rw [zX] at n2; exact ⟨_, _, _, _, rfl, n2, m0, m1, hGF, by omega, by omega, by omega, by omega, bF⟩)

end Go.Proofs.YtcgpgnajmfemhaaGreatDoor.Vf

namespace Go.Proofs.YtcgpgnajmfemhaaGreatDoor.Vf
open Go.RowKit

def slLen : Value → Nat
  | .slice _ n _ => n
  | _ => 0

theorem run_uptoN {P : Program} {t e : TypeId} (ht : P.underlying t = some (.slice e)) (hsz : (P.info? e).map (·.size) = some 1) (p : Option Addr) (n c h : Nat) (y : Int) (hy : y = (h : Int)) (hh : h ≤ c) (w : World) :
    (Instr.slice t (.slice p n c) none (some (.int .i64 y)) none).run P w = .ok (.slice p h c) w := run_upto ht hsz p n c h y hy hh w

theorem s_intN : (Tryz.prog.info? 3).map (·.size) = some 1 := by kernel_rfl

theorem i_boolN : (Tryz.prog.info? 4).map (fun i => (i.zero, i.size, i.bytes)) = some (some (.bool false), 1, 1) := by kernel_rfl

set_option maxRecDepth 100000 in
set_option maxHeartbeats 1000000 in
theorem areached_none (ga : Nat) (s r : Int) (pv : Option Addr) (cv : Nat) (w : World) (h : AG w ga s r none 0 0) (hv : IZ w (.slice pv 1 cv) [-1]) :
    Calls Tryz.prog 198 #[.pointer (some ⟨ga, 0, none⟩), .slice pv 1 cv] w fun x w' => (∃ p c, x = .returned (.slice p 0 c)) ∧ Below w.heap.size w w' := by
  obtain ⟨c0, c1, c2, c3⟩ := h.cells
  obtain ⟨i0, hi, hz0, hz1, hz2⟩ := info_parts i_boolN
  go_enter Tryz.func198, Tryz.ntmps198
  go_wp2_with (first | (at_make; refine wpList_make_full _ rfl _ _ 251 rfl w.heap.size 4 i0 (.bool false) 1 Tryz.underlying251 hi hz0 hz1 .i64 .i64 _ _ 0 rfl rfl ?qa ?qb ?qc ?qd ?qe ?_))
  case qa => rfl
  case qb => rfl
  case qc => rw [hz2]; omega
  case qd => unfold maxLen; omega
  case qe => exact Nat.le_refl _
  intro w1 hown1 hgrow1
  have b1 : Below w.heap.size w w1 := (Below.refl _ w).grown hgrow1 (Nat.le_refl _) (by intro k hk; cases hk)
  have hC := iclone_any (.slice pv 1 cv) [-1] w1 (hv.later b1) (by decide)
  have h1 := h.later b1
  clear hown1 hgrow1 c0 c1 c2 c3 hv h
  go_wp2_with fail
  refine hC.mono ?_
  rintro x w2 ⟨u, rfl, ow, b2⟩
  have bA := b1.trans (b2.mono b1.size)
  have h2 := h1.later b2
  have hz := IZ.of_owns ow
  obtain ⟨pu, cu, rfl⟩ := hz.shape
  obtain ⟨_, _, hcu⟩ := hz.caps
  unfold maxLen at hcu
  clear hC ow h1
  have hc1 : 1 ≤ cu := (hz.caps).2.1
  obtain ⟨bu, ou, rfl, f1⟩ := hz.addr (by decide)
  have f0 := f1 0 (-1) rfl
  have k1 := fun w => run_uptoN (P := Tryz.prog) Tryz.underlying50 s_intN (some ⟨bu, ou, none⟩) 1 cu 0 0 rfl (by omega) w
  clear f1 hz
  go_wp2
  go_loopw [6] (fun v wr => (v = .slice (some ⟨bu, ou, none⟩) 1 cu ∨ v = .slice (some ⟨bu, ou, none⟩) 0 cu) ∧ Below w2.heap.size w2 wr) (fun v _ => slLen v)
  case atStart => exact ⟨.inl rfl, Below.refl _ _⟩
  case round =>
    obtain ⟨hv, hbe⟩ := hrel
    have bB := bA.trans (hbe.mono bA.size)
    rcases hv with rfl | rfl
    · have g0 := cell_later hbe f0
      rw [Nat.add_zero] at g0
      have hH := has_out ga s r (-1) none 0 0 wr (h2.later hbe) (.inl (by decide))
      go_wp2_with fail
      refine hH.mono ?_
      rintro x w3 ⟨rfl, hw⟩
      subst hw
      clear hH
      go_wp2
      go_roundw
      case rel => first | exact ⟨.inr rfl, hbe⟩ | ((repeat apply Exists.intro); exact ⟨⟨.inr rfl, hbe⟩, rfl⟩)
      case measure => simp [slLen]
    · go_wp2
      go_ret
      exact ⟨⟨_, _, rfl⟩, bB⟩

set_option maxRecDepth 100000 in
set_option maxHeartbeats 1000000 in
theorem asweep_none (ga : Nat) (s r : Int) (pv : Option Addr) (cv : Nat) (w : World) (h : AG w ga s r none 0 0) (hs : s ≠ 0) (hv : IZ w (.slice pv 1 cv) [-1]) :
    Calls Tryz.prog 167 #[.pointer (some ⟨ga, 0, none⟩), .slice pv 1 cv] w fun x w' => x = .returned (.int .i64 0) ∧ Below w.heap.size w w' := by
  have hM := miss_no ga s w h.cells.1 hs
  have hR := areached_none ga s r pv cv w h hv
  go_enter Tryz.func167, Tryz.ntmps167
  go_wp2_with fail
  refine hM.mono ?_
  rintro x w0 ⟨rfl, hw⟩
  subst hw
  clear hM
  go_wp2_with fail
  refine hR.mono ?_
  rintro x w1 ⟨⟨p, c, rfl⟩, b1⟩
  obtain ⟨c0, c1, c2, c3⟩ := (h.later b1).cells
  clear hR
  go_wp2
  go_loopw [6, 18] (fun u v wr => u = .int .i64 0 ∧ v = .int .i64 0 ∧ wr = w1) (fun _ _ _ => 0)
  case atStart => exact ⟨rfl, rfl, rfl⟩
  case round =>
    obtain ⟨rfl, rfl, rfl⟩ := hrel
    go_wp2
    go_ret
    exact ⟨rfl, b1⟩

set_option maxRecDepth 100000 in
set_option maxHeartbeats 1000000 in
theorem ssweep_new (g ga b1 b2 : Nat) (s h mi mk ch ar ca pg : Int) (w : World) (hG : w.heap[g]? = some (.cells (snC s h mi mk ch ar ca pg ga (.slice (some ⟨b1, 0, none⟩) 1 1) (.slice (some ⟨b2, 0, none⟩) 1 1) (.slice none 0 0)) 128 (0, 0))) (hT : w.heap[b2]? = some (.cells #[.int .i64 0, .int .i64 (-1)] 146 (0, 0))) (hA : AG w ga s ar none 0 0) (hs : s ≠ 0) :
    Calls Tryz.prog 133 #[.pointer (some ⟨g, 0, none⟩)] w fun x w' => x = .returned (.tuple #[]) ∧ Below w.heap.size w w' := by
  have cG : ∀ W : World, W.heap[g]? = w.heap[g]? → W.cell? ⟨g, 8, none⟩ = some (.pointer (some ⟨ga, 0, none⟩)) ∧ W.cell? ⟨g, 10, none⟩ = some (.slice (some ⟨b2, 0, none⟩) 1 1) ∧ W.cell? ⟨g, 11, none⟩ = some (.slice none 0 0) := by
    intro W e
    rw [hG] at e
    refine ⟨?_, ?_, ?_⟩ <;> (rw [cell_of_row _ _ _ _ _ _ e]; rfl)
  obtain ⟨x8, x10, x11⟩ := cG w rfl
  have lg : g < w.heap.size := (Array.getElem?_eq_some_iff.1 hG).1
  have t0 : w.cell? ⟨b2, 0, none⟩ = some (.int .i64 0) := by rw [cell_of_row _ _ _ _ _ _ hT]; rfl
  have t1 : w.cell? ⟨b2, 1, none⟩ = some (.int .i64 (-1)) := by rw [cell_of_row _ _ _ _ _ _ hT]; rfl
  obtain ⟨i0, hi, hz0, hz1, hz2⟩ := info_parts i_intS2
  go_enter Tryz.func133, Tryz.ntmps133
  go_wp2
  go_loopw [2, 12] (fun v i wr => ∃ k : Nat, k ≤ 1 ∧ i = .int .i64 (k : Int) ∧ (k = 0 → v = .slice none 0 0) ∧ (k = 1 → wr.ownsRow w.heap.size 3 1 v 1 (izs [-1])) ∧ Below w.heap.size w wr) (fun _ i _ => 1 - (intOf i).toNat)
  case atStart => exact ⟨0, by omega, rfl, fun _ => rfl, fun h => absurd h (by decide), Below.refl _ _⟩
  case round =>
    obtain ⟨k, hk, rfl, hv0, hv1, hbe⟩ := hrel
    have hsz := hbe.size
    rcases (by omega : k = 0 ∨ k = 1) with rfl | rfl
    · obtain rfl := hv0 rfl
      have t0' := cell_later hbe t0
      have t1' := cell_later hbe t1
      have bA := hbe.alloc hsz (.cells #[.int .i64 0, .int .i64 (-1)] 146)
      have gA := heap_alloc_new wr (.cells #[.int .i64 0, .int .i64 (-1)] 146)
      have hzA : w.heap.size ≤ (wr.alloc (.cells #[.int .i64 0, .int .i64 (-1)] 146)).heap.size := bA.size
      have hnil : (wr.alloc (.cells #[.int .i64 0, .int .i64 (-1)] 146)).ownsRow w.heap.size 3 1 (.slice none 0 0) 0 [] := World.ownsRow_nil _ _ _ _
      clear hv0 hv1
      generalize hZ : wr.alloc (.cells #[.int .i64 0, .int .i64 (-1)] 146) = Z at *
      have z1 : Z.cell? ⟨wr.heap.size, 1, none⟩ = some (.int .i64 (-1)) := by rw [cell_of_row _ _ _ _ _ _ gA]; rfl
      go_wp2_with (first | (at_builtin; refine wpList_append_own _ rfl (.tmp 16) (.tmp 19) 50 rfl w.heap.size 3 i0 (.int .i64 0) 1 8 Tryz.underlying50 hi hz0 hz1 hz2 rfl (by decide) _ _ _ rfl (hnil.alloc _) ⟨Z.heap.size, 0, none⟩ 1 1 [.int .i64 (-1)] rfl rfl ?ra ?rb ?rc ?rd ?re ?_))
      case ra => exact cell_one_new _ _ _
      case rb => intro u hu; simp at hu; subst hu; rfl
      case rc => unfold maxLen; omega
      case rd => omega
      case re => simp; omega
      intro v3 w3 hown3 hgrow3 _
      have hb3 : Below w.heap.size w w3 := (bA.alloc hzA _).grown hgrow3 (by simp; omega) (fun k hk => by cases hk)
      have hown4 : w3.ownsRow w.heap.size 3 1 v3 1 (izs [-1]) := by simpa [izs] using hown3
      clear hown3 hgrow3 hnil
      go_wp2
      go_roundw
      case rel => first | exact ⟨0 + 1, by omega, by go_num, fun h => absurd h (by decide), fun _ => hown4, hb3⟩ | ((repeat apply Exists.intro); exact ⟨⟨0 + 1, by omega, by go_num, fun h => absurd h (by decide), fun _ => hown4, hb3⟩, rfl⟩)
      case measure => simp [intOf]
    · have ho := hv1 rfl
      have hz := IZ.of_owns ho
      obtain ⟨x8', x10', x11'⟩ := cG wr (hbe.block g lg)
      obtain ⟨pv, cv, rfl⟩ := hz.shape
      have hS := asweep_none ga s ar pv cv wr (hA.later hbe) hs hz
      clear hv0 hv1 cG ho
      go_wp2
      generalize wr = wz at *
      go_loopw [2, 27] (fun v i wr' => v = .slice pv [(-1 : Int)].length cv ∧ i = .int .i64 0 ∧ wr' = wz) (fun _ _ _ => 0)
      case atStart => exact ⟨rfl, rfl, rfl⟩
      case round =>
        obtain ⟨rfl, rfl, hwe⟩ := hrel
        subst hwe
        go_wp2_with fail
        refine hS.mono ?_
        rintro x w4 ⟨rfl, b4⟩
        have bF := hbe.trans (b4.mono hsz)
        go_wp2
        go_end0
        exact ⟨rfl, bF⟩

end Go.Proofs.YtcgpgnajmfemhaaGreatDoor.Vf

namespace Go.Proofs.YtcgpgnajmfemhaaGreatDoor.Vf
open Go.RowKit

/-- Snaps in memory. -/
def SN (w : World) (g : Nat) (s h mi mk ch ar ca pg : Int) (ga : Nat) (vb vr vt : Value) : Prop := w.heap[g]? = some (.cells (snC s h mi mk ch ar ca pg ga vb vr vt) 128 (0, 0))

theorem SN.cells {w : World} {g : Nat} {s h mi mk ch ar ca pg : Int} {ga : Nat} {vb vr vt : Value} (H : SN w g s h mi mk ch ar ca pg ga vb vr vt) : (w.cell? ⟨g, 0, none⟩ = some (.int .i64 s) ∧ w.cell? ⟨g, 1, none⟩ = some (.int .i64 h) ∧ w.cell? ⟨g, 2, none⟩ = some (.int .i64 mi) ∧ w.cell? ⟨g, 3, none⟩ = some (.int .i64 mk) ∧ w.cell? ⟨g, 4, none⟩ = some (.int .i64 ch) ∧ w.cell? ⟨g, 5, none⟩ = some (.int .i64 ar) ∧ w.cell? ⟨g, 6, none⟩ = some (.int .i64 ca) ∧ w.cell? ⟨g, 7, none⟩ = some (.int .i64 pg)) ∧ w.cell? ⟨g, 8, none⟩ = some (.pointer (some ⟨ga, 0, none⟩)) ∧ w.cell? ⟨g, 9, none⟩ = some vb ∧ w.cell? ⟨g, 10, none⟩ = some vr ∧ w.cell? ⟨g, 11, none⟩ = some vt := by
  have H' : w.heap[g]? = some (.cells (snC s h mi mk ch ar ca pg ga vb vr vt) 128 (0, 0)) := H
  refine ⟨⟨?_, ?_, ?_, ?_, ?_, ?_, ?_, ?_⟩, ?_, ?_, ?_, ?_⟩ <;> (rw [cell_of_row _ _ _ _ _ _ H']; rfl)

theorem SN.lt {w : World} {g : Nat} {s h mi mk ch ar ca pg : Int} {ga : Nat} {vb vr vt : Value} (H : SN w g s h mi mk ch ar ca pg ga vb vr vt) : g < w.heap.size := (Array.getElem?_eq_some_iff.1 H).1
theorem SN.later {w w' : World} {g : Nat} {s h mi mk ch ar ca pg : Int} {ga : Nat} {vb vr vt : Value} (H : SN w g s h mi mk ch ar ca pg ga vb vr vt) (hb : Below w.heap.size w w') : SN w' g s h mi mk ch ar ca pg ga vb vr vt := (hb.block g H.lt).trans H
theorem SN.frozen {w : World} {g : Nat} {s h mi mk ch ar ca pg : Int} {ga : Nat} {vb vr vt : Value} (H : SN w g s h mi mk ch ar ca pg ga vb vr vt) (i : Nat) : w.frozen? ⟨g, i, none⟩ = false := by
  unfold SN at H
  simp [World.frozen?, H]

theorem smiss_no {w : World} {g : Nat} {s h mi mk ch ar ca pg : Int} {ga : Nat} {vb vr vt : Value} (H : SN w g s h mi mk ch ar ca pg ga vb vr vt) : Calls Tryz.prog 62 #[.pointer (some ⟨g, 0, none⟩)] w fun e w' => e = .returned (.bool false) ∧ w' = w := by
  obtain ⟨_, c8, _, _, _⟩ := H.cells
  clear H
  go_enter Tryz.func62, Tryz.ntmps62
  go_wp2
  go_ret
  exact ⟨rfl, rfl⟩

theorem slast_ok {w : World} {g : Nat} {s h mi mk ch ar ca pg : Int} {ga : Nat} {p : Option Addr} {n c : Nat} {vr vt : Value} (H : SN w g s h mi mk ch ar ca pg ga (.slice p n c) vr vt) (hn : 1 ≤ n) (hn2 : n ≤ 1000000) : Calls Tryz.prog 89 #[.pointer (some ⟨g, 0, none⟩)] w fun e w' => e = .returned (.int .i64 ((n - 1 : Nat) : Int)) ∧ w' = w := by
  have hM := smiss_no H
  obtain ⟨_, c8, c9, _, _⟩ := H.cells
  have es : (n : Int) - 1 = ((n - 1 : Nat) : Int) := by omega
  clear H
  go_enter Tryz.func89, Tryz.ntmps89
  go_wp2_with fail
  refine hM.mono ?_
  rintro x w1 ⟨rfl, hw⟩
  subst hw
  clear hM
  go_wp2
  go_ret
  exact ⟨by rw [← es]; rfl, rfl⟩

set_option maxRecDepth 100000 in
set_option maxHeartbeats 1000000 in
theorem schanges_new {w : World} {g b1 : Nat} {s h mi mk ch ar ca pg : Int} {ga : Nat} {vr vt : Value} (H : SN w g s h mi mk ch ar ca pg ga (.slice (some ⟨b1, 0, none⟩) 1 1) vr vt) (hB : w.heap[b1]? = some (.cells #[.slice none 0 0] 22 (0, 0))) : Calls Tryz.prog 134 #[.pointer (some ⟨g, 0, none⟩)] w fun e w' => e = .returned (.int .i64 0) ∧ w' = w := by
  obtain ⟨_, c8, c9, _, _⟩ := H.cells
  have d0 : w.cell? ⟨b1, 0, none⟩ = some (.slice none 0 0) := by rw [cell_of_row _ _ _ _ _ _ hB]; rfl
  clear H
  go_enter Tryz.func134, Tryz.ntmps134
  go_wp2
  go_loopw [3, 11] (fun u v wr => u = .int .i64 0 ∧ (∃ k : Nat, k ≤ 1 ∧ v = .int .i64 (k : Int)) ∧ wr = w) (fun _ v _ => 1 - (intOf v).toNat)
  case atStart => exact ⟨rfl, ⟨0, by omega, rfl⟩, rfl⟩
  case round =>
    obtain ⟨rfl, ⟨k, hk, rfl⟩, hw⟩ := hrel
    subst hw
    rcases (by omega : k = 0 ∨ k = 1) with rfl | rfl
    · go_wp2
      go_roundw
      case rel => first | exact ⟨rfl, ⟨1, by omega, rfl⟩, trivial⟩ | exact ⟨rfl, ⟨1, by omega, rfl⟩, rfl⟩
      case measure => simp [intOf]
    · go_wp2
      go_ret
      exact ⟨rfl, rfl⟩

end Go.Proofs.YtcgpgnajmfemhaaGreatDoor.Vf
