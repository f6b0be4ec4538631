/- What this text proves: the walk of the statement MtsKeys over this program: the public key of any small tree, and any digest signed by any number, or the errors. -/
import Derived.Test.YtdjaemobfbbkoaaDoorJMKeysPre
import Derived.Test.YtdjaemobfbbkoaaDoorJMKeysT2
import Derived.Test.YtdjaemobfbbkoaaDoorJRMPub
import Derived.Test.YtdjaemobfbbkoaaDoorJMPublicA
namespace Go.Proofs.YtdjaemobfbbkoaaDoor
open Go.RowKit

theorem Tabs.size2 {w : World} (h : Tabs w) : 1 < w.heap.size := by
  obtain ⟨x, hx⟩ : ∃ x, kTab[0]? = some x := ⟨_, rfl⟩
  exact cell_lt (h.2 0 x hx)

set_option maxRecDepth 100000 in
set_option maxHeartbeats 8000000 in
theorem keysMWalk (size height index : Int) (v u : Value) (seed D : List UInt8) (w : World) (h : HB w v seed) (hD : HB w u D) (hT : Tabs w) :
    Calls Tryd.prog 3 #[.int .i64 size, v, .int .i64 height, .int .i64 index, u] w fun e w' => e = .returned (.bool true) ∧ Below w.heap.size w w' := by
  have hw1 := hT.size2
  obtain ⟨p, c, rfl⟩ := h.shape
  obtain ⟨q, d, rfl⟩ := hD.shape
  obtain ⟨U, hU, hU2⟩ := u64_nat size
  obtain ⟨H, hH, hH2⟩ := u64_nat height
  have hA := fun w' hT' hs' => mtsAwake_any w' hT' hs'
  by_cases hsl : seed.length ≤ 64
  · have hK := lkeys_ok size height U H hU hH (.slice p seed.length c) seed w h hsl
    have hn1 : 1 ≤ 1 + U % 4 := by omega
    have hn2 : 1 + U % 4 ≤ 32 := by omega
    have hh : H % 4 ≤ 8 := by omega
    generalize 1 + U % 4 = n at *
    generalize H % 4 = hg at *
    clear hU hH hU2 hH2
    go_enter Tryd.func3, Tryd.ntmps3
    go_wp2_with fail
    refine hK.mono ?_
    rintro e w1 ⟨g, g', B, p', c', lv, rfl, hgw, hgg, hgB, hBw, k1, r1, hs1, ts1, tl1, hb1⟩
    clear hK
    have hg1 : 1 < g := by omega
    have hgl1 : g < w1.heap.size := by omega
    have hS1 := msign_all g n hg index seed D (.slice q D.length d) w1 k1 hg1 hsl hn1 hn2 hh (hT.later hb1) (hD.later hb1)
    have hS2 := fun (w' : World) (a1 : g < w'.heap.size) a2 a3 a4 a5 => rmsign_all g g' n hg B index p' c' lv (.slice q D.length d) seed D w' a1 a2 a3 a4 a5 hsl hn1 hn2 hh
    generalize signA n hg seed D index = SA at hS1 hS2
    obtain ⟨ix, er, ls, ps⟩ := SA
    dsimp only at hS1 hS2
    obtain ⟨p9, c9, ko1, _, _⟩ := id k1
    go_wp2_with fail
    refine hS1.mono ?_
    rintro e w2 ⟨ca, pa, rfl, kc, kp, ⟨B1, ks2, hgB1, hB1⟩, o2⟩
    obtain ⟨d2, q1, m1, e1, q2, m2, e2, ko2, _, _, _⟩ := ks2.ko
    obtain ⟨pca, cca, hca⟩ := (kc _ _ _ _ _ _ _ _ _ _ _ ko2 (Only.refl _ _)).shape
    obtain ⟨ppa, cpa, hpa⟩ := (kp _ _ _ _ _ _ _ _ _ _ _ ko2 (Only.refl _ _)).shape
    subst hca hpa
    have r2 : RKO w2 g' n hg (.slice p' seed.length c') lv := (o2.block g' (by omega) (by omega)).trans r1
    have tl2 := tl1.only ko1 o2 (by omega)
    have hs2 := ko1.hb o2 hs1
    have hD2 := ko1.hb o2 (hD.later hb1)
    have T2 := (hT.later hb1).only o2 hg1
    have hb02 : Below w.heap.size w w2 := hb1.trans (o2.below hgw)
    have hBw2 : B ≤ w2.heap.size := Nat.le_trans hBw o2.size
    clear hS1 k1 r1 hs1 ts1 tl1 ko1 o2 hb1 h hD hT hgl1
    go_wp2_with fail
    have bA := (Below.refl _ w2).alloc (Nat.le_refl _) (.cells #[.int .i64 ix, .slice pca ls.length cca, .slice ppa ps.length cpa] 30)
    have a0 : (w2.alloc (.cells #[.int .i64 ix, .slice pca ls.length cca, .slice ppa ps.length cpa] 30)).cell? ⟨w2.heap.size, 0, none⟩ = some (.int .i64 ix) := by rw [cell_of_row _ _ 0 _ _ _ (heap_alloc_new w2 _)]; rfl
    have a1 : (w2.alloc (.cells #[.int .i64 ix, .slice pca ls.length cca, .slice ppa ps.length cpa] 30)).cell? ⟨w2.heap.size, 1, none⟩ = some (.slice pca ls.length cca) := by rw [cell_of_row _ _ 1 _ _ _ (heap_alloc_new w2 _)]; rfl
    have a2 : (w2.alloc (.cells #[.int .i64 ix, .slice pca ls.length cca, .slice ppa ps.length cpa] 30)).cell? ⟨w2.heap.size, 2, none⟩ = some (.slice ppa ps.length cpa) := by rw [cell_of_row _ _ 2 _ _ _ (heap_alloc_new w2 _)]; rfl
    have hglA : g < (w2.alloc (.cells #[.int .i64 ix, .slice pca ls.length cca, .slice ppa ps.length cpa] 30)).heap.size := by have := bA.size; omega
    generalize hWA : w2.alloc (.cells #[.int .i64 ix, .slice pca ls.length cca, .slice ppa ps.length cpa] 30) = WA at *
    clear hWA
    refine (hS2 WA hglA (r2.later bA) (tl2.later bA) (hs2.later bA) (hD2.later bA)).mono ?_
    rintro e w3 ⟨cb, pb, rfl, kcb, kpb, hb3⟩
    have b23 : Below w2.heap.size w2 w3 := bA.trans (hb3.mono bA.size)
    have o23 : Only g w2 w3 := Only.of_below b23 (by omega)
    have ks3 := ks2.later b23
    have kc3 := kc.on ko2 o23
    have kp3 := kp.on ko2 o23
    have r3 := r2.later b23
    have tl3 := tl2.later b23
    have T3 := T2.later b23
    have hb03 := hb02.trans (b23.mono hb02.size)
    have hB13 := Nat.le_trans hB1 b23.size
    have hBw3 := Nat.le_trans hBw2 b23.size
    have s0 := cell_later hb3 a0
    have s1 := cell_later hb3 a1
    have s2 := cell_later hb3 a2
    have l3 : w2.heap.size < w3.heap.size := cell_lt s0
    have hgw2 : g < w2.heap.size := by omega
    clear hS2 ks2 kc kp ko2 r2 tl2 hs2 hD2 T2 hb02 a0 a1 a2 bA o23 hb3 b23 hglA hB1 hBw2
    obtain ⟨d3, x1, y1, z1, x2, y2, z2, ko3, _, _, _⟩ := ks3.ko
    obtain ⟨pcb, ccb, hcb⟩ := (kcb _ _ _ _ _ _ _ _ _ _ _ ko3 (Only.refl _ _)).shape
    obtain ⟨ppb, cpb, hpb⟩ := (kpb _ _ _ _ _ _ _ _ _ _ _ ko3 (Only.refl _ _)).shape
    subst hcb hpb
    have bB := (Below.refl _ w3).alloc (Nat.le_refl _) (.cells #[.int .i64 ix, .slice pcb ls.length ccb, .slice ppb ps.length cpb] 30)
    have t0 : (w3.alloc (.cells #[.int .i64 ix, .slice pcb ls.length ccb, .slice ppb ps.length cpb] 30)).cell? ⟨w3.heap.size, 0, none⟩ = some (.int .i64 ix) := by rw [cell_of_row _ _ 0 _ _ _ (heap_alloc_new w3 _)]; rfl
    have t1 : (w3.alloc (.cells #[.int .i64 ix, .slice pcb ls.length ccb, .slice ppb ps.length cpb] 30)).cell? ⟨w3.heap.size, 1, none⟩ = some (.slice pcb ls.length ccb) := by rw [cell_of_row _ _ 1 _ _ _ (heap_alloc_new w3 _)]; rfl
    have t2 : (w3.alloc (.cells #[.int .i64 ix, .slice pcb ls.length ccb, .slice ppb ps.length cpb] 30)).cell? ⟨w3.heap.size, 2, none⟩ = some (.slice ppb ps.length cpb) := by rw [cell_of_row _ _ 2 _ _ _ (heap_alloc_new w3 _)]; rfl
    have oB : Only g w3 (w3.alloc (.cells #[.int .i64 ix, .slice pcb ls.length ccb, .slice ppb ps.length cpb] 30)) := Only.of_below bB (by omega)
    have ksB := ks3.later bB
    have kcB := kc3.on ko3 oB
    have kpB := kp3.on ko3 oB
    have lcB := kcb.on ko3 oB
    have lpB := kpb.on ko3 oB
    have rB := r3.later bB
    have tlB := tl3.later bB
    have TB' := T3.later bB
    have hb0B := hb03.trans (bB.mono hb03.size)
    have hB1B := Nat.le_trans hB13 bB.size
    have s0B := cell_later bB s0
    have s1B := cell_later bB s1
    have s2B := cell_later bB s2
    go_wp2_with fail
    clear ks3 kc3 kp3 kcb kpb r3 tl3 T3 hb03 hB13 s0 s1 s2 ko3 bB oB
    generalize w3.alloc (.cells #[.int .i64 ix, .slice pcb ls.length ccb, .slice ppb ps.length cpb] 30) = W at *
    have hgW : g ≤ W.heap.size := by have := cell_lt s0B; omega
    have hne2 : w2.heap.size ≠ g := by omega
    have hne3 : w3.heap.size ≠ g := by omega
    have hgg' : g' ≠ g := by omega
    have hgB' : g < B := by omega
    have cP1 := public_any g n hg B1 seed W ksB hg1 hgB1 hB1B hsl hn1 hn2 hh TB'
    have cP2 := fun w' k' t' => rpublic_ok g' n hg B (.slice p' seed.length c') lv seed w' k' t' hn1 hn2 hh
    generalize treeS n seed hg 0 = RT at cP1 cP2
    obtain ⟨dA, xA, yA, zA, xB, yB, zB, koA, _, _, _⟩ := ksB.ko
    refine cP1.mono ?_
    clear cP1
    rintro e w5 ⟨p5, c5, rfl, h5, ks5, o5⟩
    have b0 := cell_ony o5 s0B hne2
    have b1 := cell_ony o5 s1B hne2
    have b2 := cell_ony o5 s2B hne2
    have b3 := cell_ony o5 t0 hne3
    have b4 := cell_ony o5 t1 hne3
    have b5 := cell_ony o5 t2 hne3
    have hbe5 := hb0B.trans (o5.below hgw)
    have T5 := TB'.only o5 hg1
    have r5 : RKO w5 g' n hg (.slice p' seed.length c') lv := (o5.block g' hgg' rB.lt).trans rB
    have tl5 := tlB.only koA o5 hgB'
    have pa5 := kcB _ _ _ _ _ _ _ _ _ _ _ koA o5
    have pb5 := kpB _ _ _ _ _ _ _ _ _ _ _ koA o5
    have pc5 := lcB _ _ _ _ _ _ _ _ _ _ _ koA o5
    have pd5 := lpB _ _ _ _ _ _ _ _ _ _ _ koA o5
    clear s0B s1B s2B t0 t1 t2 hb0B TB' rB tlB kcB kpB lcB lpB koA ksB ks5 o5
    go_wp2_with fail
    refine (cP2 w5 r5 tl5).mono ?_
    clear cP2
    rintro e w6 ⟨p6, c6, rfl, h6, hb6⟩
    have c0 := cell_later hb6 b0
    have c1 := cell_later hb6 b1
    have c2 := cell_later hb6 b2
    have c3 := cell_later hb6 b3
    have c4 := cell_later hb6 b4
    have c5 := cell_later hb6 b5
    have cE := equal_any _ _ _ _ _ (h5.later hb6) h6
    rw [beq_self_eq_true] at cE
    have hbe6 := hbe5.trans (hb6.mono hbe5.size)
    have cS := rsame_true ix _ _ _ _ ls ps w6 (pa5.later hb6) (pc5.later hb6) (pb5.later hb6) (pd5.later hb6)
    have T6 := T5.later hb6
    clear b0 b1 b2 b3 b4 b5 r5 tl5 pa5 pb5 pc5 pd5 T5 h5 h6 hb6 hbe5
    go_wp2_with (first
      | (go_at_call 10; refine cE.mono ?_; clear cE; rintro e w7 ⟨rfl, hw7⟩; have hw8 := hw7.symm; clear hw7; subst hw8)
      | (go_at_call 13; refine cS.mono ?_; clear cS; rintro e w8 ⟨rfl, hb8⟩; have T8 := T6.later hb8; have hbe8 := hbe6.trans (hb8.mono hbe6.size); have cA := hA w8 T8 T8.size2)
      | (go_at_call 7; refine cA.mono ?_; clear cA; rintro e w9 ⟨rfl, hb9⟩; have hbe9 := hbe8.trans (hb9.mono hbe8.size)))
    go_ret
    exact ⟨rfl, hbe9⟩
  · have hK := lkeys_none size height U H hU hH (.slice p seed.length c) seed w h (by omega)
    clear hU hH hU2 hH2 hsl
    go_enter Tryd.func3, Tryd.ntmps3
    go_wp2_with fail
    refine hK.mono ?_
    rintro e w1 ⟨rfl, hw9⟩
    have hw2 := hw9.symm
    clear hw9
    subst hw2
    go_wp2_with (first | (go_at_call 7; refine (hA _ hT hw1).mono ?_; rintro e w2 ⟨rfl, hb2⟩))
    go_ret
    exact ⟨rfl, hb2⟩

end Go.Proofs.YtdjaemobfbbkoaaDoor
