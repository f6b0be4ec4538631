/- What this text proves: the walk of the statement SnapsNew over this program: it answers true for any parameters. -/
import Derived.Test.YtjnnjggcanodhaaGreatDoorJR2
import Derived.Test.YtjnnjggcanodhaaGreatDoorJQ17
namespace Go.Proofs.YtjnnjggcanodhaaGreatDoor
open Go.RowKit

set_option maxRecDepth 100000 in
set_option maxHeartbeats 1000000 in
theorem isort1 (b o c : Nat) (w : World) : Calls Tryz.prog 76 #[.slice (some ⟨b, o, none⟩) 1 c, .int .i64 0, .int .i64 1] w fun e w' => e = .returned (.tuple #[]) ∧ w' = w := by
  go_enter Tryz.func76, Tryz.ntmps76
  go_wp2
  go_loopw [6] (fun v wr => v = .int .i64 1 ∧ wr = w) (fun _ _ => 0)
  case atStart => exact ⟨rfl, rfl⟩
  case round =>
    obtain ⟨rfl, hwe⟩ := hrel
    subst hwe
    go_wp2
    go_end0
    exact ⟨rfl, rfl⟩

set_option maxRecDepth 100000 in
set_option maxHeartbeats 1000000 in
theorem pdq1 (b o c : Nat) (z : Int) (w : World) : Calls Tryz.prog 59 #[.slice (some ⟨b, o, none⟩) 1 c, .int .i64 0, .int .i64 1, .int .i64 z] w fun e w' => e = .returned (.tuple #[]) ∧ w' = w := by
  have hS := isort1 b o c w
  go_enter Tryz.func59, Tryz.ntmps59
  go_wp2
  go_loopw [1, 2] (fun u v wr => u = .int .i64 0 ∧ v = .int .i64 1 ∧ wr = w) (fun _ _ _ => 0)
  case atStart => exact ⟨rfl, rfl, rfl⟩
  case round =>
    obtain ⟨rfl, rfl, hwe⟩ := hrel
    subst hwe
    go_wp2_with fail
    refine hS.mono ?_
    rintro x w1 ⟨rfl, b1⟩
    subst b1
    go_wp2
    refine bodyPost_ret (v := .tuple #[]) ?_ rfl ?_
    · simp only [results, Tryz.results59]
      go_simp
    · exact ⟨rfl, rfl⟩

set_option maxRecDepth 100000 in
set_option maxHeartbeats 1000000 in
theorem blen1 (w : World) : Calls Tryz.prog 60 #[.int .u64 1] w fun e w' => (∃ z, e = .returned (.int .i64 z)) ∧ w' = w := by
  go_enter Tryz.func60, Tryz.ntmps60
  go_wp2
  go_ret
  exact ⟨⟨_, rfl⟩, rfl⟩

set_option maxRecDepth 100000 in
set_option maxHeartbeats 1000000 in
theorem sort1 (b o c : Nat) (w : World) : Calls Tryz.prog 45 #[.slice (some ⟨b, o, none⟩) 1 c] w fun e w' => e = .returned (.tuple #[]) ∧ w' = w := by
  have hL := blen1 w
  go_enter Tryz.func45, Tryz.ntmps45
  go_wp2_with fail
  refine hL.mono ?_
  rintro x w1 ⟨⟨z, rfl⟩, hw⟩
  subst hw
  have hP := pdq1 b o c z w1
  clear hL
  go_wp2_with fail
  refine hP.mono ?_
  rintro x w2 ⟨rfl, b2⟩
  subst b2
  go_wp2
  go_end0
  exact ⟨rfl, rfl⟩

set_option maxRecDepth 100000 in
set_option maxHeartbeats 1000000 in
theorem sepochs_one {w : World} {b : Nat} (hB : w.heap[b]? = some (.cells #[.int .i64 0, .int .i64 (-1)] 57 (0, 0))) :
    Calls Tryz.prog 22 #[.slice (some ⟨b, 0, none⟩) 1 1] w fun e w' => ∃ v, e = .returned v ∧ IA w' v [0] ∧ Below w.heap.size w w' := by
  have d0 : w.cell? ⟨b, 0, none⟩ = some (.int .i64 0) := by rw [cell_of_row _ _ _ _ _ _ hB]; rfl
  have d1 : w.cell? ⟨b, 1, none⟩ = some (.int .i64 (-1)) := by rw [cell_of_row _ _ _ _ _ _ hB]; rfl
  obtain ⟨i0, hi, hz0, hz1, hz2⟩ := info_parts i_intS2
  go_enter Tryz.func22, Tryz.ntmps22
  go_wp2
  go_loopw [3, 8] (fun v i wr => ∃ k : Nat, k ≤ 1 ∧ i = .int .i64 (k : Int) ∧ wr.ownsRow w.heap.size 3 1 v k (ics (List.range k)) ∧ Below w.heap.size w wr) (fun _ i _ => 1 - (intOf i).toNat)
  case atStart => exact ⟨0, by omega, rfl, World.ownsRow_nil _ _ _ _, Below.refl _ _⟩
  case round =>
    obtain ⟨k, hk, rfl, hown, hbe⟩ := hrel
    have hsz := hbe.size
    rcases (by omega : k = 0 ∨ k = 1) with rfl | rfl
    · have gx := cell_later hbe d0
      have gy := cell_later hbe d1
      have bA := hbe.alloc hsz (.cells #[.int .i64 0, .int .i64 (-1)] 57)
      have gA := heap_alloc_new wr (.cells #[.int .i64 0, .int .i64 (-1)] 57)
      have oA := hown.alloc (.cells #[.int .i64 0, .int .i64 (-1)] 57)
      have hzA := bA.size
      generalize hZ : wr.alloc (.cells #[.int .i64 0, .int .i64 (-1)] 57) = Z at *
      have z0 : Z.cell? ⟨wr.heap.size, 0, none⟩ = some (.int .i64 0) := by rw [cell_of_row _ _ _ _ _ _ gA]; rfl
      go_wp2_with (first | (at_builtin; refine wpList_append_own _ rfl (.tmp 12) (.tmp 15) 33 rfl w.heap.size 3 i0 (.int .i64 0) 1 8 Tryz.underlying33 hi hz0 hz1 hz2 rfl (by decide) _ _ _ rfl (oA.alloc _) ⟨Z.heap.size, 0, none⟩ 1 1 [.int .i64 0] rfl rfl ?ra ?rb ?rc ?rd ?re ?_))
      case ra => exact cell_one_new _ _ _
      case rb => intro u hu; simp at hu; subst hu; rfl
      case rc => unfold maxLen; omega
      case rd => omega
      case re => simp; omega
      intro v3 w3 hown3 hgrow3 _
      have hb3 : Below w.heap.size w w3 := (bA.alloc hzA _).grown hgrow3 (by simp; omega) (fun k hk => (oA.lt k hk).1)
      have hown4 : w3.ownsRow w.heap.size 3 1 v3 (0 + 1) (ics (List.range (0 + 1))) := hown3
      clear hown hown3 hgrow3 oA
      go_wp2
      go_roundw
      case rel => first | exact ⟨0 + 1, by omega, by go_num, hown4, hb3⟩ | ((repeat apply Exists.intro); exact ⟨⟨0 + 1, by omega, by go_num, hown4, hb3⟩, rfl⟩)
      case measure => simp [intOf]
    · have hI : IA wr _ [0] := IA.of_owns hown
      obtain ⟨p2, c2, rfl⟩ := owns_shape hown
      obtain ⟨bb, oo, rfl, f1⟩ := hI.addr (by decide)
      have hS := sort1 bb oo c2 wr
      clear f1 hown
      go_wp2_with fail
      refine hS.mono ?_
      rintro x w4 ⟨rfl, b4⟩
      subst b4
      go_wp2
      go_ret
      exact ⟨_, rfl, hI, hbe⟩

set_option maxRecDepth 100000 in
set_option maxHeartbeats 1000000 in
theorem skept_one {w : World} {g b2 : Nat} {s h mi mk ch ar ca pg : Int} {ga : Nat} {vb vt : Value} (H : SN w g s h mi mk ch ar ca pg ga vb (.slice (some ⟨b2, 0, none⟩) 1 1) vt) (hB : w.heap[b2]? = some (.cells #[.int .i64 0, .int .i64 (-1)] 57 (0, 0))) :
    Calls Tryz.prog 9 #[.pointer (some ⟨g, 0, none⟩)] w fun e w' => ∃ v, e = .returned v ∧ IA w' v [0] ∧ Below w.heap.size w w' := by
  have hM := smiss_no H
  have hE := sepochs_one hB
  obtain ⟨_, _, _, c10, _⟩ := H.cells
  clear H hB
  go_enter Tryz.func9, Tryz.ntmps9
  go_wp2_with fail
  refine hM.mono ?_
  rintro x w1 ⟨rfl, hw⟩
  subst hw
  clear hM
  go_wp2_with fail
  refine hE.mono ?_
  rintro x w2 ⟨v, rfl, hI, b2⟩
  go_wp2
  go_ret
  exact ⟨v, rfl, hI, b2⟩

set_option maxRecDepth 100000 in
set_option maxHeartbeats 4000000 in
theorem snNewWalk (s h mi mk ch ar ca pg : Int) (w : World) (hT : Tabs w) :
    Calls Tryz.prog 3 #[.agg #[.int .i64 s, .int .i64 h, .int .i64 mi, .int .i64 mk, .int .i64 ch, .int .i64 ar, .int .i64 ca, .int .i64 pg]] w fun x w' => x = .returned (.bool true) ∧ Below w.heap.size w w' := by
  have b0 := (Below.refl w.heap.size w).alloc (Nat.le_refl _) (.cells #[.int .i64 s, .int .i64 h, .int .i64 mi, .int .i64 mk, .int .i64 ch, .int .i64 ar, .int .i64 ca, .int .i64 pg] 23)
  have g0 := heap_alloc_new w (.cells #[.int .i64 s, .int .i64 h, .int .i64 mi, .int .i64 mk, .int .i64 ch, .int .i64 ar, .int .i64 ca, .int .i64 pg] 23)
  have l0 : w.heap.size < (w.alloc (.cells #[.int .i64 s, .int .i64 h, .int .i64 mi, .int .i64 mk, .int .i64 ch, .int .i64 ar, .int .i64 ca, .int .i64 pg] 23)).heap.size := by simp
  obtain ⟨L, hL⟩ : ∃ L : List Nat, L = [0] := ⟨_, rfl⟩
  have HL : Hid (L = [0]) := hL
  clear hL
  by_cases hz : chkV s h mi mk ch ar ca pg = 0
  · have hN := fun W => snew_ok s h mi mk ch ar ca pg W hz
    have hR := fun W => rsnew_ok s h mi mk ch ar ca pg W hz
    clear hz
    go_enter Tryz.func3, Tryz.ntmps3
    go_wp2_with fail
    refine (hN _).mono ?_
    rintro x w1 ⟨g, ga, n1, n2, rfl, H1, B1, B2, A1, _, _, _, _, b1⟩
    have bA := b0.trans (b1.mono b0.size)
    have g1 := (b1.block _ l0).trans g0
    obtain ⟨c0, c1, c2, c3, c4, c5, c6, c7⟩ := par_cells g1
    clear hN g0 l0 b0
    go_wp2_with fail
    refine (hR _).mono ?_
    rintro x w2 ⟨⟨a, rfl⟩, b2⟩
    have bB := bA.trans (b2.mono bA.size)
    have H2 : SN w2 g s h mi mk ch ar ca pg ga (.slice (some ⟨n1, 0, none⟩) 1 1) (.slice (some ⟨n2, 0, none⟩) 1 1) (.slice none 0 0) := SN.later H1 b2
    have hLa := slast_ok H2 (Nat.le_refl _) (by decide)
    have hK := skept_one H2 ((b2.block _ (Array.getElem?_eq_some_iff.1 B2).1).trans B2)
    rw [← HL.out] at hK
    clear hR H1 B1 B2 A1 b1 g1 c0 c1 c2 c3 c4 c5 c6 c7 bA b2
    go_wp2_with fail
    refine hLa.mono ?_
    rintro x w3 ⟨rfl, hw⟩
    subst hw
    clear hLa H2
    go_wp2_with fail
    refine hK.mono ?_
    rintro x w4 ⟨v, rfl, hI, b4⟩
    obtain ⟨p4, c4, rfl⟩ := hI.shape
    have hA := (Below.refl w4.heap.size w4).alloc (Nat.le_refl _) (.cells #[.int .i64 0] 3)
    have hJ : IA (w4.alloc (.cells #[.int .i64 0] 3)) (.slice (some ⟨w4.heap.size, 0, none⟩) 1 1) L := IA.litF w4 3 L _ 1 (0, 0) (by rw [HL.out]; rfl) (by rw [HL.out]; rfl) (by decide)
    have hE := slequal_same _ _ L _ (hI.later hA) hJ
    have b05 := bB.trans (b4.mono bB.size)
    have b06 := b05.trans (hA.mono b05.size)
    clear hK hJ
    go_wp2_with fail
    refine hE.mono ?_
    rintro x w6 ⟨rfl, b6⟩
    have bF := b06.trans (b6.mono b06.size)
    have hW := snAwake_any w6 (hT.later bF)
    clear hE
    go_wp2_with fail
    refine hW.mono ?_
    rintro x w7 ⟨rfl, b7⟩
    have bG := bF.trans (b7.mono bF.size)
    go_wp2
    go_ret
    exact ⟨rfl, bG⟩
  · have hN := fun W => snew_bad s h mi mk ch ar ca pg W hz
    have hR := fun W => rsnew_bad s h mi mk ch ar ca pg W hz
    clear hz
    generalize chkV s h mi mk ch ar ca pg = z at *
    go_enter Tryz.func3, Tryz.ntmps3
    go_wp2_with fail
    refine (hN _).mono ?_
    rintro x w1 ⟨rfl, b1⟩
    have bA := b0.trans (b1.mono b0.size)
    have g1 := (b1.block _ l0).trans g0
    obtain ⟨c0, c1, c2, c3, c4, c5, c6, c7⟩ := par_cells g1
    clear hN g0 l0 b0
    go_wp2_with fail
    refine (hR _).mono ?_
    rintro x w2 ⟨rfl, b2⟩
    have bB := bA.trans (b2.mono bA.size)
    have hW := snAwake_any w2 (hT.later bB)
    clear hR
    go_wp2_with fail
    refine hW.mono ?_
    rintro x w7 ⟨rfl, b7⟩
    have bG := bB.trans (b7.mono bB.size)
    go_wp2
    go_ret
    exact ⟨rfl, bG⟩

end Go.Proofs.YtjnnjggcanodhaaGreatDoor
