/- What this text proves: the walk of the document's Read (annalsref06) over this program: a signature of bytes, or the error. What this text proves: mts.Read and the document's Read (annalsref06) answer alike over this program, any size and height: one error, or one signature and what is left; what was read, written, is what was read. What this text proves: both Reads (mts.Read and the document's), an error or none, over this program; where there is none, no row is empty. What this text proves: record.Open and the document's Open answer alike over this program, whatever the size, the height and the bytes. -/
import Derived.Test.YtganajmhdpiipaaGreatDoorJR1
import Derived.Test.YtganajmhdpiipaaGreatDoorJRd
import Derived.Test.YtganajmhdpiipaaGreatDoorJMl
import Derived.Test.YtganajmhdpiipaaGreatDoorJW1
import Derived.Test.YtganajmhdpiipaaGreatDoorJDc
import Derived.Test.YtganajmhdpiipaaGreatDoorJRo
namespace Go.Proofs.YtganajmhdpiipaaGreatDoor.Vf
open Go.RowKit

theorem xuint_n (g : Nat) (l : List UInt8) (most : Int) (w : World) (h : XR w g l 0) (hsz : l.length ≤ 140737488355328) (ue : Int) (un : Nat) (r : List UInt8) (hU : uintF l most = (ue, un, r)) :
    Calls Tryz.prog 53 #[.pointer (some ⟨g, 0, none⟩), .int .i64 most] w fun x w' => x = .returned (.int .i64 (un : Int)) ∧ XR w' g r ue ∧ Only g w w' := by
  have k := xuint_any g l most w h hsz
  unfold XSaid at k
  rw [hU] at k
  exact k

theorem cf_take (args : Array Value) (w : World) : (callFunc 54 args).run Tryz.prog w = .ok (.enter 54 args) w := by
  unfold callFunc
  go_simp
  rw [if_neg (by decide +kernel), if_neg (by decide +kernel)]

set_option maxRecDepth 100000 in
set_option maxHeartbeats 4000000 in
theorem rmread_any (n h : Nat) (v : Value) (b : List UInt8) (M ue : Int) (un : Nat) (r : List UInt8) (w : World) (HM : Hid (wrap64 (wrap64 ((2 : Int) ^ h) - 1) = M)) (HU : Hid (uintF b M = (ue, un, r))) (hv : HB w v b) (hsz : b.length ≤ 140737488355000) (hn : 1 ≤ n) (hn2 : n ≤ 32) (hh : h ≤ 8) (SS sg : Nat → List UInt8) (EE : Nat → Int) (HS0 : Hid (SS 0 = r)) (HE0 : Hid (EE 0 = ue))
    (HT : Hid (∀ (j g : Nat) (w : World), XR w g (SS j) (EE j) → Calls Tryz.prog 54 #[.pointer (some ⟨g, 0, none⟩), .int .i64 (n : Int)] w fun x w' => ∃ p c, x = .returned (.slice p (sg j).length c) ∧ HBN w' g (.slice p (sg j).length c) (sg j) ∧ XR w' g (SS (j + 1)) (EE (j + 1)) ∧ Only g w w' ∧ TB w' (.slice p (sg j).length c))) :
    Calls Tryz.prog 29 #[.int .i64 (n : Int), .int .i64 (h : Int), v] w fun e w' => (EE (4 * n + 5 + h) = 0 → ∃ x y p c, e = .returned (.tuple #[.agg #[.int .i64 (un : Int), x, y], .slice p (SS (4 * n + 5 + h)).length c, .int .i64 0]) ∧ RS w' w.heap.size x (4 * n + 5) sg ∧ RS w' w.heap.size y h (fun j => sg (4 * n + 5 + j)) ∧ HB w' (.slice p (SS (4 * n + 5 + h)).length c) (SS (4 * n + 5 + h))) ∧ (EE (4 * n + 5 + h) ≠ 0 → e = .returned (.tuple #[.agg #[.int .i64 0, .slice none 0 0, .slice none 0 0], .slice none 0 0, .int .i64 (EE (4 * n + 5 + h))])) ∧ Below w.heap.size w w' := by
  obtain ⟨p, c, rfl⟩ := hv.shape
  have hn3 : ¬ (n : Int) < 1 := by omega
  have hn4 : ¬ (32 : Int) < (n : Int) := by omega
  have hh3 : ¬ (h : Int) < 0 := by omega
  have hh4 : ¬ (8 : Int) < (h : Int) := by omega
  have h256 : 2 ^ h ≤ 256 := by
    have : 2 ^ h ≤ 2 ^ 8 := Nat.pow_le_pow_right (by decide) hh
    omega
  have HW : Hid (wrap64 ((2 : Int) ^ h) = ((2 ^ h : Nat) : Int)) := pow_wrap h hh
  have bA := (Below.refl _ w).alloc (Nat.le_refl _) (.cells #[.int .i64 0, .slice none 0 0, .slice none 0 0] 27)
  have bB := bA.alloc (by simp) (.cells #[] 5)
  go_enter Tryz.func29, Tryz.ntmps29
  have g1 := heap_alloc_new w (.cells #[.int .i64 0, .slice none 0 0, .slice none 0 0] 27)
  have oA : ((w.alloc (.cells #[.int .i64 0, .slice none 0 0, .slice none 0 0] 27)).alloc (.cells #[] 5)).ownsRow (w.heap.size + 1) 5 1 (.slice (some ⟨w.heap.size + 1, 0, none⟩) 0 0) 0 [] := by
    have := owns_none (w.alloc (.cells #[.int .i64 0, .slice none 0 0, .slice none 0 0] 27)) 5
    simpa using this
  have hvB := hv.later bB
  have sB : w.heap.size + 1 ≤ ((w.alloc (.cells #[.int .i64 0, .slice none 0 0, .slice none 0 0] 27)).alloc (.cells #[] 5)).heap.size := by simp
  have bC : Below (w.heap.size + 1) (w.alloc (.cells #[.int .i64 0, .slice none 0 0, .slice none 0 0] 27)) ((w.alloc (.cells #[.int .i64 0, .slice none 0 0, .slice none 0 0] 27)).alloc (.cells #[] 5)) := (Below.refl _ _).alloc (by simp) _
  go_wp2_with (first | (at_builtin; refine wpList_append_hb rfl (.tmp 26) (.tmp 27) 22 rfl (w.heap.size + 1) 5 Tryz.underlying22 i_u8 _ _ _ rfl oA _ _ _ b rfl hvB ?aa ?ab ?_))
  case aa => omega
  intro v2 w2 o2' hg2
  have o2 : w2.ownsRow (w.heap.size + 1) 5 1 v2 b.length (bcs b) := by simpa using o2'
  have b12 : Below (w.heap.size + 1) (w.alloc (.cells #[.int .i64 0, .slice none 0 0, .slice none 0 0] 27)) w2 := bC.grown hg2 sB (fun k hk => by cases hk; exact Nat.le_refl _)
  have b02 : Below w.heap.size w w2 := bA.trans (b12.mono (by omega))
  have g2 : w2.heap[w.heap.size]? = some (.cells #[.int .i64 0, .slice none 0 0, .slice none 0 0] 27 (0, 0)) := (b12.block _ (by omega)).trans g1
  obtain ⟨p2, c2, rfl⟩ := owns_shape o2
  have h2 := HB.of_owns o2
  have t2 := TB.of_owns o2
  have hlt2 := o2.lt
  have x0 : XR (w2.alloc (.cells #[.slice p2 b.length c2, .int .i64 0] 55)) w2.heap.size b 0 := ⟨p2, c2, heap_alloc_new w2 _, ⟨h2.later ((Below.refl _ w2).alloc (Nat.le_refl _) _), fun a n c e => ⟨by have := (hlt2 a.block (by rw [e]; rfl)).2; omega, (TY.of_owns o2 e).later ((Below.refl _ w2).alloc (Nat.le_refl _) _)⟩⟩, t2.later ((Below.refl _ w2).alloc (Nat.le_refl _) _)⟩
  have b23 := (Below.refl _ w2).alloc (Nat.le_refl _) (.cells #[.slice p2 b.length c2, .int .i64 0] 55)
  have b03 := b02.trans (b23.mono b02.size)
  have g3 := (b23.block _ (Array.getElem?_eq_some_iff.1 g2).1).trans g2
  clear bA bB bC oA hvB sB g1 o2' hg2 o2 b12 hlt2 h2 t2 b23 hv
  go_wp2_with fail
  rw [HM.out]
  generalize wrap64 ((2 : Int) ^ h) = N0 at *
  refine (xuint_n w2.heap.size b M _ x0 (by omega) ue un r HU.out).mono ?_
  rintro e w4 ⟨rfl, x4, O4⟩
  obtain ⟨W3, hW3⟩ : ∃ W3, W3 = w2.alloc (.cells #[.slice p2 b.length c2, .int .i64 0] 55) := ⟨_, rfl⟩
  rw [← hW3] at g3 b03 O4
  have hg3 : w.heap.size < w2.heap.size := (Array.getElem?_eq_some_iff.1 g2).1
  have g4 : w4.heap[w.heap.size]? = some (.cells #[.int .i64 0, .slice none 0 0, .slice none 0 0] 27 (0, 0)) := (O4.block _ (by omega) (Array.getElem?_eq_some_iff.1 g3).1).trans g3
  have b04 : Below w.heap.size w w4 := b03.trans (O4.below (by omega))
  clear x0 g3 b03 hW3 O4 g2
  clear HW h256 hh3 hh4 hn3 hn4 HM HU
  rw [← HS0.out, ← HE0.out] at x4
  go_wp2_with fail
  obtain ⟨W, hW⟩ : ∃ W, W = w4.alloc (.cells #[.int .i64 (un : Int), .slice none 0 0, .slice none 0 0] 27) := ⟨_, rfl⟩
  have bW : Below w4.heap.size w4 W := by rw [hW]; exact (Below.refl _ w4).alloc (Nat.le_refl _) _
  have gsW : W.heap[w4.heap.size]? = some (.cells #[.int .i64 (un : Int), .slice none 0 0, .slice none 0 0] 27 (0, 0)) := by rw [hW]; exact heap_alloc_new w4 _
  have xW := x4.later bW
  have s04 := b04.size
  have gW : W.heap[w.heap.size]? = some (.cells #[.int .i64 0, .slice none 0 0, .slice none 0 0] 27 (0, 0)) := (bW.block _ (Array.getElem?_eq_some_iff.1 g4).1).trans g4
  have b0W : Below w.heap.size w W := b04.trans (bW.mono s04)
  have hgr4 : w2.heap.size < w4.heap.size := by obtain ⟨_, _, hd, _⟩ := x4; exact hd.lt
  have hgsl : w4.heap.size < W.heap.size := (Array.getElem?_eq_some_iff.1 gsW).1
  rw [← hW]
  clear hW x4 g4 bW
  generalize hgs : w4.heap.size = gs at *
  generalize hgr : w2.heap.size = gr at *
  clear hgs hgr
  obtain ⟨i0, hi9, hz0, hz1, hz2⟩ := info_parts i_bytes
  obtain ⟨N, hN⟩ : ∃ N, N = 4 * n + 5 := ⟨_, rfl⟩
  go_loopw [40] (fun v wr => ∃ (m : Nat) (y : Value), m ≤ 4 * n + 5 ∧ v = .int .i64 m ∧ wr.heap[gs]? = some (.cells #[.int .i64 (un : Int), y, .slice none 0 0] 27 (0, 0)) ∧ RS wr W.heap.size y m sg ∧ XR wr gr (SS m) (EE m) ∧ Two gs gr W wr) (fun v _ => 4 * n + 5 - (intOf v).toNat)
  case atStart => exact ⟨0, _, Nat.zero_le _, rfl, gsW, ⟨[], World.ownsRow_nil _ _ _ _, fun j u hu => by simp at hu⟩, xW, Two.refl _ _ _⟩
  case round =>
    obtain ⟨m, y, hm, rfl, gsr, hrs, xr, two⟩ := hrel
    have s3r := two.size
    by_cases hlt : m < 4 * n + 5
    · have hlt2 : (m : Int) < 4 * (n : Int) + 5 := by omega
      have c1 : wr.cell? ⟨gs, 1, none⟩ = some y := by rw [cell_of_row _ _ 1 _ _ _ gsr]; rfl
      have bD : Below wr.heap.size wr wr.drew := (Below.refl _ wr).drew
      have c1d := cell_later bD c1
      have hTk := HT.out m gr _ (xr.later bD)
      have hrd := hrs.later bD
      have gsd : wr.drew.heap[gs]? = some (.cells #[.int .i64 (un : Int), y, .slice none 0 0] 27 (0, 0)) := (bD.block _ (by omega)).trans gsr
      have twod := two.later bD (by omega)
      obtain ⟨pl, cpl, rfl⟩ := owns_shape hrs.choose_spec.1
      obtain ⟨qx, dx, xd, _⟩ := xr.later bD
      have hgrW : gr < W.heap.size := by omega
      have hne : gr ≠ gs := by omega
      have sD : wr.heap.size = wr.drew.heap.size := by simp
      have hTk2 : Calls Tryz.prog 54 #[.pointer (some ⟨gr, 0, none⟩), .int .i64 (n : Int)] wr.drew fun x w' => ∃ v, x = .returned v ∧ ∃ p c, v = .slice p (sg m).length c ∧ HBN w' gr (.slice p (sg m).length c) (sg m) ∧ XR w' gr (SS (m + 1)) (EE (m + 1)) ∧ Only gr wr.drew w' ∧ TB w' (.slice p (sg m).length c) := hTk.mono fun x w' ⟨p, c, h1, h2⟩ => ⟨_, h1, p, c, rfl, h2⟩
      clear hrs xr gsr two bD hTk
      go_wp2
      go_region_law (first
        | (refine step_calls2 (by rfl) 54 _ _ _ _ (by rfl) _ _ (by rfl) (by rfl) (cf_take _ _) _ hTk2 ?_; rintro e w5 ⟨p5, c5, rfl, hx5, xr5, O5, t5⟩; obtain ⟨vs, r1, r2⟩ := hrd.box xd (by decide) O5 hgrW; have gs5 : w5.heap[gs]? = some (.cells #[.int .i64 (un : Int), .slice pl m cpl, .slice none 0 0] 27 (0, 0)) := (O5.block gs (by omega) (by omega)).trans gsd; have two5 := twod.only O5; have e1 : w5.cell? ⟨gs, 1, none⟩ = some (.slice pl m cpl) := (by rw [cell_of_row _ _ 1 _ _ _ gs5]; rfl); have bB := (Below.refl _ w5).alloc (Nat.le_refl _) (.cells #[.slice p5 (sg m).length c5] 22); have e2 := cell_later bB e1; have s5 := two5.size)
        | (refine step_append_lies _ (by rfl) _ _ _ (by rfl) W.heap.size 22 i0 _ 1 24 Tryz.underlying23 hi9 hz0 hz1 hz2 rfl (by omega) _ m vs (by rfl) (owns_later r1 bB) ⟨w5.heap.size, 0, none⟩ 1 1 [.slice p5 (sg m).length c5] (by rfl) (by rfl) (World.news_of_block (cs := #[.slice p5 (sg m).length c5]) (t := 22) (fr := (0, 0)) (heap_alloc_new w5 _)) (by simp [Value.oneCell']) (by omega) (by unfold maxLen; omega) (by omega) (by simp; omega) (w5.heap.size + 1) (by simp) ?_; intro g7 cap7 w7 hown7 hgrow7 hat hlt7; obtain ⟨gs7, xr8, rs8, two8⟩ := take_put (i := 1) two5 gs5 hne hgsl hgrW xr5 r1 r2 hx5.1 t5 hgrow7 hown7; have x7 : w7.cell? ⟨gs, 1, none⟩ = some (.slice pl m cpl) := (by rw [cell_of_row _ _ 1 _ _ _ gs7]; rfl); have z7 : w7.frozen? ⟨gs, 1, none⟩ = false := (by simp [World.frozen?, gs7])))
      all_goals
        have gs8 : (w7.setCell ⟨gs, 1, none⟩ (.slice (some ⟨g7, 0, none⟩) (m + 1) cap7)).heap[gs]? = some (.cells #[.int .i64 (un : Int), .slice (some ⟨g7, 0, none⟩) (m + 1) cap7, .slice none 0 0] 27 (0, 0)) := by
          rw [heap_setCell_same w7 gs 1 _ _ _ gs7]; rfl
        clear r1 r2 hgrow7 hown7 hat hlt7 gs7 e1 e2 bB gs5 two5 xr5 O5 t5 hx5 gsd twod xd hrd c1 c1d hTk2 x7 z7
        go_wp2
        go_roundw
        case rel => exact ⟨m + 1, _, by omega, by go_num, gs8, rs8, xr8, two8⟩
        case measure => simp [intOf]; omega
    · obtain rfl : m = 4 * n + 5 := by omega
      clear hlt hm xW gsW
      clear hN N
      obtain ⟨py, cy, rfl⟩ := owns_shape hrs.choose_spec.1
      obtain ⟨N, hN⟩ : ∃ N, N = 4 * n + 5 := ⟨_, rfl⟩
      have HN : Hid (N = 4 * n + 5) := hN
      rw [← hN] at gsr hrs xr ⊢
      have hnlt : ¬ (N : Int) < 4 * (n : Int) + 5 := by omega
      have hN200 : N ≤ 200 := by omega
      clear hN
      have hgsr : gs < wr.heap.size := by omega
      go_wp2
      generalize hVe : wr = V at *
      clear hVe
      go_loopw [52] (fun v wr => ∃ (m : Nat) (z : Value), m ≤ h ∧ v = .int .i64 m ∧ wr.heap[gs]? = some (.cells #[.int .i64 (un : Int), .slice py N cy, z] 27 (0, 0)) ∧ RS wr V.heap.size z m (fun j => sg (N + j)) ∧ XR wr gr (SS (N + m)) (EE (N + m)) ∧ Two gs gr V wr) (fun v _ => h - (intOf v).toNat)
      case atStart => exact ⟨0, _, Nat.zero_le _, rfl, gsr, ⟨[], World.ownsRow_nil _ _ _ _, fun j u hu => by simp at hu⟩, xr, Two.refl _ _ _⟩
      case round =>
        obtain ⟨qv, dv, xdV, _⟩ := xr
        have gsV := gsr
        have hrsV := hrs
        have twoV := two
        clear gsr hrs two
        obtain ⟨m, z, hm, rfl, gsr, hrs, xr, two⟩ := hrel
        have s3w := two.size
        by_cases hlt : m < h
        · have hlt2 : (m : Int) < (h : Int) := by omega
          have c1 : wr.cell? ⟨gs, 2, none⟩ = some z := by rw [cell_of_row _ _ 2 _ _ _ gsr]; rfl
          have bD : Below wr.heap.size wr wr.drew := (Below.refl _ wr).drew
          have c1d := cell_later bD c1
          have hTk := HT.out (N + m) gr _ (xr.later bD)
          have hrd := hrs.later bD
          have gsd : wr.drew.heap[gs]? = some (.cells #[.int .i64 (un : Int), .slice py N cy, z] 27 (0, 0)) := (bD.block _ (by omega)).trans gsr
          have twod := two.later bD (by omega)
          obtain ⟨pl, cpl, rfl⟩ := owns_shape hrs.choose_spec.1
          obtain ⟨qx, dx, xd, _⟩ := xr.later bD
          have hgrW : gr < V.heap.size := by omega
          have hne : gr ≠ gs := by omega
          have sD : wr.heap.size = wr.drew.heap.size := by simp
          have hTk2 : Calls Tryz.prog 54 #[.pointer (some ⟨gr, 0, none⟩), .int .i64 (n : Int)] wr.drew fun x w' => ∃ v, x = .returned v ∧ ∃ p c, v = .slice p (sg (N + m)).length c ∧ HBN w' gr (.slice p (sg (N + m)).length c) (sg (N + m)) ∧ XR w' gr (SS (N + m + 1)) (EE (N + m + 1)) ∧ Only gr wr.drew w' ∧ TB w' (.slice p (sg (N + m)).length c) := hTk.mono fun x w' ⟨p, c, h1, h2⟩ => ⟨_, h1, p, c, rfl, h2⟩
          clear hrs xr gsr two bD hTk
          go_wp2
          go_region_law (first
            | (refine step_calls2 (by rfl) 54 _ _ _ _ (by rfl) _ _ (by rfl) (by rfl) (cf_take _ _) _ hTk2 ?_; rintro e w5 ⟨p5, c5, rfl, hx5, xr5, O5, t5⟩; obtain ⟨vs, r1, r2⟩ := hrd.box xd (by decide) O5 hgrW; have gs5 : w5.heap[gs]? = some (.cells #[.int .i64 (un : Int), .slice py N cy, .slice pl m cpl] 27 (0, 0)) := (O5.block gs (by omega) (by omega)).trans gsd; have two5 := twod.only O5; have e1 : w5.cell? ⟨gs, 2, none⟩ = some (.slice pl m cpl) := (by rw [cell_of_row _ _ 2 _ _ _ gs5]; rfl); have bB := (Below.refl _ w5).alloc (Nat.le_refl _) (.cells #[.slice p5 (sg (N + m)).length c5] 22); have e2 := cell_later bB e1; have s5 := two5.size)
            | (refine step_append_lies _ (by rfl) _ _ _ (by rfl) V.heap.size 22 i0 _ 1 24 Tryz.underlying23 hi9 hz0 hz1 hz2 rfl (by omega) _ m vs (by rfl) (owns_later r1 bB) ⟨w5.heap.size, 0, none⟩ 1 1 [.slice p5 (sg (N + m)).length c5] (by rfl) (by rfl) (World.news_of_block (cs := #[.slice p5 (sg (N + m)).length c5]) (t := 22) (fr := (0, 0)) (heap_alloc_new w5 _)) (by simp [Value.oneCell']) (by omega) (by unfold maxLen; omega) (by omega) (by simp; omega) (w5.heap.size + 1) (by simp) ?_; intro g7 cap7 w7 hown7 hgrow7 hat hlt7; obtain ⟨gs7, xr8, rs8, two8⟩ := take_put (i := 2) (sig := fun j => sg (N + j)) two5 gs5 hne hgsr hgrW xr5 r1 r2 hx5.1 t5 hgrow7 hown7; have x7 : w7.cell? ⟨gs, 2, none⟩ = some (.slice pl m cpl) := (by rw [cell_of_row _ _ 2 _ _ _ gs7]; rfl); have z7 : w7.frozen? ⟨gs, 2, none⟩ = false := (by simp [World.frozen?, gs7])))
          all_goals
            have gs8 : (w7.setCell ⟨gs, 2, none⟩ (.slice (some ⟨g7, 0, none⟩) (m + 1) cap7)).heap[gs]? = some (.cells #[.int .i64 (un : Int), .slice py N cy, .slice (some ⟨g7, 0, none⟩) (m + 1) cap7] 27 (0, 0)) := by
              rw [heap_setCell_same w7 gs 2 _ _ _ gs7]; rfl
            clear r1 r2 hgrow7 hown7 hat hlt7 gs7 e1 e2 bB gs5 two5 xr5 O5 t5 hx5 gsd twod xd hrd c1 c1d hTk2 x7 z7
            go_wp2
            go_roundw
            case rel => exact ⟨m + 1, _, by omega, by go_num, gs8, rs8, xr8, two8⟩
            case measure => simp [intOf]; omega
        · obtain rfl : m = h := by omega
          have hrsy := hrsV.two gsV xdV two
          obtain ⟨pz, cz, rfl⟩ := owns_shape hrs.choose_spec.1
          have hmm : ¬ (m : Int) < (m : Int) := by omega
          obtain ⟨qr, dr, xdr, hbr, tbr⟩ := xr
          have ce := xdr.cells.2
          have cb := xdr.cells.1
          have hw1 : w.heap.size < V.heap.size := by omega
          have gwr : wr.heap[w.heap.size]? = some (.cells #[.int .i64 0, .slice none 0 0, .slice none 0 0] 27 (0, 0)) := (two.2 _ hw1 (by omega) (by omega)).trans ((twoV.2 _ (by omega) (by omega) (by omega)).trans gW)
          have bwr : Below w.heap.size w wr := b0W.trans ((twoV.below (by omega) (by omega)).trans (two.below (by omega) (by omega)))
          have x0 : wr.cell? ⟨w.heap.size, 0, none⟩ = some (.int .i64 0) := by rw [cell_of_row _ _ 0 _ _ _ gwr]; rfl
          have x1 : wr.cell? ⟨w.heap.size, 1, none⟩ = some (.slice none 0 0) := by rw [cell_of_row _ _ 1 _ _ _ gwr]; rfl
          have x2 : wr.cell? ⟨w.heap.size, 2, none⟩ = some (.slice none 0 0) := by rw [cell_of_row _ _ 2 _ _ _ gwr]; rfl
          have y0 : wr.frozen? ⟨w.heap.size, 0, none⟩ = false := by simp [World.frozen?, gwr]
          have y1 : wr.frozen? ⟨w.heap.size, 1, none⟩ = false := by simp [World.frozen?, gwr]
          have y2 : wr.frozen? ⟨w.heap.size, 2, none⟩ = false := by simp [World.frozen?, gwr]
          have s0 : wr.cell? ⟨gs, 0, none⟩ = some (.int .i64 (un : Int)) := by rw [cell_of_row _ _ 0 _ _ _ gsr]; rfl
          have s1 : wr.cell? ⟨gs, 1, none⟩ = some (.slice py N cy) := by rw [cell_of_row _ _ 1 _ _ _ gsr]; rfl
          have s2 : wr.cell? ⟨gs, 2, none⟩ = some (.slice pz m cz) := by rw [cell_of_row _ _ 2 _ _ _ gsr]; rfl
          have hgrw : gr ≠ w.heap.size := by omega
          by_cases he0 : EE (N + m) = 0
          · rw [he0] at ce
            have hon : Only w.heap.size wr (((wr.setCell ⟨w.heap.size, 0, none⟩ (.int .i64 (un : Int))).setCell ⟨w.heap.size, 1, none⟩ (.slice py N cy)).setCell ⟨w.heap.size, 2, none⟩ (.slice pz m cz)) := (((Only.refl _ wr).setCell 0 _).setCell 1 _).setCell 2 _
            have cb5 := cell_ony hon cb hgrw
            have bd5 : Below (((wr.setCell ⟨w.heap.size, 0, none⟩ (.int .i64 (un : Int))).setCell ⟨w.heap.size, 1, none⟩ (.slice py N cy)).setCell ⟨w.heap.size, 2, none⟩ (.slice pz m cz)).heap.size _ (((wr.setCell ⟨w.heap.size, 0, none⟩ (.int .i64 (un : Int))).setCell ⟨w.heap.size, 1, none⟩ (.slice py N cy)).setCell ⟨w.heap.size, 2, none⟩ (.slice pz m cz)).drew := (Below.refl _ _).drew
            have pf := ((hrsy.box gwr (by decide) hon (by omega)).mono (base' := w.heap.size) (by omega)).later bd5
            have rf := ((hrs.box gwr (by decide) hon (by omega)).mono (base' := w.heap.size) (by omega)).later bd5
            have kf := (hb_box gwr (by decide) hon hbr.1 tbr).1.later bd5
            have bf : Below w.heap.size w (((wr.setCell ⟨w.heap.size, 0, none⟩ (.int .i64 (un : Int))).setCell ⟨w.heap.size, 1, none⟩ (.slice py N cy)).setCell ⟨w.heap.size, 2, none⟩ (.slice pz m cz)).drew := (bwr.trans (hon.below (Nat.le_refl _))).drew
            clear hrsy hrs hbr tbr xdr gsr two twoV gsV hrsV xdV gW bd5
            go_wp2
            go_region
            all_goals
              go_wp2
              refine bodyPost_ret (v := .tuple #[.agg #[.int .i64 (un : Int), .slice py N cy, .slice pz m cz], .slice qr (SS (N + m)).length dr, .int .i64 0]) ?_ rfl ?_
              · simp only [results, Tryz.results29]
                go_simp
              · rw [← HN.out]
                exact ⟨fun _ => ⟨_, _, _, _, rfl, pf, rf, kf⟩, fun h => absurd he0 h, bf⟩
          · have he1 : (EE (N + m) == 0) = false := by simpa using he0
            have hon : Only w.heap.size wr (((wr.setCell ⟨w.heap.size, 0, none⟩ (.int .i64 0)).setCell ⟨w.heap.size, 1, none⟩ (.slice none 0 0)).setCell ⟨w.heap.size, 2, none⟩ (.slice none 0 0)) := (((Only.refl _ wr).setCell 0 _).setCell 1 _).setCell 2 _
            have ce5 := cell_ony hon ce hgrw
            have bf : Below w.heap.size w (((wr.setCell ⟨w.heap.size, 0, none⟩ (.int .i64 0)).setCell ⟨w.heap.size, 1, none⟩ (.slice none 0 0)).setCell ⟨w.heap.size, 2, none⟩ (.slice none 0 0)).drew := (bwr.trans (hon.below (Nat.le_refl _))).drew
            clear hrsy hrs hbr tbr xdr gsr two twoV gsV hrsV xdV gW
            go_wp2
            go_region
            all_goals
              go_wp2
              refine bodyPost_ret (v := .tuple #[.agg #[.int .i64 0, .slice none 0 0, .slice none 0 0], .slice none 0 0, .int .i64 (EE (N + m))]) ?_ rfl ?_
              · simp only [results, Tryz.results29]
                go_simp
              · rw [← HN.out]
                exact ⟨fun h => absurd h he0, fun _ => rfl, bf⟩

end Go.Proofs.YtganajmhdpiipaaGreatDoor.Vf

namespace Go.Proofs.YtganajmhdpiipaaGreatDoor.Vf
open Go.RowKit

/-- A signature that is none. -/
def zSig : Value := .agg #[.int .i64 0, .slice none 0 0, .slice none 0 0]

set_option maxRecDepth 100000 in
set_option maxHeartbeats 400000 in
theorem mread_arg (size height : Int) (p : Option Addr) (m c : Nat) (w : World) (hb : mcanB size height = false) :
    Calls Tryz.prog 25 #[.int .i64 size, .int .i64 height, .slice p m c] w fun e w' => e = .returned (.tuple #[zSig, .slice none 0 0, .int .i64 1]) ∧ Below w.heap.size w w' := by
  have hC := fun w' => mcan_any size height w'
  rw [hb] at hC
  have bA := (Below.refl _ w).alloc (Nat.le_refl _) (.cells #[.int .i64 0, .slice none 0 0, .slice none 0 0] 27)
  have g1 := heap_alloc_new w (.cells #[.int .i64 0, .slice none 0 0, .slice none 0 0] 27)
  go_enter Tryz.func25, Tryz.ntmps25
  go_wp2_with fail
  refine (hC _).mono ?_
  rintro e w1 ⟨rfl, hw⟩
  rw [← hw] at bA g1
  clear hw hC
  have x0 : w1.cell? ⟨w.heap.size, 0, none⟩ = some (.int .i64 0) := by rw [cell_of_row _ _ 0 _ _ _ g1]; rfl
  have x1 : w1.cell? ⟨w.heap.size, 1, none⟩ = some (.slice none 0 0) := by rw [cell_of_row _ _ 1 _ _ _ g1]; rfl
  have x2 : w1.cell? ⟨w.heap.size, 2, none⟩ = some (.slice none 0 0) := by rw [cell_of_row _ _ 2 _ _ _ g1]; rfl
  have y0 : w1.frozen? ⟨w.heap.size, 0, none⟩ = false := by simp [World.frozen?, g1]
  have y1 : w1.frozen? ⟨w.heap.size, 1, none⟩ = false := by simp [World.frozen?, g1]
  have y2 : w1.frozen? ⟨w.heap.size, 2, none⟩ = false := by simp [World.frozen?, g1]
  have hon : Only w.heap.size w1 (((w1.setCell ⟨w.heap.size, 0, none⟩ (.int .i64 0)).setCell ⟨w.heap.size, 1, none⟩ (.slice none 0 0)).setCell ⟨w.heap.size, 2, none⟩ (.slice none 0 0)) := (((Only.refl _ w1).setCell 0 _).setCell 1 _).setCell 2 _
  have bf := bA.trans (hon.below (Nat.le_refl _))
  go_wp2
  refine bodyPost_ret (v := .tuple #[zSig, .slice none 0 0, .int .i64 1]) ?_ rfl ?_
  · simp only [results, Tryz.results25]
    go_simp
    rfl
  · exact ⟨rfl, bf⟩

set_option maxRecDepth 100000 in
set_option maxHeartbeats 1000000 in
theorem rmread_arg (size height : Int) (p : Option Addr) (m c : Nat) (w : World) (hb : mcanB size height = false) :
    Calls Tryz.prog 29 #[.int .i64 size, .int .i64 height, .slice p m c] w fun e w' => e = .returned (.tuple #[zSig, .slice none 0 0, .int .i64 1]) ∧ Below w.heap.size w w' := by
  have hc : size < 1 ∨ (1 ≤ size ∧ 32 < size) ∨ (1 ≤ size ∧ size ≤ 32 ∧ height < 0) ∨ (1 ≤ size ∧ size ≤ 32 ∧ 0 ≤ height ∧ 8 < height) := by
    simp [mcanB] at hb
    omega
  clear hb
  have bA := (Below.refl _ w).alloc (Nat.le_refl _) (.cells #[.int .i64 0, .slice none 0 0, .slice none 0 0] 27)
  have g1 := heap_alloc_new w (.cells #[.int .i64 0, .slice none 0 0, .slice none 0 0] 27)
  go_enter Tryz.func29, Tryz.ntmps29
  rcases hc with h1 | ⟨h1, h2⟩ | ⟨h1, h2, h3⟩ | ⟨h1, h2, h3, h4⟩
  all_goals
    go_wp2
    refine bodyPost_ret (v := .tuple #[zSig, .slice none 0 0, .int .i64 1]) ?_ rfl ?_
    · simp only [results, Tryz.results29]
      go_simp
      rfl
    · exact ⟨rfl, bA⟩

theorem rows_flat (n : Nat) (R : List UInt8) (k : Nat) (hk : k * n ≤ R.length) : ((List.range k).map (rowB n R)).flatten ++ R.drop (k * n) = R := by
  induction k with
  | zero => simp
  | succ k ih =>
    have h2 : k * n + n ≤ R.length := by rw [Nat.succ_mul] at hk; exact hk
    have hi := ih (by omega)
    rw [List.range_succ, List.map_append, List.flatten_append, List.append_assoc]
    have e : ([k].map (rowB n R)).flatten ++ R.drop ((k + 1) * n) = R.drop (k * n) := by
      simp only [List.map_cons, List.map_nil, List.flatten_cons, List.flatten_nil, List.append_nil, rowB]
      rw [← rowB_next, List.take_append_drop]
    rw [e]
    exact hi

theorem uintF_none (l : List UInt8) (most : Int) (h : (uintF l most).1 ≠ 0) : (uintF l most).2.2 = [] := by
  cases l with
  | nil => rfl
  | cons c r =>
    simp only [uintF] at h ⊢
    by_cases h1 : 8 < c.toNat
    · rw [if_pos h1]
    by_cases h2 : r.length < c.toNat
    · rw [if_neg h1, if_pos h2]
    by_cases h3 : (r.take c.toNat).head? = some 0
    · rw [if_neg h1, if_neg h2, if_pos h3]
    by_cases h4 : 4611686018427387904 < valL (r.take c.toNat)
    · rw [if_neg h1, if_neg h2, if_neg h3, if_pos h4]
    by_cases h5 : most < (valL (r.take c.toNat) : Int)
    · rw [if_neg h1, if_neg h2, if_neg h3, if_neg h4, if_pos h5]
    rw [if_neg h1, if_neg h2, if_neg h3, if_neg h4, if_neg h5] at h
    exact absurd rfl h

/-- The row that the document takes is the row of those bytes. -/
theorem tk_row (n : Nat) (r : List UInt8) (j : Nat) (hj : (j + 1) * n ≤ r.length) : tkO n (tkS n r 0 j).2.1 (tkS n r 0 j).2.2 = rowB n r j := by
  have h2 : j * n + n ≤ r.length := by rw [Nat.succ_mul] at hj; exact hj
  rw [tkS_ok n r j (by omega)]
  unfold tkO rowB
  rw [if_pos]
  refine ⟨rfl, ?_⟩
  simp only [List.length_drop]
  omega

/-- Both Reads, told by plain words. -/
theorem reads_both (size height : Int) (b : List UInt8) (hsz : b.length ≤ 140737488355000) :
    (∃ er : Int, er ≠ 0 ∧ (∀ v w, HB w v b → Calls Tryz.prog 25 #[.int .i64 size, .int .i64 height, v] w fun e w' => e = .returned (.tuple #[zSig, .slice none 0 0, .int .i64 er]) ∧ Below w.heap.size w w') ∧ (∀ v w, HB w v b → Calls Tryz.prog 29 #[.int .i64 size, .int .i64 height, v] w fun e w' => e = .returned (.tuple #[zSig, .slice none 0 0, .int .i64 er]) ∧ Below w.heap.size w w')) ∨
    (∃ (idx : Int) (ls ps : List (List UInt8)) (R : List UInt8), (wrF [] idx ls ps ++ R = b ∧ (∀ l ∈ ls, 0 < l.length) ∧ ∀ l ∈ ps, 0 < l.length) ∧ (∀ v w, HB w v b → Calls Tryz.prog 25 #[.int .i64 size, .int .i64 height, v] w fun e w' => ∃ x y p c, e = .returned (.tuple #[.agg #[.int .i64 idx, x, y], .slice p R.length c, .int .i64 0]) ∧ PA w' x ls ∧ PA w' y ps ∧ HB w' (.slice p R.length c) R ∧ Below w.heap.size w w') ∧ (∀ v w, HB w v b → Calls Tryz.prog 29 #[.int .i64 size, .int .i64 height, v] w fun e w' => ∃ x y p c, e = .returned (.tuple #[.agg #[.int .i64 idx, x, y], .slice p R.length c, .int .i64 0]) ∧ PA w' x ls ∧ PA w' y ps ∧ HB w' (.slice p R.length c) R ∧ Below w.heap.size w w')) := by
  cases hcan : mcanB size height with
  | false =>
    refine Or.inl ⟨1, by decide, fun v w hv => ?_, fun v w hv => ?_⟩
    · obtain ⟨p, c, rfl⟩ := hv.shape
      exact mread_arg size height p _ c w hcan
    · obtain ⟨p, c, rfl⟩ := hv.shape
      exact rmread_arg size height p _ c w hcan
  | true =>
    simp [mcanB] at hcan
    obtain ⟨n, rfl⟩ : ∃ n : Nat, size = (n : Int) := ⟨size.toNat, by omega⟩
    obtain ⟨h, rfl⟩ : ∃ h : Nat, height = (h : Int) := ⟨height.toNat, by omega⟩
    have hn : 1 ≤ n := by omega
    have hn2 : n ≤ 32 := by omega
    have hh : h ≤ 8 := by omega
    clear hcan
    obtain ⟨M, hM⟩ : ∃ M, wrap64 (wrap64 ((2 : Int) ^ h) - 1) = M := ⟨_, rfl⟩
    obtain ⟨ue, un, r, hU⟩ : ∃ ue un r, uintF b M = (ue, un, r) := ⟨_, _, _, rfl⟩
    have herr : ue ≠ 0 → r = [] := fun h0 => by
      have := uintF_none b M (by rw [hU]; exact h0)
      rw [hU] at this
      exact this
    have hback : ue = 0 → b = numL un ++ r ∧ un ≤ 4611686018427387904 := fun h0 => by
      have := uintF_back b M (by rw [hU]; exact h0)
      rw [hU] at this
      exact ⟨this.1, this.2.1⟩
    have hR : ue = 0 → r.length ≤ b.length ∧ r = b.drop (b.length - r.length) := fun h0 => by
      have hb := (hback h0).1
      have hl : b.length = (numL un).length + r.length := by rw [hb, List.length_append]
      refine ⟨by omega, ?_⟩
      rw [show b.length - r.length = (numL un).length by omega, hb, List.drop_left]
    have hrl : r.length ≤ 140737488355000 := by
      by_cases h0 : ue = 0
      · have := (hR h0).1
        omega
      · rw [herr h0]; simp
    have hTk : ∀ (j g : Nat) (w : World), XR w g ((fun j => (tkS n r ue j).2.1) j) ((fun j => (tkS n r ue j).2.2) j) → Calls Tryz.prog 54 #[.pointer (some ⟨g, 0, none⟩), .int .i64 (n : Int)] w fun x w' => ∃ p c, x = .returned (.slice p ((fun j => tkO n (tkS n r ue j).2.1 (tkS n r ue j).2.2) j).length c) ∧ HBN w' g (.slice p ((fun j => tkO n (tkS n r ue j).2.1 (tkS n r ue j).2.2) j).length c) ((fun j => tkO n (tkS n r ue j).2.1 (tkS n r ue j).2.2) j) ∧ XR w' g ((fun j => (tkS n r ue j).2.1) (j + 1)) ((fun j => (tkS n r ue j).2.2) (j + 1)) ∧ Only g w w' ∧ TB w' (.slice p ((fun j => tkO n (tkS n r ue j).2.1 (tkS n r ue j).2.2) j).length c) := by
      intro j g w hx
      exact xtake_all g _ _ n w hx (tkS_err n r ue herr j) (by have := tkS_short n r ue j; omega)
    have hA := fun v w hv => mread_any n h v b M ue un r w hM hU (r.drop ((4 * n + 5) * n)) ((r.drop ((4 * n + 5) * n)).drop (h * n)) rfl rfl hR hv hsz hn hn2 hh
    have hB := fun v w hv => rmread_any n h v b M ue un r w hM hU hv hsz hn hn2 hh (fun j => (tkS n r ue j).2.1) (fun j => tkO n (tkS n r ue j).2.1 (tkS n r ue j).2.2) (fun j => (tkS n r ue j).2.2) rfl rfl hTk
    by_cases h0 : ue = 0
    · subst h0
      obtain ⟨hb1, hb2⟩ := hback rfl
      by_cases hs : r.length < (4 * n + 5 + h) * n
      · refine Or.inl ⟨3, by decide, fun v w hv => ?_, fun v w hv => ?_⟩
        · exact (hA v w hv).mono fun e w' ⟨_, h2, _, h4⟩ => ⟨h2 rfl hs, h4⟩
        · have e3 : (tkS n r 0 (4 * n + 5 + h)).2.2 = 3 := tkS_few n r _ hs
          refine (hB v w hv).mono fun e w' ⟨_, h2, h4⟩ => ⟨?_, h4⟩
          have := h2 (by simp only [e3]; decide)
          simp only [e3] at this
          exact this
      · have hlong : (4 * n + 5) * n + h * n ≤ r.length := by rw [← Nat.add_mul]; omega
        have hok := tkS_ok n r (4 * n + 5 + h) (by omega)
        have e1 : (tkS n r 0 (4 * n + 5 + h)).2.2 = 0 := by rw [hok]
        have e2 : (tkS n r 0 (4 * n + 5 + h)).2.1 = (r.drop ((4 * n + 5) * n)).drop (h * n) := by rw [hok, List.drop_drop, ← Nat.add_mul]
        have e3 : (List.range (4 * n + 5)).map (fun j => tkO n (tkS n r 0 j).2.1 (tkS n r 0 j).2.2) = (List.range (4 * n + 5)).map (rowB n r) := by
          refine List.map_congr_left fun j hj => ?_
          have hj2 := List.mem_range.1 hj
          exact tk_row n r j (by have := Nat.mul_le_mul_right n (show j + 1 ≤ 4 * n + 5 by omega); omega)
        have e4 : (List.range h).map (fun j => tkO n (tkS n r 0 (4 * n + 5 + j)).2.1 (tkS n r 0 (4 * n + 5 + j)).2.2) = (List.range h).map (rowB n (r.drop ((4 * n + 5) * n))) := by
          refine List.map_congr_left fun j hj => ?_
          have hj2 := List.mem_range.1 hj
          rw [tk_row n r (4 * n + 5 + j) (by have := Nat.mul_le_mul_right n (show 4 * n + 5 + j + 1 ≤ 4 * n + 5 + h by omega); omega)]
          unfold rowB
          rw [List.drop_drop, ← Nat.add_mul]
        refine Or.inr ⟨(un : Int), (List.range (4 * n + 5)).map (rowB n r), (List.range h).map (rowB n (r.drop ((4 * n + 5) * n))), (r.drop ((4 * n + 5) * n)).drop (h * n), ?_, fun v w hv => ?_, fun v w hv => ?_⟩
        · refine ⟨?_, fun l hl => ?_, fun l hl => ?_⟩
          · have hc : clampN (un : Int) = un := by unfold clampN; omega
            unfold wrF
            rw [hc, List.nil_append, List.append_assoc, List.append_assoc, rows_flat n _ h (by rw [List.length_drop]; omega), rows_flat n r _ (by omega), ← hb1]
          · obtain ⟨j, hj, rfl⟩ := List.mem_map.1 hl
            have hj2 := List.mem_range.1 hj
            have hm := Nat.mul_le_mul_right n (show j + 1 ≤ 4 * n + 5 by omega)
            rw [Nat.succ_mul] at hm
            unfold rowB
            rw [List.length_take, List.length_drop]
            omega
          · obtain ⟨j, hj, rfl⟩ := List.mem_map.1 hl
            have hj2 := List.mem_range.1 hj
            have hm := Nat.mul_le_mul_right n (show j + 1 ≤ h by omega)
            rw [Nat.succ_mul] at hm
            unfold rowB
            rw [List.length_take, List.length_drop, List.length_drop]
            omega
        · exact (hA v w hv).mono fun e w' ⟨_, _, h3, h4⟩ => by
            obtain ⟨x, y, p, c, q1, q2, q3, q4⟩ := h3 rfl hs
            exact ⟨x, y, p, c, q1, q2.pa, q3.pa, q4, h4⟩
        · refine (hB v w hv).mono fun e w' ⟨h1, _, h4⟩ => ?_
          obtain ⟨x, y, p, c, q1, q2, q3, q4⟩ := h1 e1
          have q2' := q2.pa
          have q3' := q3.pa
          rw [e3] at q2'
          rw [e4] at q3'
          simp only [e2] at q1 q4
          exact ⟨x, y, p, c, q1, q2', q3', q4, h4⟩
    · refine Or.inl ⟨ue, h0, fun v w hv => ?_, fun v w hv => ?_⟩
      · exact (hA v w hv).mono fun e w' ⟨h1, _, _, h4⟩ => ⟨h1 h0, h4⟩
      · have e3 : (tkS n r ue (4 * n + 5 + h)).2.2 = ue := tkS_bad n r ue h0 _
        refine (hB v w hv).mono fun e w' ⟨_, h2, h4⟩ => ⟨?_, h4⟩
        have := h2 (by simp only [e3]; exact h0)
        simp only [e3] at this
        exact this

end Go.Proofs.YtganajmhdpiipaaGreatDoor.Vf

namespace Go.Proofs.YtganajmhdpiipaaGreatDoor.Vf
open Go.RowKit

/-- Both Reads, an error or none. -/
theorem reads_two (size height : Int) (b : List UInt8) (hsz : b.length ≤ 140737488355000) :
    ∃ (er ix : Int) (ls ps : List (List UInt8)) (R : List UInt8), (er = 0 → (∀ l ∈ ls, 0 < l.length) ∧ ∀ l ∈ ps, 0 < l.length) ∧
      (∀ v w, HB w v b → Calls Tryz.prog 25 #[.int .i64 size, .int .i64 height, v] w fun e w' => ∃ p1 c1 p2 c2 p c, e = .returned (.tuple #[.agg #[.int .i64 ix, .slice p1 ls.length c1, .slice p2 ps.length c2], .slice p R.length c, .int .i64 er]) ∧ PA w' (.slice p1 ls.length c1) ls ∧ PA w' (.slice p2 ps.length c2) ps ∧ HB w' (.slice p R.length c) R ∧ Below w.heap.size w w') ∧
      (∀ v w, HB w v b → Calls Tryz.prog 29 #[.int .i64 size, .int .i64 height, v] w fun e w' => ∃ p1 c1 p2 c2 p c, e = .returned (.tuple #[.agg #[.int .i64 ix, .slice p1 ls.length c1, .slice p2 ps.length c2], .slice p R.length c, .int .i64 er]) ∧ PA w' (.slice p1 ls.length c1) ls ∧ PA w' (.slice p2 ps.length c2) ps ∧ HB w' (.slice p R.length c) R ∧ Below w.heap.size w w') := by
  rcases reads_both size height b hsz with ⟨er, her, hA, hB⟩ | ⟨ix, Ls, Ps, R, hwr, hA, hB⟩
  · refine ⟨er, 0, [], [], [], fun h => absurd h her, fun v w hv => ?_, fun v w hv => ?_⟩
    · exact (hA v w hv).mono fun e w' ⟨h1, h2⟩ => ⟨none, 0, none, 0, none, 0, h1, PA.nil _, PA.nil _, HB.nil _, h2⟩
    · exact (hB v w hv).mono fun e w' ⟨h1, h2⟩ => ⟨none, 0, none, 0, none, 0, h1, PA.nil _, PA.nil _, HB.nil _, h2⟩
  · refine ⟨0, ix, Ls, Ps, R, fun _ => hwr.2, fun v w hv => ?_, fun v w hv => ?_⟩
    · refine (hA v w hv).mono fun e w' ⟨x, y, p, c, h1, h2, h3, h4, h5⟩ => ?_
      obtain ⟨p1, c1, rfl⟩ := h2.shape
      obtain ⟨p2, c2, rfl⟩ := h3.shape
      exact ⟨p1, c1, p2, c2, p, c, h1, h2, h3, h4, h5⟩
    · refine (hB v w hv).mono fun e w' ⟨x, y, p, c, h1, h2, h3, h4, h5⟩ => ?_
      obtain ⟨p1, c1, rfl⟩ := h2.shape
      obtain ⟨p2, c2, rfl⟩ := h3.shape
      exact ⟨p1, c1, p2, c2, p, c, h1, h2, h3, h4, h5⟩

end Go.Proofs.YtganajmhdpiipaaGreatDoor.Vf

namespace Go.Proofs.YtganajmhdpiipaaGreatDoor
open Go.RowKit

theorem bytesF_none (l : List UInt8) (most : Int) (h : (bytesF l most).1 ≠ 0) : (bytesF l most).2.1 = [] := by
  unfold bytesF at h ⊢
  simp only at h ⊢
  split
  · rfl
  · rename_i h1
    rw [if_neg h1] at h
    split
    · rfl
    · rename_i h2
      rw [if_neg h2] at h
      exact absurd rfl h

theorem encL_short {size : Int} {r : Rc} (h : canB size r = true) : (encL r).length ≤ 4096 ∧ r.tr.length ≤ (encL r).length ∧ 1 ≤ r.tr.length := by
  obtain ⟨q1, q2, q3, q4, q5, q6, q7, q8, q9, q10, q11, q12⟩ := (canB_iff size r).1 h
  have a1 := numL_le r.e
  have a2 := numL_le r.t
  have a3 := numL_le r.c
  have a4 := bytesL_len r.tr (by omega)
  have a5 := bytesL_len r.li (by omega)
  have a6 := putL_len r.lk (sized_le q12 q2)
  have a7 := linksL_len r.e.toNat (by omega)
  have a8 : r.tr.length ≤ (bytesL r.tr).length := by
    unfold bytesL
    rw [List.length_append]
    omega
  unfold encL
  simp only [List.length_append]
  omega

theorem rdB_most (b EL SG : List UInt8) (most most2 : Int) (h : rdB b 0 most = (0, EL, SG)) (hb : b.length ≤ 4611686018427387904) (hm : (EL.length : Int) ≤ most2) : rdB b 0 most2 = (0, EL, SG) := by
  have h1 := (rdB_zero (l := b) (e := 0) (most := most) (by rw [h])).2
  rw [h] at h1
  simp only at h1
  have hl : EL.length ≤ b.length := by
    rw [h1]
    unfold bytesL
    simp only [List.length_append]
    omega
  rw [h1]
  exact rdB_put EL SG most2 (by omega) hm

theorem rdB_lens (b EL SG : List UInt8) (most : Int) (h : rdB b 0 most = (0, EL, SG)) : EL.length ≤ b.length ∧ SG.length ≤ b.length ∧ SG = b.drop (b.length - SG.length) := by
  have h1 := (rdB_zero (l := b) (e := 0) (most := most) (by rw [h])).2
  rw [h] at h1
  simp only at h1
  have hl : b.length = (bytesL EL).length + SG.length := by rw [h1, List.length_append]
  have hl2 : EL.length ≤ (bytesL EL).length := by
    unfold bytesL
    rw [List.length_append]
    omega
  refine ⟨by omega, by omega, ?_⟩
  rw [show b.length - SG.length = (bytesL EL).length by omega, h1, List.drop_left]

/-- What both answer. -/
def OpTold (E : Int) (r : Rc) (ix : Int) (ls ps : List (List UInt8)) (w : World) (x : Ending) (w' : World) : Prop :=
  ∃ p1 q1 p2 q2 p3 q3 p4 q4 p5 q5, x = .returned (.tuple #[.agg #[.int .i64 r.e, .int .i64 r.t, .slice p1 r.tr.length q1, .int .i64 r.c, .slice p2 r.li.length q2, .slice p3 r.lk.length q3, .int .i64 ix, .slice p4 ls.length q4, .slice p5 ps.length q5], .int .i64 E]) ∧ HB w' (.slice p1 r.tr.length q1) r.tr ∧ HB w' (.slice p2 r.li.length q2) r.li ∧ PA w' (.slice p3 r.lk.length q3) r.lk ∧ PA w' (.slice p4 ls.length q4) ls ∧ PA w' (.slice p5 ps.length q5) ps ∧ Below w.heap.size w w'

theorem opTold_bad {w w' : World} {x : Ending} (h : x = .returned (.tuple #[.agg #[.int .i64 0, .int .i64 0, .slice none 0 0, .int .i64 0, .slice none 0 0, .slice none 0 0, .int .i64 0, .slice none 0 0, .slice none 0 0], .int .i64 5]) ∧ Below w.heap.size w w') : OpTold 5 ⟨0, 0, 0, [], [], []⟩ 0 [] [] w x w' :=
  ⟨none, 0, none, 0, none, 0, none, 0, none, 0, h.1, HB.nil _, HB.nil _, PA.nil _, PA.nil _, PA.nil _, h.2⟩

theorem opTold_good {r : Rc} {ix : Int} {ls ps : List (List UInt8)} {w w' : World} {x : Ending} (h : ∃ tv lv kv cv pv, x = .returned (.tuple #[.agg #[.int .i64 r.e, .int .i64 r.t, tv, .int .i64 r.c, lv, kv, .int .i64 ix, cv, pv], .int .i64 0]) ∧ HB w' tv r.tr ∧ HB w' lv r.li ∧ PA w' kv r.lk ∧ PA w' cv ls ∧ PA w' pv ps ∧ Below w.heap.size w w') : OpTold 0 r ix ls ps w x w' := by
  obtain ⟨tv, lv, kv, cv, pv, rfl, h1, h2, h3, h4, h5, h6⟩ := h
  obtain ⟨p1, q1, rfl⟩ := h1.shape
  obtain ⟨p2, q2, rfl⟩ := h2.shape
  obtain ⟨p3, q3, rfl⟩ := h3.shape
  obtain ⟨p4, q4, rfl⟩ := h4.shape
  obtain ⟨p5, q5, rfl⟩ := h5.shape
  exact ⟨p1, q1, p2, q2, p3, q3, p4, q4, p5, q5, rfl, h1, h2, h3, h4, h5, h6⟩

theorem links_pos {size : Int} {r : Rc} (h : canB size r = true) : ∀ l ∈ r.lk, 0 < l.length := by
  obtain ⟨q1, q2, q3, q4, q5, q6, q7, q8, q9, q10, q11, q12⟩ := (canB_iff size r).1 h
  intro l hl
  have := sized_all q12 l hl
  omega

/-- Both Opens answer alike. -/
theorem opens_two (size height : Int) (b : List UInt8) (hsz : b.length ≤ 140737488354000) :
    ∃ (E : Int) (r : Rc) (ix : Int) (ls ps : List (List UInt8)), (∀ v w, HB w v b → TD w → Calls Tryz.prog 6 #[.int .i64 size, .int .i64 height, v] w (OpTold E r ix ls ps w)) ∧
      (∀ v w, HB w v b → Calls Tryz.prog 7 #[.int .i64 size, .int .i64 height, v] w (OpTold E r ix ls ps w)) := by
  obtain ⟨e2, EL, SG, h2⟩ : ∃ e2 EL SG, rdB b 0 4096 = (e2, EL, SG) := ⟨_, _, _, rfl⟩
  by_cases he2 : e2 = 0
  · subst he2
    obtain ⟨l1, l2, l3⟩ := rdB_lens b EL SG 4096 h2
    have h1 := rdB_most b EL SG 4096 (b.length : Int) h2 (by omega) (by omega)
    cases hok : dcOk size EL with
    | false =>
      obtain ⟨er, ix, ls, ps, R, _, _, hB⟩ := Vf.reads_two size height SG (by omega)
      refine ⟨5, ⟨0, 0, 0, [], [], []⟩, 0, [], [], fun v w hv hTD => ?_, fun v w hv => ?_⟩
      · exact (open_dec size height v b EL SG 0 w hv hTD hsz h1 l1 hok).mono fun x w' h => opTold_bad h
      · refine (ropen_bad0 size height v b EL SG ⟨0, 0, 0, [], [], []⟩ 5 w hv hsz h2 (fun v W hv' => ?_) er ix ls ps R hB (by decide)).mono fun x w' h => opTold_bad h
        refine (rdecode_as size v EL W hv' (by omega)).mono fun x w' h => ?_
        obtain ⟨a1, _, a3⟩ := h
        exact ⟨none, 0, none, 0, none, 0, a1 hok, HB.nil _, HB.nil _, PA.nil _, a3⟩
    | true =>
      obtain ⟨er, ix, ls, ps, R, hp, hA, hB⟩ := Vf.reads_two size height SG (by omega)
      obtain ⟨hcan, _⟩ := enc_dec size EL hok
      have hDe : ∀ v W, HB W v EL → Calls Tryz.prog 28 #[.int .i64 size, v] W fun x w' => ∃ p q p2 q2 p3 q3, x = .returned (.tuple #[.agg #[.int .i64 (dcR size EL).e, .int .i64 (dcR size EL).t, .slice p (dcR size EL).tr.length q, .int .i64 (dcR size EL).c, .slice p2 (dcR size EL).li.length q2, .slice p3 (dcR size EL).lk.length q3], .int .i64 0]) ∧ HB w' (.slice p (dcR size EL).tr.length q) (dcR size EL).tr ∧ HB w' (.slice p2 (dcR size EL).li.length q2) (dcR size EL).li ∧ PA w' (.slice p3 (dcR size EL).lk.length q3) (dcR size EL).lk ∧ Below W.heap.size W w' := by
        intro v W hv'
        refine (rdecode_as size v EL W hv' (by omega)).mono fun x w' h => ?_
        exact told_of h (fun h0 => by rw [hok] at h0; cases h0) (fun _ => rfl)
      by_cases her : er = 0
      · obtain ⟨hpl, hpp⟩ := hp her
        by_cases hR : R = []
        · refine ⟨0, dcR size EL, ix, ls, ps, fun v w hv hTD => ?_, fun v w hv => ?_⟩
          · exact (open_good size height v b EL SG (dcR size EL) w hv hTD hsz h1 l1 l2 l3 hok rfl er ix ls ps R hA her hR (links_pos hcan) hpl hpp).mono fun x w' h => opTold_good h
          · exact (ropen_good size height v b EL SG (dcR size EL) 0 w hv hsz h2 hDe er ix ls ps R hB rfl her hR (links_pos hcan) hpl hpp).mono fun x w' h => opTold_good h
        · have hRp : 0 < R.length := List.length_pos_iff.2 hR
          refine ⟨5, ⟨0, 0, 0, [], [], []⟩, 0, [], [], fun v w hv hTD => ?_, fun v w hv => ?_⟩
          · exact (open_bad2 size height v b EL SG (dcR size EL) w hv hTD hsz h1 l1 l2 l3 hok rfl er ix ls ps R hA her hRp).mono fun x w' h => opTold_bad h
          · exact (ropen_bad2 size height v b EL SG (dcR size EL) 0 w hv hsz h2 hDe er ix ls ps R hB rfl her hRp).mono fun x w' h => opTold_bad h
      · refine ⟨5, ⟨0, 0, 0, [], [], []⟩, 0, [], [], fun v w hv hTD => ?_, fun v w hv => ?_⟩
        · exact (open_bad1 size height v b EL SG (dcR size EL) w hv hTD hsz h1 l1 l2 l3 hok rfl er ix ls ps R hA her).mono fun x w' h => opTold_bad h
        · exact (ropen_bad1 size height v b EL SG (dcR size EL) 0 w hv hsz h2 hDe er ix ls ps R hB rfl her).mono fun x w' h => opTold_bad h
  · obtain ⟨e1, EL1, SG1, h1⟩ : ∃ e1 EL1 SG1, rdB b 0 (b.length : Int) = (e1, EL1, SG1) := ⟨_, _, _, rfl⟩
    have hE : e1 ≠ 0 → EL1 = [] := fun h => by
      have h3 := h1
      unfold rdB at h3
      rw [if_pos rfl] at h3
      have := bytesF_none b (b.length : Int) (by rw [h3]; exact h)
      rw [h3] at this
      exact this
    have hl1 : EL1.length ≤ b.length := by
      by_cases h0 : e1 = 0
      · subst h0
        exact (rdB_lens b EL1 SG1 _ h1).1
      · rw [hE h0]; simp
    have hok : dcOk size EL1 = false := by
      cases hk : dcOk size EL1 with
      | false => rfl
      | true =>
        obtain ⟨hcan, henc⟩ := enc_dec size EL1 hk
        obtain ⟨s1, s2, s3⟩ := encL_short hcan
        rw [henc] at s1 s2
        by_cases h0 : e1 = 0
        · subst h0
          have := rdB_most b EL1 SG1 (b.length : Int) 4096 h1 (by omega) (by omega)
          rw [h2] at this
          simp only [Prod.mk.injEq] at this
          exact absurd this.1 he2
        · have hl0 : EL1.length = 0 := by rw [hE h0]; rfl
          omega
    refine ⟨5, ⟨0, 0, 0, [], [], []⟩, 0, [], [], fun v w hv hTD => ?_, fun v w hv => ?_⟩
    · exact (open_dec size height v b EL1 SG1 e1 w hv hTD hsz h1 hl1 hok).mono fun x w' h => opTold_bad h
    · exact (ropen_err size height v b EL SG e2 w hv hsz h2 he2).mono fun x w' h => opTold_bad h

end Go.Proofs.YtganajmhdpiipaaGreatDoor
