/- What this text proves: the walk of the document's Read (annalsref06) over this program: a signature of bytes, or the error. -/
import Derived.Test.YtdjaemobfbbkoaaDoorJRMReadV
import Derived.Test.YtdjaemobfbbkoaaDoorJTX
namespace Go.Proofs.YtdjaemobfbbkoaaDoor
open Go.RowKit

theorem xuint_n (g : Nat) (l : List UInt8) (most : Int) (w : World) (h : XR w g l 0) (hsz : l.length ≤ 140737488355328) (ue : Int) (un : Nat) (r : List UInt8) (hU : uintF l most = (ue, un, r)) :
    Calls Tryd.prog 36 #[.pointer (some ⟨g, 0, none⟩), .int .i64 most] w fun x w' => x = .returned (.int .i64 (un : Int)) ∧ XR w' g r ue ∧ Only g w w' := by
  have k := xuint_any g l most w h hsz
  unfold XSaid at k
  rw [hU] at k
  exact k

theorem cf_take (args : Array Value) (w : World) : (callFunc 37 args).run Tryd.prog w = .ok (.enter 37 args) w := by
  unfold callFunc
  go_simp
  rw [if_neg (by decide +kernel), if_neg (by decide +kernel)]

set_option maxRecDepth 100000 in
set_option maxHeartbeats 4000000 in
theorem rmread_any (n h : Nat) (v : Value) (b : List UInt8) (M ue : Int) (un : Nat) (r : List UInt8) (w : World) (HM : Hid (wrap64 (wrap64 ((2 : Int) ^ h) - 1) = M)) (HU : Hid (uintF b M = (ue, un, r))) (hv : HB w v b) (hsz : b.length ≤ 140737488355000) (hn : 1 ≤ n) (hn2 : n ≤ 32) (hh : h ≤ 8) (SS sg : Nat → List UInt8) (EE : Nat → Int) (HS0 : Hid (SS 0 = r)) (HE0 : Hid (EE 0 = ue))
    (HT : Hid (∀ (j g : Nat) (w : World), XR w g (SS j) (EE j) → Calls Tryd.prog 37 #[.pointer (some ⟨g, 0, none⟩), .int .i64 (n : Int)] w fun x w' => ∃ p c, x = .returned (.slice p (sg j).length c) ∧ HBN w' g (.slice p (sg j).length c) (sg j) ∧ XR w' g (SS (j + 1)) (EE (j + 1)) ∧ Only g w w' ∧ TB w' (.slice p (sg j).length c))) :
    Calls Tryd.prog 17 #[.int .i64 (n : Int), .int .i64 (h : Int), v] w fun e w' => (EE (4 * n + 5 + h) = 0 → ∃ x y p c, e = .returned (.tuple #[.agg #[.int .i64 (un : Int), x, y], .slice p (SS (4 * n + 5 + h)).length c, .int .i64 0]) ∧ RS w' w.heap.size x (4 * n + 5) sg ∧ RS w' w.heap.size y h (fun j => sg (4 * n + 5 + j)) ∧ HB w' (.slice p (SS (4 * n + 5 + h)).length c) (SS (4 * n + 5 + h))) ∧ (EE (4 * n + 5 + h) ≠ 0 → e = .returned (.tuple #[.agg #[.int .i64 0, .slice none 0 0, .slice none 0 0], .slice none 0 0, .int .i64 (EE (4 * n + 5 + h))])) ∧ Below w.heap.size w w' := by
  obtain ⟨p, c, rfl⟩ := hv.shape
  have hn3 : ¬ (n : Int) < 1 := by omega
  have hn4 : ¬ (32 : Int) < (n : Int) := by omega
  have hh3 : ¬ (h : Int) < 0 := by omega
  have hh4 : ¬ (8 : Int) < (h : Int) := by omega
  have h256 : 2 ^ h ≤ 256 := by
    have : 2 ^ h ≤ 2 ^ 8 := Nat.pow_le_pow_right (by decide) hh
    omega
  have HW : Hid (wrap64 ((2 : Int) ^ h) = ((2 ^ h : Nat) : Int)) := pow_wrap h hh
  have bA := (Below.refl _ w).alloc (Nat.le_refl _) (.cells #[.int .i64 0, .slice none 0 0, .slice none 0 0] 30)
  have bB := bA.alloc (by simp) (.cells #[] 5)
  go_enter Tryd.func17, Tryd.ntmps17
  have g1 := heap_alloc_new w (.cells #[.int .i64 0, .slice none 0 0, .slice none 0 0] 30)
  have oA : ((w.alloc (.cells #[.int .i64 0, .slice none 0 0, .slice none 0 0] 30)).alloc (.cells #[] 5)).ownsRow (w.heap.size + 1) 5 1 (.slice (some ⟨w.heap.size + 1, 0, none⟩) 0 0) 0 [] := by
    have := owns_none (w.alloc (.cells #[.int .i64 0, .slice none 0 0, .slice none 0 0] 30)) 5
    simpa using this
  have hvB := hv.later bB
  have sB : w.heap.size + 1 ≤ ((w.alloc (.cells #[.int .i64 0, .slice none 0 0, .slice none 0 0] 30)).alloc (.cells #[] 5)).heap.size := by simp
  have bC : Below (w.heap.size + 1) (w.alloc (.cells #[.int .i64 0, .slice none 0 0, .slice none 0 0] 30)) ((w.alloc (.cells #[.int .i64 0, .slice none 0 0, .slice none 0 0] 30)).alloc (.cells #[] 5)) := (Below.refl _ _).alloc (by simp) _
  go_wp2_with (first | (at_builtin; refine wpList_append_hb rfl (.tmp 26) (.tmp 27) 22 rfl (w.heap.size + 1) 5 Tryd.underlying22 i_u8 _ _ _ rfl oA _ _ _ b rfl hvB ?aa ?ab ?_))
  case aa => omega
  intro v2 w2 o2' hg2
  have o2 : w2.ownsRow (w.heap.size + 1) 5 1 v2 b.length (bcs b) := by simpa using o2'
  have b12 : Below (w.heap.size + 1) (w.alloc (.cells #[.int .i64 0, .slice none 0 0, .slice none 0 0] 30)) w2 := bC.grown hg2 sB (fun k hk => by cases hk; exact Nat.le_refl _)
  have b02 : Below w.heap.size w w2 := bA.trans (b12.mono (by omega))
  have g2 : w2.heap[w.heap.size]? = some (.cells #[.int .i64 0, .slice none 0 0, .slice none 0 0] 30 (0, 0)) := (b12.block _ (by omega)).trans g1
  obtain ⟨p2, c2, rfl⟩ := owns_shape o2
  have h2 := HB.of_owns o2
  have t2 := TB.of_owns o2
  have hlt2 := o2.lt
  have x0 : XR (w2.alloc (.cells #[.slice p2 b.length c2, .int .i64 0] 86)) w2.heap.size b 0 := ⟨p2, c2, heap_alloc_new w2 _, ⟨h2.later ((Below.refl _ w2).alloc (Nat.le_refl _) _), fun a n c e => by have := (hlt2 a.block (by rw [e]; rfl)).2; omega⟩, t2.later ((Below.refl _ w2).alloc (Nat.le_refl _) _)⟩
  have b23 := (Below.refl _ w2).alloc (Nat.le_refl _) (.cells #[.slice p2 b.length c2, .int .i64 0] 86)
  have b03 := b02.trans (b23.mono b02.size)
  have g3 := (b23.block _ (Array.getElem?_eq_some_iff.1 g2).1).trans g2
  clear bA bB bC oA hvB sB g1 o2' hg2 o2 b12 hlt2 h2 t2 b23 hv
  go_wp2_with fail
  rw [HM.out]
  generalize wrap64 ((2 : Int) ^ h) = N0 at *
  refine (xuint_n w2.heap.size b M _ x0 (by omega) ue un r HU.out).mono ?_
  rintro e w4 ⟨rfl, x4, O4⟩
  obtain ⟨W3, hW3⟩ : ∃ W3, W3 = w2.alloc (.cells #[.slice p2 b.length c2, .int .i64 0] 86) := ⟨_, rfl⟩
  rw [← hW3] at g3 b03 O4
  have hg3 : w.heap.size < w2.heap.size := (Array.getElem?_eq_some_iff.1 g2).1
  have g4 : w4.heap[w.heap.size]? = some (.cells #[.int .i64 0, .slice none 0 0, .slice none 0 0] 30 (0, 0)) := (O4.block _ (by omega) (Array.getElem?_eq_some_iff.1 g3).1).trans g3
  have b04 : Below w.heap.size w w4 := b03.trans (O4.below (by omega))
  clear x0 g3 b03 hW3 O4 g2
  clear HW h256 hh3 hh4 hn3 hn4 HM HU
  rw [← HS0.out, ← HE0.out] at x4
  go_wp2_with fail
  obtain ⟨W, hW⟩ : ∃ W, W = w4.alloc (.cells #[.int .i64 (un : Int), .slice none 0 0, .slice none 0 0] 30) := ⟨_, rfl⟩
  have bW : Below w4.heap.size w4 W := by rw [hW]; exact (Below.refl _ w4).alloc (Nat.le_refl _) _
  have gsW : W.heap[w4.heap.size]? = some (.cells #[.int .i64 (un : Int), .slice none 0 0, .slice none 0 0] 30 (0, 0)) := by rw [hW]; exact heap_alloc_new w4 _
  have xW := x4.later bW
  have s04 := b04.size
  have gW : W.heap[w.heap.size]? = some (.cells #[.int .i64 0, .slice none 0 0, .slice none 0 0] 30 (0, 0)) := (bW.block _ (Array.getElem?_eq_some_iff.1 g4).1).trans g4
  have b0W : Below w.heap.size w W := b04.trans (bW.mono s04)
  have hgr4 : w2.heap.size < w4.heap.size := by obtain ⟨_, _, hd, _⟩ := x4; exact hd.lt
  have hgsl : w4.heap.size < W.heap.size := (Array.getElem?_eq_some_iff.1 gsW).1
  rw [← hW]
  clear hW x4 g4 bW
  generalize hgs : w4.heap.size = gs at *
  generalize hgr : w2.heap.size = gr at *
  clear hgs hgr
  obtain ⟨i0, hi9, hz0, hz1, hz2⟩ := info_parts i_bytes
  obtain ⟨N, hN⟩ : ∃ N, N = 4 * n + 5 := ⟨_, rfl⟩
  go_loopw [40] (fun v wr => ∃ (m : Nat) (y : Value), m ≤ 4 * n + 5 ∧ v = .int .i64 m ∧ wr.heap[gs]? = some (.cells #[.int .i64 (un : Int), y, .slice none 0 0] 30 (0, 0)) ∧ RS wr W.heap.size y m sg ∧ XR wr gr (SS m) (EE m) ∧ Two gs gr W wr) (fun v _ => 4 * n + 5 - (intOf v).toNat)
  case atStart => exact ⟨0, _, Nat.zero_le _, rfl, gsW, ⟨[], World.ownsRow_nil _ _ _ _, fun j u hu => by simp at hu⟩, xW, Two.refl _ _ _⟩
  case round =>
    obtain ⟨m, y, hm, rfl, gsr, hrs, xr, two⟩ := hrel
    have s3r := two.size
    by_cases hlt : m < 4 * n + 5
    · have hlt2 : (m : Int) < 4 * (n : Int) + 5 := by omega
      have c1 : wr.cell? ⟨gs, 1, none⟩ = some y := by rw [cell_of_row _ _ 1 _ _ _ gsr]; rfl
      have bD : Below wr.heap.size wr wr.drew := (Below.refl _ wr).drew
      have c1d := cell_later bD c1
      have hTk := HT.out m gr _ (xr.later bD)
      have hrd := hrs.later bD
      have gsd : wr.drew.heap[gs]? = some (.cells #[.int .i64 (un : Int), y, .slice none 0 0] 30 (0, 0)) := (bD.block _ (by omega)).trans gsr
      have twod := two.later bD (by omega)
      obtain ⟨pl, cpl, rfl⟩ := owns_shape hrs.choose_spec.1
      obtain ⟨qx, dx, xd, _⟩ := xr.later bD
      have hgrW : gr < W.heap.size := by omega
      have hne : gr ≠ gs := by omega
      have sD : wr.heap.size = wr.drew.heap.size := by simp
      have hTk2 : Calls Tryd.prog 37 #[.pointer (some ⟨gr, 0, none⟩), .int .i64 (n : Int)] wr.drew fun x w' => ∃ v, x = .returned v ∧ ∃ p c, v = .slice p (sg m).length c ∧ HBN w' gr (.slice p (sg m).length c) (sg m) ∧ XR w' gr (SS (m + 1)) (EE (m + 1)) ∧ Only gr wr.drew w' ∧ TB w' (.slice p (sg m).length c) := hTk.mono fun x w' ⟨p, c, h1, h2⟩ => ⟨_, h1, p, c, rfl, h2⟩
      clear hrs xr gsr two bD hTk
      go_wp2
      go_region_law (first
        | (refine step_calls2 (by rfl) 37 _ _ _ _ (by rfl) _ _ (by rfl) (by rfl) (cf_take _ _) _ hTk2 ?_; rintro e w5 ⟨p5, c5, rfl, hx5, xr5, O5, t5⟩; obtain ⟨vs, r1, r2⟩ := hrd.box xd (by decide) O5 hgrW; have gs5 : w5.heap[gs]? = some (.cells #[.int .i64 (un : Int), .slice pl m cpl, .slice none 0 0] 30 (0, 0)) := (O5.block gs (by omega) (by omega)).trans gsd; have two5 := twod.only O5; have e1 : w5.cell? ⟨gs, 1, none⟩ = some (.slice pl m cpl) := (by rw [cell_of_row _ _ 1 _ _ _ gs5]; rfl); have bB := (Below.refl _ w5).alloc (Nat.le_refl _) (.cells #[.slice p5 (sg m).length c5] 22); have e2 := cell_later bB e1; have s5 := two5.size)
        | (refine step_append_lies _ (by rfl) _ _ _ (by rfl) W.heap.size 22 i0 _ 1 24 Tryd.underlying28 hi9 hz0 hz1 hz2 rfl (by omega) _ m vs (by rfl) (owns_later r1 bB) ⟨w5.heap.size, 0, none⟩ 1 1 [.slice p5 (sg m).length c5] (by rfl) (by rfl) (World.news_of_block (cs := #[.slice p5 (sg m).length c5]) (t := 22) (fr := (0, 0)) (heap_alloc_new w5 _)) (by simp [Value.oneCell']) (by omega) (by unfold maxLen; omega) (by omega) (by simp; omega) (w5.heap.size + 1) (by simp) ?_; intro g7 cap7 w7 hown7 hgrow7 hat hlt7; obtain ⟨gs7, xr8, rs8, two8⟩ := take_put (i := 1) two5 gs5 hne hgsl hgrW xr5 r1 r2 hx5.1 t5 hgrow7 hown7; have x7 : w7.cell? ⟨gs, 1, none⟩ = some (.slice pl m cpl) := (by rw [cell_of_row _ _ 1 _ _ _ gs7]; rfl); have z7 : w7.frozen? ⟨gs, 1, none⟩ = false := (by simp [World.frozen?, gs7])))
      all_goals
        have gs8 : (w7.setCell ⟨gs, 1, none⟩ (.slice (some ⟨g7, 0, none⟩) (m + 1) cap7)).heap[gs]? = some (.cells #[.int .i64 (un : Int), .slice (some ⟨g7, 0, none⟩) (m + 1) cap7, .slice none 0 0] 30 (0, 0)) := by
          rw [heap_setCell_same w7 gs 1 _ _ _ gs7]; rfl
        clear r1 r2 hgrow7 hown7 hat hlt7 gs7 e1 e2 bB gs5 two5 xr5 O5 t5 hx5 gsd twod xd hrd c1 c1d hTk2 x7 z7
        go_wp2
        go_roundw
        case rel => exact ⟨m + 1, _, by omega, by go_num, gs8, rs8, xr8, two8⟩
        case measure => simp [intOf]; omega
    · obtain rfl : m = 4 * n + 5 := by omega
      clear hlt hm xW gsW
      clear hN N
      obtain ⟨py, cy, rfl⟩ := owns_shape hrs.choose_spec.1
      obtain ⟨N, hN⟩ : ∃ N, N = 4 * n + 5 := ⟨_, rfl⟩
      have HN : Hid (N = 4 * n + 5) := hN
      rw [← hN] at gsr hrs xr ⊢
      have hnlt : ¬ (N : Int) < 4 * (n : Int) + 5 := by omega
      have hN200 : N ≤ 200 := by omega
      clear hN
      have hgsr : gs < wr.heap.size := by omega
      go_wp2
      generalize hVe : wr = V at *
      clear hVe
      go_loopw [52] (fun v wr => ∃ (m : Nat) (z : Value), m ≤ h ∧ v = .int .i64 m ∧ wr.heap[gs]? = some (.cells #[.int .i64 (un : Int), .slice py N cy, z] 30 (0, 0)) ∧ RS wr V.heap.size z m (fun j => sg (N + j)) ∧ XR wr gr (SS (N + m)) (EE (N + m)) ∧ Two gs gr V wr) (fun v _ => h - (intOf v).toNat)
      case atStart => exact ⟨0, _, Nat.zero_le _, rfl, gsr, ⟨[], World.ownsRow_nil _ _ _ _, fun j u hu => by simp at hu⟩, xr, Two.refl _ _ _⟩
      case round =>
        obtain ⟨qv, dv, xdV, _⟩ := xr
        have gsV := gsr
        have hrsV := hrs
        have twoV := two
        clear gsr hrs two
        obtain ⟨m, z, hm, rfl, gsr, hrs, xr, two⟩ := hrel
        have s3w := two.size
        by_cases hlt : m < h
        · have hlt2 : (m : Int) < (h : Int) := by omega
          have c1 : wr.cell? ⟨gs, 2, none⟩ = some z := by rw [cell_of_row _ _ 2 _ _ _ gsr]; rfl
          have bD : Below wr.heap.size wr wr.drew := (Below.refl _ wr).drew
          have c1d := cell_later bD c1
          have hTk := HT.out (N + m) gr _ (xr.later bD)
          have hrd := hrs.later bD
          have gsd : wr.drew.heap[gs]? = some (.cells #[.int .i64 (un : Int), .slice py N cy, z] 30 (0, 0)) := (bD.block _ (by omega)).trans gsr
          have twod := two.later bD (by omega)
          obtain ⟨pl, cpl, rfl⟩ := owns_shape hrs.choose_spec.1
          obtain ⟨qx, dx, xd, _⟩ := xr.later bD
          have hgrW : gr < V.heap.size := by omega
          have hne : gr ≠ gs := by omega
          have sD : wr.heap.size = wr.drew.heap.size := by simp
          have hTk2 : Calls Tryd.prog 37 #[.pointer (some ⟨gr, 0, none⟩), .int .i64 (n : Int)] wr.drew fun x w' => ∃ v, x = .returned v ∧ ∃ p c, v = .slice p (sg (N + m)).length c ∧ HBN w' gr (.slice p (sg (N + m)).length c) (sg (N + m)) ∧ XR w' gr (SS (N + m + 1)) (EE (N + m + 1)) ∧ Only gr wr.drew w' ∧ TB w' (.slice p (sg (N + m)).length c) := hTk.mono fun x w' ⟨p, c, h1, h2⟩ => ⟨_, h1, p, c, rfl, h2⟩
          clear hrs xr gsr two bD hTk
          go_wp2
          go_region_law (first
            | (refine step_calls2 (by rfl) 37 _ _ _ _ (by rfl) _ _ (by rfl) (by rfl) (cf_take _ _) _ hTk2 ?_; rintro e w5 ⟨p5, c5, rfl, hx5, xr5, O5, t5⟩; obtain ⟨vs, r1, r2⟩ := hrd.box xd (by decide) O5 hgrW; have gs5 : w5.heap[gs]? = some (.cells #[.int .i64 (un : Int), .slice py N cy, .slice pl m cpl] 30 (0, 0)) := (O5.block gs (by omega) (by omega)).trans gsd; have two5 := twod.only O5; have e1 : w5.cell? ⟨gs, 2, none⟩ = some (.slice pl m cpl) := (by rw [cell_of_row _ _ 2 _ _ _ gs5]; rfl); have bB := (Below.refl _ w5).alloc (Nat.le_refl _) (.cells #[.slice p5 (sg (N + m)).length c5] 22); have e2 := cell_later bB e1; have s5 := two5.size)
            | (refine step_append_lies _ (by rfl) _ _ _ (by rfl) V.heap.size 22 i0 _ 1 24 Tryd.underlying28 hi9 hz0 hz1 hz2 rfl (by omega) _ m vs (by rfl) (owns_later r1 bB) ⟨w5.heap.size, 0, none⟩ 1 1 [.slice p5 (sg (N + m)).length c5] (by rfl) (by rfl) (World.news_of_block (cs := #[.slice p5 (sg (N + m)).length c5]) (t := 22) (fr := (0, 0)) (heap_alloc_new w5 _)) (by simp [Value.oneCell']) (by omega) (by unfold maxLen; omega) (by omega) (by simp; omega) (w5.heap.size + 1) (by simp) ?_; intro g7 cap7 w7 hown7 hgrow7 hat hlt7; obtain ⟨gs7, xr8, rs8, two8⟩ := take_put (i := 2) (sig := fun j => sg (N + j)) two5 gs5 hne hgsr hgrW xr5 r1 r2 hx5.1 t5 hgrow7 hown7; have x7 : w7.cell? ⟨gs, 2, none⟩ = some (.slice pl m cpl) := (by rw [cell_of_row _ _ 2 _ _ _ gs7]; rfl); have z7 : w7.frozen? ⟨gs, 2, none⟩ = false := (by simp [World.frozen?, gs7])))
          all_goals
            have gs8 : (w7.setCell ⟨gs, 2, none⟩ (.slice (some ⟨g7, 0, none⟩) (m + 1) cap7)).heap[gs]? = some (.cells #[.int .i64 (un : Int), .slice py N cy, .slice (some ⟨g7, 0, none⟩) (m + 1) cap7] 30 (0, 0)) := by
              rw [heap_setCell_same w7 gs 2 _ _ _ gs7]; rfl
            clear r1 r2 hgrow7 hown7 hat hlt7 gs7 e1 e2 bB gs5 two5 xr5 O5 t5 hx5 gsd twod xd hrd c1 c1d hTk2 x7 z7
            go_wp2
            go_roundw
            case rel => exact ⟨m + 1, _, by omega, by go_num, gs8, rs8, xr8, two8⟩
            case measure => simp [intOf]; omega
        · obtain rfl : m = h := by omega
          have hrsy := hrsV.two gsV xdV two
          obtain ⟨pz, cz, rfl⟩ := owns_shape hrs.choose_spec.1
          have hmm : ¬ (m : Int) < (m : Int) := by omega
          obtain ⟨qr, dr, xdr, hbr, tbr⟩ := xr
          have ce := xdr.cells.2
          have cb := xdr.cells.1
          have hw1 : w.heap.size < V.heap.size := by omega
          have gwr : wr.heap[w.heap.size]? = some (.cells #[.int .i64 0, .slice none 0 0, .slice none 0 0] 30 (0, 0)) := (two.2 _ hw1 (by omega) (by omega)).trans ((twoV.2 _ (by omega) (by omega) (by omega)).trans gW)
          have bwr : Below w.heap.size w wr := b0W.trans ((twoV.below (by omega) (by omega)).trans (two.below (by omega) (by omega)))
          have x0 : wr.cell? ⟨w.heap.size, 0, none⟩ = some (.int .i64 0) := by rw [cell_of_row _ _ 0 _ _ _ gwr]; rfl
          have x1 : wr.cell? ⟨w.heap.size, 1, none⟩ = some (.slice none 0 0) := by rw [cell_of_row _ _ 1 _ _ _ gwr]; rfl
          have x2 : wr.cell? ⟨w.heap.size, 2, none⟩ = some (.slice none 0 0) := by rw [cell_of_row _ _ 2 _ _ _ gwr]; rfl
          have y0 : wr.frozen? ⟨w.heap.size, 0, none⟩ = false := by simp [World.frozen?, gwr]
          have y1 : wr.frozen? ⟨w.heap.size, 1, none⟩ = false := by simp [World.frozen?, gwr]
          have y2 : wr.frozen? ⟨w.heap.size, 2, none⟩ = false := by simp [World.frozen?, gwr]
          have s0 : wr.cell? ⟨gs, 0, none⟩ = some (.int .i64 (un : Int)) := by rw [cell_of_row _ _ 0 _ _ _ gsr]; rfl
          have s1 : wr.cell? ⟨gs, 1, none⟩ = some (.slice py N cy) := by rw [cell_of_row _ _ 1 _ _ _ gsr]; rfl
          have s2 : wr.cell? ⟨gs, 2, none⟩ = some (.slice pz m cz) := by rw [cell_of_row _ _ 2 _ _ _ gsr]; rfl
          have hgrw : gr ≠ w.heap.size := by omega
          by_cases he0 : EE (N + m) = 0
          · rw [he0] at ce
            have hon : Only w.heap.size wr (((wr.setCell ⟨w.heap.size, 0, none⟩ (.int .i64 (un : Int))).setCell ⟨w.heap.size, 1, none⟩ (.slice py N cy)).setCell ⟨w.heap.size, 2, none⟩ (.slice pz m cz)) := (((Only.refl _ wr).setCell 0 _).setCell 1 _).setCell 2 _
            have cb5 := cell_ony hon cb hgrw
            have bd5 : Below (((wr.setCell ⟨w.heap.size, 0, none⟩ (.int .i64 (un : Int))).setCell ⟨w.heap.size, 1, none⟩ (.slice py N cy)).setCell ⟨w.heap.size, 2, none⟩ (.slice pz m cz)).heap.size _ (((wr.setCell ⟨w.heap.size, 0, none⟩ (.int .i64 (un : Int))).setCell ⟨w.heap.size, 1, none⟩ (.slice py N cy)).setCell ⟨w.heap.size, 2, none⟩ (.slice pz m cz)).drew := (Below.refl _ _).drew
            have pf := ((hrsy.box gwr (by decide) hon (by omega)).mono (base' := w.heap.size) (by omega)).later bd5
            have rf := ((hrs.box gwr (by decide) hon (by omega)).mono (base' := w.heap.size) (by omega)).later bd5
            have kf := (hb_box gwr (by decide) hon hbr.1 tbr).1.later bd5
            have bf : Below w.heap.size w (((wr.setCell ⟨w.heap.size, 0, none⟩ (.int .i64 (un : Int))).setCell ⟨w.heap.size, 1, none⟩ (.slice py N cy)).setCell ⟨w.heap.size, 2, none⟩ (.slice pz m cz)).drew := (bwr.trans (hon.below (Nat.le_refl _))).drew
            clear hrsy hrs hbr tbr xdr gsr two twoV gsV hrsV xdV gW bd5
            go_wp2
            go_region
            all_goals
              go_wp2
              refine bodyPost_ret (v := .tuple #[.agg #[.int .i64 (un : Int), .slice py N cy, .slice pz m cz], .slice qr (SS (N + m)).length dr, .int .i64 0]) ?_ rfl ?_
              · simp only [results, Tryd.results17]
                go_simp
              · rw [← HN.out]
                exact ⟨fun _ => ⟨_, _, _, _, rfl, pf, rf, kf⟩, fun h => absurd he0 h, bf⟩
          · have he1 : (EE (N + m) == 0) = false := by simpa using he0
            have hon : Only w.heap.size wr (((wr.setCell ⟨w.heap.size, 0, none⟩ (.int .i64 0)).setCell ⟨w.heap.size, 1, none⟩ (.slice none 0 0)).setCell ⟨w.heap.size, 2, none⟩ (.slice none 0 0)) := (((Only.refl _ wr).setCell 0 _).setCell 1 _).setCell 2 _
            have ce5 := cell_ony hon ce hgrw
            have bf : Below w.heap.size w (((wr.setCell ⟨w.heap.size, 0, none⟩ (.int .i64 0)).setCell ⟨w.heap.size, 1, none⟩ (.slice none 0 0)).setCell ⟨w.heap.size, 2, none⟩ (.slice none 0 0)).drew := (bwr.trans (hon.below (Nat.le_refl _))).drew
            clear hrsy hrs hbr tbr xdr gsr two twoV gsV hrsV xdV gW
            go_wp2
            go_region
            all_goals
              go_wp2
              refine bodyPost_ret (v := .tuple #[.agg #[.int .i64 0, .slice none 0 0, .slice none 0 0], .slice none 0 0, .int .i64 (EE (N + m))]) ?_ rfl ?_
              · simp only [results, Tryd.results17]
                go_simp
              · rw [← HN.out]
                exact ⟨fun h => absurd h he0, fun _ => rfl, bf⟩

end Go.Proofs.YtdjaemobfbbkoaaDoor
