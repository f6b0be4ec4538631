/- What this text proves: the walk of mts.Read over this program: a signature of bytes, or the error. What this text holds: plain facts on a signed record that is opened as it was sealed; what stays where a block of no bytes changes. -/
import Derived.Test.YtganajmhdpiipaaGreatDoorJSb
import Derived.Test.YtganajmhdpiipaaGreatDoorRegHeld
import Derived.Test.YtganajmhdpiipaaGreatDoorJSe
namespace Go.Proofs.YtganajmhdpiipaaGreatDoor
open Go.RowKit

theorem uint_n (g : Nat) (l : List UInt8) (most : Int) (w : World) (h : RR w g l 0) (ue : Int) (un : Nat) (r : List UInt8) (hU : uintF l most = (ue, un, r)) :
    Calls Tryz.prog 45 #[.pointer (some ⟨g, 0, none⟩), .int .i64 most] w fun x w' => x = .returned (.int .i64 (un : Int)) ∧ RR w' g r ue ∧ Only g w w' := by
  have k := uint_any g l most w h
  unfold UintSaid at k
  rw [hU] at k
  exact k

theorem run_indexI (x0 x1 : Int) (w : World) : (Instr.index 71 (.agg #[.int .i64 x0, .int .i64 x1]) (.int .i64 0)).run Tryz.prog w = .ok (.int .i64 x0) w ∧ (Instr.index 71 (.agg #[.int .i64 x0, .int .i64 x1]) (.int .i64 1)).run Tryz.prog w = .ok (.int .i64 x1) w := by
  have hu : Tryz.prog.underlying 71 = some (.array 2 3) := Tryz.underlying71
  have hs : (Tryz.prog.info? 3).map (·.size) = some 1 := by kernel_rfl
  obtain ⟨i, hi, hs⟩ := Option.map_eq_some_iff.1 hs
  constructor
  · simp [Instr.index, run_underlying hu, asIntOf, Go.sizeOf, typeInfo, hi, Result.andThen, go_sem]
  · simp [Instr.index, run_underlying hu, asIntOf, Go.sizeOf, typeInfo, hi, hs, Result.andThen, go_sem]

/-- Row j of n bytes. -/
def rowB (n : Nat) (R : List UInt8) (j : Nat) : List UInt8 := (R.drop (j * n)).take n

/-- A row stays where another block that is not of bytes changes. -/
theorem RS.far {w w' : World} {gs base N : Nat} {v : Value} {sig : Nat → List UInt8} {cs : Array Value} {t : TypeId} {fr : Nat × Nat} (r : RS w base v N sig) (hg : w.heap[gs]? = some (.cells cs t fr)) (ht : t ≠ 5) (hne : v.ownBlock ≠ some gs) (ho : Only gs w w') : RS w' base v N sig := by
  obtain ⟨us, r1, r2⟩ := r
  refine ⟨us, ⟨r1.1, ?_⟩, fun i' u' hu' => hb_box hg ht ho (r2 i' u' hu').1 (r2 i' u' hu').2⟩
  rcases r1.2 with hn | ⟨g', cap, cur, e1, hbg, e2, rest⟩
  · exact .inl hn
  · refine .inr ⟨g', cap, cur, e1, hbg, ?_, rest⟩
    have : g' ≠ gs := by
      rintro rfl
      apply hne
      rw [e1]
      rfl
    rw [ho.block g' this (Array.getElem?_eq_some_iff.1 e2).1]
    exact e2

theorem Only.new {gt g : Nat} {W w1 w2 : World} (o1 : Only gt W w1) (o2 : Only g w1 w2) (hg : W.heap.size ≤ g) (hgt : gt < W.heap.size) : Only gt W w2 := by
  have s1 := o1.size
  exact ⟨o1.1.trans (o2.below (by omega)), fun k h1 h2 => (o2.block k (by omega) (by omega)).trans (o1.2 k h1 h2)⟩

/-- Rows under way stay where another block that is not of bytes changes. -/
theorem RQ.box {w w' : World} {gs base g N k : Nat} {sig : Nat → List UInt8} {cs : Array Value} {t : TypeId} {fr : Nat × Nat} (r : RQ w base g N k sig) (hg : w.heap[gs]? = some (.cells cs t fr)) (ht : t ≠ 5) (ho : Only gs w w') (hB : gs < base) : RQ w' base g N k sig := by
  obtain ⟨us, r1, r2⟩ := r
  exact ⟨us, owns_only r1 ho hB, fun i' u' hj hu' => hb_box hg ht ho (r2 i' u' hj hu').1 (r2 i' u' hj hu').2⟩

theorem RQ.block {w : World} {base g N k : Nat} {sig : Nat → List UInt8} (h : RQ w base g N k sig) : ∃ cur, w.heap[g]? = some (.cells cur 22 (0, 0)) := by
  obtain ⟨vs, h1, _⟩ := h
  rcases h1.2 with ⟨e, _⟩ | ⟨g', cap, cur, e1, _, e2, _⟩
  · cases e
  · simp only [Value.slice.injEq, Option.some.injEq, Addr.mk.injEq, and_true, true_and] at e1
    obtain ⟨rfl, _⟩ := e1
    exact ⟨cur, e2⟩

theorem rowB_next (n : Nat) (R : List UInt8) (m : Nat) : (R.drop (m * n)).drop n = R.drop ((m + 1) * n) := by
  rw [List.drop_drop, Nat.succ_mul]

set_option maxRecDepth 100000 in
set_option maxHeartbeats 1000000 in
theorem mread_any (n h : Nat) (v : Value) (b : List UInt8) (M ue : Int) (un : Nat) (r : List UInt8) (w : World) (HM : Hid (wrap64 (wrap64 ((2 : Int) ^ h) - 1) = M)) (HU : Hid (uintF b M = (ue, un, r))) (R1 R2 : List UInt8) (HD1 : Hid (R1 = r.drop ((4 * n + 5) * n))) (HD2 : Hid (R2 = R1.drop (h * n))) (HR : Hid (ue = 0 → r.length ≤ b.length ∧ r = b.drop (b.length - r.length))) (hv : HB w v b) (hsz : b.length ≤ 140737488355000) (hn : 1 ≤ n) (hn2 : n ≤ 32) (hh : h ≤ 8) :
    Calls Tryz.prog 25 #[.int .i64 (n : Int), .int .i64 (h : Int), v] w fun e w' => (ue ≠ 0 → e = .returned (.tuple #[.agg #[.int .i64 0, .slice none 0 0, .slice none 0 0], .slice none 0 0, .int .i64 ue])) ∧ (ue = 0 → r.length < (4 * n + 5 + h) * n → e = .returned (.tuple #[.agg #[.int .i64 0, .slice none 0 0, .slice none 0 0], .slice none 0 0, .int .i64 3])) ∧ (ue = 0 → ¬ r.length < (4 * n + 5 + h) * n → ∃ x y p c, e = .returned (.tuple #[.agg #[.int .i64 (un : Int), x, y], .slice p R2.length c, .int .i64 0]) ∧ RS w' w.heap.size x (4 * n + 5) (rowB n r) ∧ RS w' w.heap.size y h (rowB n R1) ∧ HB w' (.slice p R2.length c) R2) ∧ Below w.heap.size w w' := by
  obtain ⟨p, c, rfl⟩ := hv.shape
  have hcan : mcanB (n : Int) (h : Int) = true := by simp [mcanB]; omega
  have hC := fun w' => mcan_any (n : Int) (h : Int) w'
  rw [hcan] at hC
  clear hcan
  have bA := (Below.refl _ w).alloc (Nat.le_refl _) (.cells #[.int .i64 0, .slice none 0 0, .slice none 0 0] 27)
  have g1 := heap_alloc_new w (.cells #[.int .i64 0, .slice none 0 0, .slice none 0 0] 27)
  go_enter Tryz.func25, Tryz.ntmps25
  go_wp2_with fail
  refine (hC _).mono ?_
  rintro e w1 ⟨rfl, hw⟩
  rw [← hw] at bA g1
  clear hw hC
  go_wp2_with fail
  refine (open_any _ b _ (hv.later bA) (by omega)).mono ?_
  rintro e w2 ⟨g, hg, rfl, x2, hb2⟩
  have b2 := bA.trans (hb2.mono bA.size)
  have g2 : w2.heap[w.heap.size]? = some (.cells #[.int .i64 0, .slice none 0 0, .slice none 0 0] 27 (0, 0)) := (hb2.block _ (Array.getElem?_eq_some_iff.1 g1).1).trans g1
  have hgw : w.heap.size < g := by have := (Array.getElem?_eq_some_iff.1 g1).1; omega
  clear bA g1 hb2 hg
  go_wp2_with fail
  rw [HM.out]
  generalize wrap64 ((2 : Int) ^ h) = N0 at *
  refine (uint_n g b M _ x2 ue un r HU.out).mono ?_
  rintro e w3 ⟨rfl, x3, O3⟩
  have b3 : Below w.heap.size w w3 := b2.trans (O3.below (by omega))
  have g3 : w3.heap[w.heap.size]? = some (.cells #[.int .i64 0, .slice none 0 0, .slice none 0 0] 27 (0, 0)) := (O3.block _ (by omega) (Array.getElem?_eq_some_iff.1 g2).1).trans g2
  clear x2 O3 g2 b2 HM HU
  have hE := rr_err g r ue w3 x3
  have hL := rr_left g r ue w3 x3
  have x0 : w3.cell? ⟨w.heap.size, 0, none⟩ = some (.int .i64 0) := by rw [cell_of_row _ _ 0 _ _ _ g3]; rfl
  have x1 : w3.cell? ⟨w.heap.size, 1, none⟩ = some (.slice none 0 0) := by rw [cell_of_row _ _ 1 _ _ _ g3]; rfl
  have x2 : w3.cell? ⟨w.heap.size, 2, none⟩ = some (.slice none 0 0) := by rw [cell_of_row _ _ 2 _ _ _ g3]; rfl
  have y0 : w3.frozen? ⟨w.heap.size, 0, none⟩ = false := by simp [World.frozen?, g3]
  have y1 : w3.frozen? ⟨w.heap.size, 1, none⟩ = false := by simp [World.frozen?, g3]
  have y2 : w3.frozen? ⟨w.heap.size, 2, none⟩ = false := by simp [World.frozen?, g3]
  by_cases he : ue = 0
  · subst he
    obtain ⟨hr1, hr2⟩ := HR.out rfl
    have HR2 : Hid (r = b.drop (b.length - r.length)) := hr2
    clear HR hr2
    have hvl := hv.len.2
    have kc : ∀ w', (Instr.slice 22 (.slice p b.length c) (some (.int .i64 ((b.length : Int) - (r.length : Int)))) none none).run Tryz.prog w' = .ok (.slice (cutP p c (b.length - r.length)) (b.length - (b.length - r.length)) (c - (b.length - r.length))) w' := fun w' => run_cut (P := Tryz.prog) Tryz.underlying22 s_u8 p b.length c (b.length - r.length) ((b.length : Int) - (r.length : Int)) (by omega) (by omega) w'
    have hrest := hv.behind (b.length - r.length) (by omega)
    rw [← HR2.out] at hrest
    have hl1 : b.length - (b.length - r.length) = r.length := by omega
    rw [hl1] at hrest kc
    clear hl1 HR2
    have hrb : (r.length : Int) ≤ (b.length : Int) := by omega
    obtain ⟨pr, hpr⟩ : ∃ pr, pr = cutP p c (b.length - r.length) := ⟨_, rfl⟩
    obtain ⟨cr, hcr⟩ : ∃ cr, cr = c - (b.length - r.length) := ⟨_, rfl⟩
    rw [← hpr, ← hcr] at hrest kc
    clear hpr hcr hvl
    go_wp2_with (first | (go_at_call 48; refine hE.mono ?_; rintro e w4 ⟨rfl, hw⟩; have hw2 := hw.symm; clear hw; subst hw2) | (go_at_call 26; refine hL.mono ?_; rintro e w4 ⟨rfl, hw⟩; have hw2 := hw.symm; clear hw; subst hw2))
    refine (lengths_any n (h : Int) _ hn2).mono ?_
    rintro e w4 ⟨rfl, hb4⟩
    clear kc hE hL x3 x0 x1 x2 y0 y1 y2
    have bC : Below w4.heap.size w4 (w4.alloc (.cells #[.int .i64 (4 * (n : Int) + 5), .int .i64 (h : Int)] 71)) := (Below.refl _ w4).alloc (Nat.le_refl _) _
    have bW4 := b3.trans (hb4.mono b3.size)
    have bW := bW4.trans (bC.mono bW4.size)
    have l3 := (Array.getElem?_eq_some_iff.1 g3).1
    have gW : (w4.alloc (.cells #[.int .i64 (4 * (n : Int) + 5), .int .i64 (h : Int)] 71)).heap[w.heap.size]? = some (.cells #[.int .i64 0, .slice none 0 0, .slice none 0 0] 27 (0, 0)) := (bC.block _ (by have := hb4.size; omega)).trans ((hb4.block _ l3).trans g3)
    have gC : (w4.alloc (.cells #[.int .i64 (4 * (n : Int) + 5), .int .i64 (h : Int)] 71)).heap[w4.heap.size]? = some (.cells #[.int .i64 (4 * (n : Int) + 5), .int .i64 (h : Int)] 71 (0, 0)) := heap_alloc_new w4 _
    have hlW : w.heap.size < w4.heap.size := by have := hb4.size; omega
    clear hb4 bC g3 b3
    have hT1 : (4 * n + 5 + h) * n ≤ 141 * 32 := Nat.mul_le_mul (by omega) hn2
    have hT2 : wrap64 ((4 * (n : Int) + 5 + (h : Int)) * (n : Int)) = (((4 * n + 5 + h) * n : Nat) : Int) := by
      have e : (4 * (n : Int) + 5 + (h : Int)) * (n : Int) = (((4 * n + 5 + h) * n : Nat) : Int) := by push_cast; rfl
      rw [e]
      unfold wrap64; omega
    have HT2 : Hid (wrap64 ((4 * (n : Int) + 5 + (h : Int)) * (n : Int)) = (((4 * n + 5 + h) * n : Nat) : Int)) := hT2
    clear hT2
    by_cases hshort : r.length < (4 * n + 5 + h) * n
    · have hsh2 : (r.length : Int) < wrap64 ((4 * (n : Int) + 5 + (h : Int)) * (n : Int)) := by rw [HT2.out]; omega
      have g4 : w4.heap[w.heap.size]? = some (.cells #[.int .i64 0, .slice none 0 0, .slice none 0 0] 27 (0, 0)) := by rw [← gW]; exact (((Below.refl _ w4).alloc (Nat.le_refl _) _).block _ hlW).symm
      have v0 : w4.cell? ⟨w.heap.size, 0, none⟩ = some (.int .i64 0) := by rw [cell_of_row _ _ 0 _ _ _ g4]; rfl
      have v1 : w4.cell? ⟨w.heap.size, 1, none⟩ = some (.slice none 0 0) := by rw [cell_of_row _ _ 1 _ _ _ g4]; rfl
      have v2 : w4.cell? ⟨w.heap.size, 2, none⟩ = some (.slice none 0 0) := by rw [cell_of_row _ _ 2 _ _ _ g4]; rfl
      have u0 : w4.frozen? ⟨w.heap.size, 0, none⟩ = false := by simp [World.frozen?, g4]
      have u1 : w4.frozen? ⟨w.heap.size, 1, none⟩ = false := by simp [World.frozen?, g4]
      have u2 : w4.frozen? ⟨w.heap.size, 2, none⟩ = false := by simp [World.frozen?, g4]
      have b4 : Below w.heap.size w w4 := bW4
      have hon : Only w.heap.size w4 (((w4.setCell ⟨w.heap.size, 0, none⟩ (.int .i64 0)).setCell ⟨w.heap.size, 1, none⟩ (.slice none 0 0)).setCell ⟨w.heap.size, 2, none⟩ (.slice none 0 0)) := (((Only.refl _ w4).setCell 0 _).setCell 1 _).setCell 2 _
      have bf := (b4.trans (hon.below (Nat.le_refl _))).alloc (by have := (b4.trans (hon.below (Nat.le_refl _))).size; exact this) (.cells #[.int .i64 (4 * (n : Int) + 5), .int .i64 (h : Int)] 71)
      clear gW gC hon g4
      go_wp2
      refine bodyPost_ret (v := .tuple #[.agg #[.int .i64 0, .slice none 0 0, .slice none 0 0], .slice none 0 0, .int .i64 3]) ?_ rfl ?_
      · simp only [results, Tryz.results25]
        go_simp
      · exact ⟨rfl, bf⟩
    · have hsh2 : ¬ (r.length : Int) < wrap64 ((4 * (n : Int) + 5 + (h : Int)) * (n : Int)) := by rw [HT2.out]; omega
      clear gC
      go_wp2
      obtain ⟨N, hN⟩ : ∃ N, N = 4 * n + 5 := ⟨_, rfl⟩
      have HN : Hid (N = 4 * n + 5) := hN
      have HNi : Hid (4 * (n : Int) + 5 = (N : Int)) := by show _ = _; omega
      have hN200 : N ≤ 200 := by omega
      have hlong : (N + h) * n ≤ r.length := by rw [hN]; omega
      have HSH : Hid (¬ r.length < (4 * n + 5 + h) * n) := hshort
      clear hshort HT2
      have hN' := hN
      clear hN hN'
      obtain ⟨W, hW⟩ : ∃ W, W = (w4.alloc (.cells #[.int .i64 (4 * (n : Int) + 5), .int .i64 (h : Int)] 71)).alloc (.cells #[.slice none 0 0, .slice none 0 0] 64) := ⟨_, rfl⟩
      have sW4 : (w4.alloc (.cells #[.int .i64 (4 * (n : Int) + 5), .int .i64 (h : Int)] 71)).heap.size = w4.heap.size + 1 := by simp
      have bT : Below (w4.heap.size + 1) (w4.alloc (.cells #[.int .i64 (4 * (n : Int) + 5), .int .i64 (h : Int)] 71)) W := by rw [hW]; exact (Below.refl _ _).alloc (by simp) _
      have gtW : W.heap[w4.heap.size + 1]? = some (.cells #[.slice none 0 0, .slice none 0 0] 64 (0, 0)) := by
        rw [hW]
        have := heap_alloc_new (w4.alloc (.cells #[.int .i64 (4 * (n : Int) + 5), .int .i64 (h : Int)] 71)) (.cells #[.slice none 0 0, .slice none 0 0] 64)
        simpa using this
      have b0W : Below w.heap.size w W := bW.trans (bT.mono (by omega))
      have gWW : W.heap[w.heap.size]? = some (.cells #[.int .i64 0, .slice none 0 0, .slice none 0 0] 27 (0, 0)) := (bT.block _ (by omega)).trans gW
      rw [← hW, HNi.out]
      have hgtl : w4.heap.size + 1 < W.heap.size := (Array.getElem?_eq_some_iff.1 gtW).1
      clear hW sW4 bT bW gW bW4 hsh2 HNi hT1
      have hgt0 : w.heap.size < w4.heap.size + 1 := by omega
      generalize w4.heap.size + 1 = gt at *
      obtain ⟨i0, hi9, hz0, hz1, hz2⟩ := info_parts i_bytes
      have HRB : Hid (r.length ≤ b.length) := hr1
      clear hr1 hrb l3 hlW hgw
      have hR1 : R1 = r.drop (N * n) := by rw [HN.out]; exact HD1.out
      have hlN : N * n + h * n ≤ r.length := by rw [← Nat.add_mul]; exact hlong
      have hl1 : R1.length = r.length - N * n := by rw [hR1, List.length_drop]
      have hl2 : h * n ≤ R1.length := by omega
      have hl0 : N * n ≤ r.length := by omega
      have HR1 : Hid (R1 = r.drop (N * n)) := hR1
      have HL1 : Hid (R1.length = r.length - N * n) := hl1
      clear hR1 hl1 hlong hlN
      go_loopw [57, 11] (fun i rs wr => (i = .int .i64 0 ∧ ∃ p0 c0, rs = .slice p0 r.length c0 ∧ HB w (.slice p0 r.length c0) r ∧ wr.heap[gt]? = some (.cells #[.slice none 0 0, .slice none 0 0] 64 (0, 0)) ∧ Only gt W wr) ∨ (i = .int .i64 1 ∧ ∃ p0 c0 pt ct, rs = .slice p0 R1.length c0 ∧ HB w (.slice p0 R1.length c0) R1 ∧ wr.heap[gt]? = some (.cells #[.slice pt N ct, .slice none 0 0] 64 (0, 0)) ∧ RS wr W.heap.size (.slice pt N ct) N (rowB n r) ∧ Only gt W wr) ∨ (i = .int .i64 2 ∧ ∃ p0 c0 pt ct pz cz, rs = .slice p0 (R1.drop (h * n)).length c0 ∧ HB w (.slice p0 (R1.drop (h * n)).length c0) (R1.drop (h * n)) ∧ wr.heap[gt]? = some (.cells #[.slice pt N ct, .slice pz h cz] 64 (0, 0)) ∧ RS wr W.heap.size (.slice pt N ct) N (rowB n r) ∧ RS wr W.heap.size (.slice pz h cz) h (rowB n R1) ∧ Only gt W wr)) (fun i _ _ => 2 - (intOf i).toNat)
      case atStart => exact Or.inl ⟨rfl, _, _, rfl, hrest, gtW, Only.refl _ _⟩
      case round =>
      rcases hrel with hst | hst | hst
      · obtain ⟨rfl, p0, c0, rfl, hr0, gtr, onr⟩ := hst
        generalize hVe : wr = V at *
        clear hVe
        have szV := onr.size
        have tV : V.cell? ⟨gt, 0, none⟩ = some (.slice none 0 0) := by rw [cell_of_row _ _ 0 _ _ _ gtr]; rfl
        have tF : V.frozen? ⟨gt, 0, none⟩ = false := by simp [World.frozen?, gtr]
        have kI := fun w' => run_indexI (N : Int) (h : Int) w'
        have kI0 := fun w' => (kI w').1
        clear kI
        go_wp2_with (first | (at_make; refine wpList_make_full _ rfl _ _ 23 rfl V.heap.size 22 i0 (.slice none 0 0) 1 Tryz.underlying23 hi9 hz0 hz1 .i64 .i64 _ _ N rfl rfl ?_ ?_ ?_ ?_ ?_ ?_))
        all_goals (try (first | omega | (unfold maxLen; omega) | (rw [hz2]; omega)))
        intro w1 hown1 hgrow1
        have hb1 : Below V.heap.size V w1 := (Below.refl _ V).grown hgrow1 (Nat.le_refl _) (by intro k hk; cases hk)
        have hq1 : RQ w1 V.heap.size V.heap.size N 0 (rowB n r) := ⟨_, hown1, fun j u hj => by omega⟩
        have gt1 := (hb1.block gt (by omega)).trans gtr
        have t1 : w1.cell? ⟨gt, 0, none⟩ = some (.slice none 0 0) := by rw [cell_of_row _ _ 0 _ _ _ gt1]; rfl
        have f1 : w1.frozen? ⟨gt, 0, none⟩ = false := by simp [World.frozen?, gt1]
        have s1 := hb1.size
        clear hown1 hgrow1 tV tF kI0
        go_wp2_with fail
        obtain ⟨gq, hgq⟩ : ∃ gq, gq = V.heap.size := ⟨_, rfl⟩
        rw [← hgq] at hq1 s1 hb1 szV ⊢
        obtain ⟨w2, hw2⟩ : ∃ w2, w2 = w1.setCell ⟨gt, 0, none⟩ (.slice (some ⟨gq, 0, none⟩) N N) := ⟨_, rfl⟩
        have on12 : Only gt w1 w2 := by rw [hw2]; exact (Only.refl gt w1).setCell 0 _
        have gt2 : w2.heap[gt]? = some (.cells #[.slice (some ⟨gq, 0, none⟩) N N, .slice none 0 0] 64 (0, 0)) := by rw [hw2, heap_setCell_same w1 gt 0 _ _ _ gt1]; rfl
        have hq2 := hq1.box gt1 (by decide) on12 (by omega)
        have onW2 : Only gt W w2 := (onr.trans (Only.of_below (by rw [← hgq]; exact hb1) (by omega))).trans on12
        have t2 : w2.cell? ⟨gt, 0, none⟩ = some (.slice (some ⟨gq, 0, none⟩) N N) := by rw [cell_of_row _ _ 0 _ _ _ gt2]; rfl
        have s2 := on12.size
        rw [← hw2]
        clear hw2 t1 f1 gt1 on12 gtr hb1 hq1 hgq onr t2
        have hwg : w2.heap.size > gq := by obtain ⟨us, q1, _⟩ := hq2; exact (q1.lt _ rfl).2
        go_loopw [69, 11] (fun j rs wr => ∃ (m : Nat) (p1 : Option Addr) (c1 L : Nat), m ≤ N ∧ j = .int .i64 m ∧ rs = .slice p1 L c1 ∧ Hid (L = r.length - m * n) ∧ HB w (.slice p1 L c1) (r.drop (m * n)) ∧ RQ wr gq gq N m (rowB n r) ∧ wr.heap[gt]? = some (.cells #[.slice (some ⟨gq, 0, none⟩) N N, .slice none 0 0] 64 (0, 0)) ∧ Only gq w2 wr) (fun j _ _ => N - (intOf j).toNat)
        case atStart => exact ⟨0, _, _, _, Nat.zero_le _, rfl, rfl, by show _ = _; simp, by simpa using hr0, hq2, gt2, Only.refl _ _⟩
        case round =>
          obtain ⟨m, p1, c1, L, hm, rfl, rfl, HL, hbx, hq, gtx, onx⟩ := hrel
          have sx := onx.size
          have bwx : Below w.heap.size w wr := (b0W.trans (onW2.below (by omega))).trans (onx.below (by omega))
          by_cases hlt : m < N
          · have hlt2 : (m : Int) < (N : Int) := by omega
            have hm0 : (0 : Int) ≤ (m : Int) := by omega
            have hmn : m * n + n ≤ r.length := by
              have := Nat.mul_le_mul_right n (show m + 1 ≤ N by omega)
              rw [Nat.succ_mul] at this
              omega
            have hnL : n ≤ L := by rw [HL.out]; omega
            have hLn : Hid (L - n = r.length - (m + 1) * n) := by show _ = _; rw [HL.out, Nat.succ_mul]; omega
            have hcl := hbx.len.2
            have k1 : ∀ w', (Instr.slice 22 (.slice p1 L c1) none (some (.int .i64 (n : Int))) none).run Tryz.prog w' = .ok (.slice p1 n c1) w' := fun w' => run_upto (P := Tryz.prog) Tryz.underlying22 s_u8 p1 L c1 n (n : Int) rfl (by omega) w'
            have k3 : ∀ w', (Instr.slice 22 (.slice p1 L c1) (some (.int .i64 (n : Int))) none none).run Tryz.prog w' = .ok (.slice (cutP p1 c1 n) (L - n) (c1 - n)) w' := fun w' => run_cut (P := Tryz.prog) Tryz.underlying22 s_u8 p1 L c1 n (n : Int) rfl hnL w'
            have hfr := hbx.front n hnL
            have hbh := hbx.behind n hnL
            rw [rowB_next] at hbh
            have hX : (r.drop (m * n)).take n = rowB n r m := rfl
            rw [hX] at hfr
            have hXl : (rowB n r m).length ≤ 32 := by unfold rowB; rw [List.length_take]; omega
            have HX : Hid (rowB n r m = rowB n r m) := rfl
            have ct1 : wr.cell? ⟨gt, 0, none⟩ = some (.slice (some ⟨gq, 0, none⟩) N N) := by rw [cell_of_row _ _ 0 _ _ _ gtx]; rfl
            obtain ⟨y, cy, fy⟩ := hq.cell m hlt
            have hbd : Below wr.heap.size wr wr.drew := (Below.refl _ wr).drew
            have hCl := clone_own _ (rowB n r m) _ ((hfr.later bwx).later hbd) (by omega)
            generalize hXg : rowB n r m = X at hCl hXl hfr
            have HXg : Hid (rowB n r m = X) := hXg
            have hgtq : gt ≠ gq := by omega
            clear hX HX hXg hfr hbx hcl
            go_wp2
            go_region_held3 (fun w' => w'.cell? ⟨gt, 0, none⟩ = some (.slice (some ⟨gq, 0, none⟩) N N)) (first | exact ct1 | exact d5 | exact d6 | simpa using ct1) (first
              | (go_at_call 52; refine hCl.mono ?_; rintro e w5 ⟨p5, c5, rfl, o5, hb5'⟩; have hb05 : Below wr.heap.size wr w5 := hbd.trans (hb5'.mono (by simp)); have d5 := cell_later hb05 ct1; have on56 : Only gq w5 (w5.setCell ⟨gq, m, none⟩ (.slice p5 X.length c5)) := (Only.refl gq w5).setCell m _; have d6 := cell_ony on56 d5 hgtq; have cy5 := cell_later hb05 cy; obtain ⟨_, _, fy5⟩ := (hq.later hb05).cell m hlt))
            have hq5 := hq.later hb05
            have hx5 : HB w5 (.slice p5 X.length c5) (rowB n r m) := by rw [HXg.out]; exact HB.of_owns o5
            have hq6 := hq5.put _ hx5 (TB.of_owns o5)
            have gt6 : (w5.setCell ⟨gq, m, none⟩ (.slice p5 X.length c5)).heap[gt]? = some (.cells #[.slice (some ⟨gq, 0, none⟩) N N, .slice none 0 0] 64 (0, 0)) := (on56.block gt hgtq (by have := hb05.size; omega)).trans ((hb05.block gt (by omega)).trans gtx)
            have on6 : Only gq w2 (w5.setCell ⟨gq, m, none⟩ (.slice p5 X.length c5)) := (onx.trans (Only.of_below hb05 (by omega))).trans on56
            clear hq5 hx5 o5 hb5' hCl k1 ct1 cy fy hq gtx onx d5 d6 cy5 fy5 on56 hbd
            go_wp2
            go_roundw
            case rel => exact ⟨m + 1, _, _, _, by omega, by go_num, rfl, hLn, hbh, hq6, gt6, on6⟩
            case measure => simp [intOf]; omega
          · have hmN : m = N := by omega
            have e1 : r.drop (m * n) = R1 := by rw [HR1.out, hmN]
            have e2 : L = R1.length := by rw [HL.out, HL1.out, hmN]
            rw [e1, e2] at hbx
            rw [hmN] at hq
            have hrow := hq.rs.mono (base' := W.heap.size) (by omega)
            have onW := onW2.new onx (by omega) hgtl
            have hnlt : ¬ (m : Int) < (N : Int) := by omega
            rw [e2]
            clear hq hmN e1 e2 HL hm hlt onx gt2 hq2 onW2
            go_wp2
            go_roundw
            case rel => exact Or.inr (Or.inl ⟨by go_num, _, _, _, _, rfl, hbx, gtx, hrow, onW⟩)
            case measure => simp [intOf]
      · obtain ⟨rfl, p0, c0, pt, ct, rfl, hr0, gtr, hrs, onr⟩ := hst
        generalize hVe : wr = V at *
        clear hVe
        have szV := onr.size
        have tV : V.cell? ⟨gt, 1, none⟩ = some (.slice none 0 0) := by rw [cell_of_row _ _ 1 _ _ _ gtr]; rfl
        have tF : V.frozen? ⟨gt, 1, none⟩ = false := by simp [World.frozen?, gtr]
        have kI := fun w' => run_indexI (N : Int) (h : Int) w'
        have kI0 := fun w' => (kI w').2
        clear kI
        go_wp2_with (first | (at_make; refine wpList_make_full _ rfl _ _ 23 rfl V.heap.size 22 i0 (.slice none 0 0) 1 Tryz.underlying23 hi9 hz0 hz1 .i64 .i64 _ _ h rfl rfl ?_ ?_ ?_ ?_ ?_ ?_))
        all_goals (try (first | omega | (unfold maxLen; omega) | (rw [hz2]; omega)))
        intro w1 hown1 hgrow1
        have hb1 : Below V.heap.size V w1 := (Below.refl _ V).grown hgrow1 (Nat.le_refl _) (by intro k hk; cases hk)
        have hq1 : RQ w1 V.heap.size V.heap.size h 0 (rowB n R1) := ⟨_, hown1, fun j u hj => by omega⟩
        have gt1 := (hb1.block gt (by omega)).trans gtr
        have t1 : w1.cell? ⟨gt, 1, none⟩ = some (.slice none 0 0) := by rw [cell_of_row _ _ 1 _ _ _ gt1]; rfl
        have f1 : w1.frozen? ⟨gt, 1, none⟩ = false := by simp [World.frozen?, gt1]
        have s1 := hb1.size
        clear hown1 hgrow1 tV tF kI0
        go_wp2_with fail
        obtain ⟨gq, hgq⟩ : ∃ gq, gq = V.heap.size := ⟨_, rfl⟩
        rw [← hgq] at hq1 s1 hb1 szV ⊢
        obtain ⟨w2, hw2⟩ : ∃ w2, w2 = w1.setCell ⟨gt, 1, none⟩ (.slice (some ⟨gq, 0, none⟩) h h) := ⟨_, rfl⟩
        have on12 : Only gt w1 w2 := by rw [hw2]; exact (Only.refl gt w1).setCell 1 _
        have gt2 : w2.heap[gt]? = some (.cells #[.slice pt N ct, .slice (some ⟨gq, 0, none⟩) h h] 64 (0, 0)) := by rw [hw2, heap_setCell_same w1 gt 1 _ _ _ gt1]; rfl
        have hq2 := hq1.box gt1 (by decide) on12 (by omega)
        have onW2 : Only gt W w2 := (onr.trans (Only.of_below (by rw [← hgq]; exact hb1) (by omega))).trans on12
        have hrs2 := (hrs.later (by rw [← hgq]; exact hb1)).box gt1 (by decide) on12 hgtl
        have hfarq : (Value.slice pt N ct).ownBlock ≠ some gq := by
          obtain ⟨us, q1, _⟩ := hrs
          intro e
          have := (q1.lt _ e).2
          omega
        have t2 : w2.cell? ⟨gt, 1, none⟩ = some (.slice (some ⟨gq, 0, none⟩) h h) := by rw [cell_of_row _ _ 1 _ _ _ gt2]; rfl
        have s2 := on12.size
        rw [← hw2]
        clear hw2 t1 f1 gt1 on12 gtr hb1 hq1 hgq onr t2 hrs
        have hwg : w2.heap.size > gq := by obtain ⟨us, q1, _⟩ := hq2; exact (q1.lt _ rfl).2
        go_loopw [69, 11] (fun j rs wr => ∃ (m : Nat) (p1 : Option Addr) (c1 L : Nat), m ≤ h ∧ j = .int .i64 m ∧ rs = .slice p1 L c1 ∧ Hid (L = R1.length - m * n) ∧ HB w (.slice p1 L c1) (R1.drop (m * n)) ∧ RQ wr gq gq h m (rowB n R1) ∧ wr.heap[gt]? = some (.cells #[.slice pt N ct, .slice (some ⟨gq, 0, none⟩) h h] 64 (0, 0)) ∧ Only gq w2 wr ∧ RS wr W.heap.size (.slice pt N ct) N (rowB n r)) (fun j _ _ => h - (intOf j).toNat)
        case atStart => exact ⟨0, _, _, _, Nat.zero_le _, rfl, rfl, by show _ = _; simp, by simpa using hr0, hq2, gt2, Only.refl _ _, hrs2⟩
        case round =>
          obtain ⟨m, p1, c1, L, hm, rfl, rfl, HL, hbx, hq, gtx, onx, hrsx⟩ := hrel
          have sx := onx.size
          have bwx : Below w.heap.size w wr := (b0W.trans (onW2.below (by omega))).trans (onx.below (by omega))
          by_cases hlt : m < h
          · have hlt2 : (m : Int) < (h : Int) := by omega
            have hm0 : (0 : Int) ≤ (m : Int) := by omega
            have hmn : m * n + n ≤ R1.length := by
              have := Nat.mul_le_mul_right n (show m + 1 ≤ h by omega)
              rw [Nat.succ_mul] at this
              omega
            have hnL : n ≤ L := by rw [HL.out]; omega
            have hLn : Hid (L - n = R1.length - (m + 1) * n) := by show _ = _; rw [HL.out, Nat.succ_mul]; omega
            have hcl := hbx.len.2
            have k1 : ∀ w', (Instr.slice 22 (.slice p1 L c1) none (some (.int .i64 (n : Int))) none).run Tryz.prog w' = .ok (.slice p1 n c1) w' := fun w' => run_upto (P := Tryz.prog) Tryz.underlying22 s_u8 p1 L c1 n (n : Int) rfl (by omega) w'
            have k3 : ∀ w', (Instr.slice 22 (.slice p1 L c1) (some (.int .i64 (n : Int))) none none).run Tryz.prog w' = .ok (.slice (cutP p1 c1 n) (L - n) (c1 - n)) w' := fun w' => run_cut (P := Tryz.prog) Tryz.underlying22 s_u8 p1 L c1 n (n : Int) rfl hnL w'
            have hfr := hbx.front n hnL
            have hbh := hbx.behind n hnL
            rw [rowB_next] at hbh
            have hX : (R1.drop (m * n)).take n = rowB n R1 m := rfl
            rw [hX] at hfr
            have hXl : (rowB n R1 m).length ≤ 32 := by unfold rowB; rw [List.length_take]; omega
            have HX : Hid (rowB n R1 m = rowB n R1 m) := rfl
            have ct1 : wr.cell? ⟨gt, 1, none⟩ = some (.slice (some ⟨gq, 0, none⟩) h h) := by rw [cell_of_row _ _ 1 _ _ _ gtx]; rfl
            obtain ⟨y, cy, fy⟩ := hq.cell m hlt
            have hbd : Below wr.heap.size wr wr.drew := (Below.refl _ wr).drew
            have hCl := clone_own _ (rowB n R1 m) _ ((hfr.later bwx).later hbd) (by omega)
            generalize hXg : rowB n R1 m = X at hCl hXl hfr
            have HXg : Hid (rowB n R1 m = X) := hXg
            have hgtq : gt ≠ gq := by omega
            clear hX HX hXg hfr hbx hcl
            go_wp2
            go_region_held3 (fun w' => w'.cell? ⟨gt, 1, none⟩ = some (.slice (some ⟨gq, 0, none⟩) h h)) (first | exact ct1 | exact d5 | exact d6 | simpa using ct1) (first
              | (go_at_call 52; refine hCl.mono ?_; rintro e w5 ⟨p5, c5, rfl, o5, hb5'⟩; have hb05 : Below wr.heap.size wr w5 := hbd.trans (hb5'.mono (by simp)); have d5 := cell_later hb05 ct1; have on56 : Only gq w5 (w5.setCell ⟨gq, m, none⟩ (.slice p5 X.length c5)) := (Only.refl gq w5).setCell m _; have d6 := cell_ony on56 d5 hgtq; have cy5 := cell_later hb05 cy; obtain ⟨_, _, fy5⟩ := (hq.later hb05).cell m hlt))
            have hq5 := hq.later hb05
            have hx5 : HB w5 (.slice p5 X.length c5) (rowB n R1 m) := by rw [HXg.out]; exact HB.of_owns o5
            have hq6 := hq5.put _ hx5 (TB.of_owns o5)
            obtain ⟨cur5, gq5⟩ := hq5.block
            have hrs6 := (hrsx.later hb05).far gq5 (by decide) hfarq on56
            have gt6 : (w5.setCell ⟨gq, m, none⟩ (.slice p5 X.length c5)).heap[gt]? = some (.cells #[.slice pt N ct, .slice (some ⟨gq, 0, none⟩) h h] 64 (0, 0)) := (on56.block gt hgtq (by have := hb05.size; omega)).trans ((hb05.block gt (by omega)).trans gtx)
            have on6 : Only gq w2 (w5.setCell ⟨gq, m, none⟩ (.slice p5 X.length c5)) := (onx.trans (Only.of_below hb05 (by omega))).trans on56
            clear hq5 hx5 o5 hb5' hCl k1 ct1 cy fy hq gtx onx d5 d6 cy5 fy5 on56 hbd gq5 hrsx
            go_wp2
            go_roundw
            case rel => exact ⟨m + 1, _, _, _, by omega, by go_num, rfl, hLn, hbh, hq6, gt6, on6, hrs6⟩
            case measure => simp [intOf]; omega
          · have hmN : m = h := by omega
            have e1 : R1.drop (m * n) = R1.drop (h * n) := by rw [hmN]
            have e2 : L = (R1.drop (h * n)).length := by rw [List.length_drop, HL.out, hmN]
            rw [e1, e2] at hbx
            rw [hmN] at hq
            have hrow := hq.rs.mono (base' := W.heap.size) (by omega)
            have onW := onW2.new onx (by omega) hgtl
            have hnlt : ¬ (m : Int) < (h : Int) := by omega
            rw [e2]
            clear hq hmN e1 e2 HL hm hlt onx gt2 hq2 onW2 hrs2
            go_wp2
            go_roundw
            case rel => exact Or.inr (Or.inr ⟨by go_num, _, _, _, _, _, _, rfl, hbx, gtx, hrsx, hrow, onW⟩)
            case measure => simp [intOf]
      · obtain ⟨rfl, p0, c0, pt, ct, pz, cz, rfl, hr0, gtr, hrs0, hrs1, onr⟩ := hst
        have szV := onr.size
        have bwr : Below w.heap.size w wr := b0W.trans (onr.below (by omega))
        have gwr : wr.heap[w.heap.size]? = some (.cells #[.int .i64 0, .slice none 0 0, .slice none 0 0] 27 (0, 0)) := (onr.block _ (by omega) (by omega)).trans gWW
        have t0 : wr.cell? ⟨gt, 0, none⟩ = some (.slice pt N ct) := by rw [cell_of_row _ _ 0 _ _ _ gtr]; rfl
        have t1 : wr.cell? ⟨gt, 1, none⟩ = some (.slice pz h cz) := by rw [cell_of_row _ _ 1 _ _ _ gtr]; rfl
        have hRl : (R1.drop (h * n)).length ≤ 140737488355000 := by rw [List.length_drop, HL1.out]; have := HRB.out; omega
        have hbd : Below wr.heap.size wr wr.drew := (Below.refl _ wr).drew
        have hCl := clone_own _ (R1.drop (h * n)) _ ((hr0.later bwr).later hbd) (by omega)
        have hR2 : R2 = R1.drop (h * n) := HD2.out
        rw [← hR2] at hRl hCl ⊢
        have hgtw : gt ≠ w.heap.size := by omega
        clear hR2 hr0 hgt0
        go_wp2
        go_region_held3 (fun w' => w'.cell? ⟨gt, 0, none⟩ = some (.slice pt N ct) ∧ w'.cell? ⟨gt, 1, none⟩ = some (.slice pz h cz)) (first | exact ⟨t0, t1⟩ | exact ⟨d0, d1⟩ | exact ⟨cell_ony hon d0 hgtw, cell_ony hon d1 hgtw⟩ | exact ⟨by simpa using t0, by simpa using t1⟩) (first
          | (go_at_call 52; refine hCl.mono ?_; rintro e w5 ⟨p5, c5, rfl, o5, hb5'⟩; have hb05 : Below wr.heap.size wr w5 := hbd.trans (hb5'.mono (by simp)); have d0 := cell_later hb05 t0; have d1 := cell_later hb05 t1; have gw5 := (hb05.block _ (Array.getElem?_eq_some_iff.1 gwr).1).trans gwr; have x0 : w5.cell? ⟨w.heap.size, 0, none⟩ = some (.int .i64 0) := (by rw [cell_of_row _ _ 0 _ _ _ gw5]; rfl); have x1 : w5.cell? ⟨w.heap.size, 1, none⟩ = some (.slice none 0 0) := (by rw [cell_of_row _ _ 1 _ _ _ gw5]; rfl); have x2 : w5.cell? ⟨w.heap.size, 2, none⟩ = some (.slice none 0 0) := (by rw [cell_of_row _ _ 2 _ _ _ gw5]; rfl); have y0 : w5.frozen? ⟨w.heap.size, 0, none⟩ = false := (by simp [World.frozen?, gw5]); have y1 : w5.frozen? ⟨w.heap.size, 1, none⟩ = false := (by simp [World.frozen?, gw5]); have y2 : w5.frozen? ⟨w.heap.size, 2, none⟩ = false := (by simp [World.frozen?, gw5]); have hon : Only w.heap.size w5 (((w5.setCell ⟨w.heap.size, 0, none⟩ (.int .i64 (un : Int))).setCell ⟨w.heap.size, 1, none⟩ (.slice pt N ct)).setCell ⟨w.heap.size, 2, none⟩ (.slice pz h cz)) := (((Only.refl _ w5).setCell 0 _).setCell 1 _).setCell 2 _))
        have hwW : w.heap.size < W.heap.size := (Array.getElem?_eq_some_iff.1 gWW).1
        have pf := ((hrs0.later hb05).box gw5 (by decide) hon hwW).mono (base' := w.heap.size) (by omega)
        have rf := ((hrs1.later hb05).box gw5 (by decide) hon hwW).mono (base' := w.heap.size) (by omega)
        have kf := (hb_box gw5 (by decide) hon (HB.of_owns o5) (TB.of_owns o5)).1
        have bf := (bwr.trans (hb05.mono bwr.size)).trans (hon.below (Nat.le_refl _))
        clear hrs0 hrs1 gtr gw5 o5 hb5' hb05 hCl hbd onr bwr gwr t0 t1 d0 d1 hon y0 y1 y2
        go_wp2
        refine bodyPost_ret (v := .tuple #[.agg #[.int .i64 (un : Int), .slice pt N ct, .slice pz h cz], .slice p5 R2.length c5, .int .i64 0]) ?_ rfl ?_
        · simp only [results, Tryz.results25]
          go_simp
        · rw [← HN.out]
          have hsh := HSH.out
          rw [← HN.out] at hsh
          exact ⟨fun hs => absurd hs hsh, fun _ => ⟨_, _, _, _, rfl, pf, rf, kf⟩, bf⟩
  · have he1 : (ue == 0) = false := by simpa using he
    have he2 : (ue != 0) = true := by simpa using he
    have hon : Only w.heap.size w3 (((w3.setCell ⟨w.heap.size, 0, none⟩ (.int .i64 0)).setCell ⟨w.heap.size, 1, none⟩ (.slice none 0 0)).setCell ⟨w.heap.size, 2, none⟩ (.slice none 0 0)) := (((Only.refl _ w3).setCell 0 _).setCell 1 _).setCell 2 _
    have bf := b3.trans (hon.below (Nat.le_refl _))
    clear hon g3 x3 hL
    go_wp2_with (first | (go_at_call 48; refine hE.mono ?_; rintro e w4 ⟨rfl, hw⟩; have hw2 := hw.symm; clear hw; subst hw2))
    refine bodyPost_ret (v := .tuple #[.agg #[.int .i64 0, .slice none 0 0, .slice none 0 0], .slice none 0 0, .int .i64 ue]) ?_ rfl ?_
    · simp only [results, Tryz.results25]
      go_simp
    · exact ⟨fun _ => rfl, fun h => absurd h he, fun h => absurd h he, bf⟩

end Go.Proofs.YtganajmhdpiipaaGreatDoor

namespace Go.Proofs.YtganajmhdpiipaaGreatDoor
open Go.RowKit

/-- Bytes stay where a block that holds none changes. -/
theorem HB.onlyC {w w' : World} {g : Nat} {v : Value} {l : List UInt8} {cs : Array Value} {t : TypeId} {fr : Nat × Nat} (h : HB w v l) (hg : w.heap[g]? = some (.cells cs t fr)) (hc : ∀ x ∈ cs.toList, ∀ y : UInt8, x ≠ bc y) (ho : Only g w w') : HB w' v l := by
  obtain ⟨p, cap, e, h1, h2, h3, h4⟩ := h
  refine ⟨p, cap, e, h1, h2, h3, fun hne => ?_⟩
  obtain ⟨b, o, e1, e2⟩ := h4 hne
  refine ⟨b, o, e1, fun i x hx => ?_⟩
  have hcx := e2 i x hx
  have hb : b ≠ g := by
    rintro rfl
    rw [cell_of_row w b (o + i) cs t fr hg] at hcx
    exact hc _ (Array.mem_toList_iff.2 (Array.mem_of_getElem? hcx)) x rfl
  rw [World.cell?_of_block (w := w) (ho.block b hb (cell_lt hcx))]
  exact hcx

theorem PA.onlyC {w w' : World} {g : Nat} {v : Value} {ls : List (List UInt8)} {cs : Array Value} {t : TypeId} {fr : Nat × Nat} (h : PA w v ls) (hpos : ∀ l ∈ ls, 0 < l.length) (hg : w.heap[g]? = some (.cells cs t fr)) (hc : ∀ x ∈ cs.toList, ∀ y : UInt8, x ≠ bc y) (hz : ∀ x ∈ cs.toList, ∀ q n c, x = Value.slice q n c → n = 0) (ho : Only g w w') : PA w' v ls := by
  obtain ⟨p, cap, vs, e, h1, h2, h3, h4, h5, h6⟩ := h
  refine ⟨p, cap, vs, e, h1, h2, h3, h4, fun hne => ?_, fun i x l hx hl => (h6 i x l hx hl).onlyC hg hc ho⟩
  obtain ⟨b, o, e1, e2⟩ := h5 hne
  refine ⟨b, o, e1, fun i x hx => ?_⟩
  have hcx := e2 i x hx
  have hi : i < ls.length := by have := (List.getElem?_eq_some_iff.1 hx).1; omega
  obtain ⟨l, hl⟩ : ∃ l, ls[i]? = some l := ⟨_, List.getElem?_eq_getElem hi⟩
  have hb : b ≠ g := by
    rintro rfl
    rw [cell_of_row w b (o + i) cs t fr hg] at hcx
    obtain ⟨q, c, hq⟩ := (h6 i x l hx hl).shape
    have := hz _ (Array.mem_toList_iff.2 (Array.mem_of_getElem? hcx)) q l.length c hq
    have := hpos l (List.mem_of_getElem? hl)
    omega
  rw [World.cell?_of_block (w := w) (ho.block b hb (cell_lt hcx))]
  exact hcx

theorem uintF_over (n : Nat) (more : List UInt8) (most : Int) (h : n ≤ 4611686018427387904) (hm : most < (n : Int)) : uintF (numL n ++ more) most = (4, 0, []) := by
  have h64 : n < 2 ^ 64 := by omega
  have hc := cnt_byte n h64
  have h8 := cnt_le8 n h64
  have hl := ndigs_length n
  unfold numL
  simp only [List.cons_append, uintF]
  rw [hc]
  have ht : (ndigs n ++ more).take (cnt n) = ndigs n := by rw [← hl, List.take_left]
  have hv := valL_digs 8 n (by rw [show (256 : Nat) ^ 8 = 2 ^ 64 from rfl]; exact h64) (Nat.le_refl _)
  rw [ht, hv, if_neg (by omega), if_neg (by rw [List.length_append]; omega), if_neg, if_neg (by omega), if_pos (by omega)]
  intro e
  cases hdg : ndigs n with
  | nil => rw [hdg] at e; cases e
  | cons d r =>
    rw [hdg] at e
    have := ndigs_head n h64 d r hdg
    simp at e
    exact this e

theorem row_at (N : Nat) : ∀ (ls : List (List UInt8)) (more : List UInt8) (j : Nat) (x : List UInt8), (∀ y ∈ ls, y.length = N) → ls[j]? = some x → rowB N (ls.flatten ++ more) j = x := by
  intro ls
  induction ls with
  | nil => intro more j x _ h; simp at h
  | cons y ls ih =>
    intro more j x hl hj
    have hy := hl y (List.mem_cons_self ..)
    unfold rowB
    cases j with
    | zero =>
      simp at hj
      subst hj
      rw [Nat.zero_mul, List.drop_zero, List.flatten_cons, List.append_assoc, ← hy, List.take_left]
    | succ j =>
      have := ih more j x (fun z hz => hl z (List.mem_cons_of_mem _ hz)) (by simpa using hj)
      unfold rowB at this
      rw [List.flatten_cons, List.append_assoc, Nat.succ_mul, Nat.add_comm, ← List.drop_drop]
      rw [show (y ++ (ls.flatten ++ more)).drop N = ls.flatten ++ more by rw [← hy, List.drop_left]]
      exact this

theorem rows_back (N : Nat) (ls : List (List UInt8)) (more : List UInt8) (h : ∀ y ∈ ls, y.length = N) : (List.range ls.length).map (rowB N (ls.flatten ++ more)) = ls := by
  apply List.ext_getElem?
  intro i
  by_cases hi : i < ls.length
  · obtain ⟨x, hx⟩ : ∃ x, ls[i]? = some x := ⟨_, List.getElem?_eq_getElem hi⟩
    rw [hx, List.getElem?_map, List.getElem?_range hi]
    simp only [Option.map_some]
    rw [row_at N ls more i x h hx]
  · rw [List.getElem?_eq_none (by simp; omega), List.getElem?_eq_none (by omega)]

theorem flat_all (N : Nat) (ls : List (List UInt8)) (h : ∀ y ∈ ls, y.length = N) : ls.flatten.length = ls.length * N := by
  induction ls with
  | nil => simp
  | cons y ls ih =>
    rw [List.flatten_cons, List.length_append, h y (List.mem_cons_self ..), ih (fun z hz => h z (List.mem_cons_of_mem _ hz)), List.length_cons, Nat.succ_mul]
    omega

theorem sized_nat {N : Nat} {ls : List (List UInt8)} (h : sizedB (N : Int) ls = true) : ∀ y ∈ ls, y.length = N := by
  intro y hy
  unfold sizedB at h
  have := List.all_eq_true.1 h y hy
  simp at this
  omega

end Go.Proofs.YtganajmhdpiipaaGreatDoor
