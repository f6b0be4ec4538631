/- What this text proves: the walk of annalslaw17.PathOne over this program: it answers true. (By program: held.py, mkpaone.py.) What this text proves: annalslaw17.PathOne answers true for every input: two ways of one identity under one hash show the same, or the first two of their texts that are unlike have one hash (the tied card). -/
import Derived.Test.YtahfjemllkbpgaaGreatDoorJF1
import Derived.Test.YtahfjemllkbpgaaGreatDoorJT1
import Derived.Test.YtahfjemllkbpgaaGreatDoorJOpenPath
namespace Go.Proofs.YtahfjemllkbpgaaGreatDoor
open Go.RowKit

theorem parts_here {size : Int} {L M : List (List UInt8)} {k : Nat} {a b : List UInt8} (h : partsAt size L M) (he : ∀ j, j < k → L[j]? = M[j]?) (ha : L[k]? = some a) (hb : M[k]? = some b) (hne : a ≠ b) : cutT size a = cutT size b := by
  obtain ⟨i, c, d, h1, h2, h3, h4, h5⟩ := h
  rcases Nat.lt_trichotomy i k with q | q | q
  · have := he i q
    rw [h1, h2] at this
    exact absurd (Option.some.inj this) h3
  · subst q
    rw [ha] at h1
    rw [hb] at h2
    rw [Option.some.inj h1, Option.some.inj h2]
    exact h4
  · have := h5 k q
    rw [ha, hb] at this
    exact absurd (Option.some.inj this) hne

theorem parts_end {size : Int} {L M : List (List UInt8)} {k : Nat} (h : partsAt size L M) (he : ∀ j, j < k → L[j]? = M[j]?) (hk : min L.length M.length ≤ k) : False := by
  obtain ⟨i, c, d, h1, h2, h3, h4, h5⟩ := h
  have l1 := (List.getElem?_eq_some_iff.1 h1).1
  have l2 := (List.getElem?_eq_some_iff.1 h2).1
  have := he i (by omega)
  rw [h1, h2] at this
  exact h3 (Option.some.inj this)

theorem textsW_small (size : Int) (id : List UInt8) (hs : List Hp) (x : Pt) : ∀ t ∈ textsW size id hs x, t.length ≤ 1000 := by
  intro t ht
  unfold textsW at ht
  split at ht
  · rename_i h
    exact textsW_le size id hs x h t ht
  · cases ht

set_option maxRecDepth 100000 in
set_option maxHeartbeats 16000000 in
theorem pathOne_any (size : Int) (rv iv hv gv : Value) (rt id : List UInt8) (hs gs : List Hp) (x y : Pt) (pi pk pp pl pr pq qi qk qp ql qr qq : Option Addr) (ci ck cp cl cr cq di dk dp dl dr dq : Nat) (w : World) (hrt : HB w rv rt) (hid : HB w iv id)
    (hh : HA w hv hs) (h1 : HB w (.slice pi x.id.length ci) x.id) (h2 : HB w (.slice pk x.key.length ck) x.key) (h3 : HB w (.slice pp x.pre.length cp) x.pre) (h4 : HB w (.slice pl x.l.length cl) x.l) (h5 : HB w (.slice pr x.r.length cr) x.r)
    (gg : HA w gv gs) (g1 : HB w (.slice qi y.id.length di) y.id) (g2 : HB w (.slice qk y.key.length dk) y.key) (g3 : HB w (.slice qp y.pre.length dp) y.pre) (g4 : HB w (.slice ql y.l.length dl) y.l) (g5 : HB w (.slice qr y.r.length dr) y.r) (hT : Tabs w) :
    Calls Tryz.prog 4 #[.int .i64 size, rv, iv, .agg #[hv, .int .i64 x.k, .slice pi x.id.length ci, .slice pk x.key.length ck, .int .i64 x.si, .int .i64 x.d, .slice pp x.pre.length cp, .int .i64 x.nw, .slice pl x.l.length cl, .slice pr x.r.length cr, .slice pq x.kids cq], .agg #[gv, .int .i64 y.k, .slice qi y.id.length di, .slice qk y.key.length dk, .int .i64 y.si, .int .i64 y.d, .slice qp y.pre.length dp, .int .i64 y.nw, .slice ql y.l.length dl, .slice qr y.r.length dr, .slice qq y.kids dq]] w fun e w' => e = .returned (.bool true) ∧ Below w.heap.size w w' := by
  obtain ⟨prt, crt, rfl⟩ := hrt.shape
  obtain ⟨pv, cv, rfl⟩ := hid.shape
  obtain ⟨ph, ch, rfl⟩ := hh.shape
  obtain ⟨qh, dh, rfl⟩ := gg.shape
  have hAw := fun W h => paAwake_any W h
  have bP := (Below.refl w.heap.size w).alloc (Nat.le_refl _) (.cells #[.slice ph hs.length ch, .int .i64 x.k, .slice pi x.id.length ci, .slice pk x.key.length ck, .int .i64 x.si, .int .i64 x.d, .slice pp x.pre.length cp, .int .i64 x.nw, .slice pl x.l.length cl, .slice pr x.r.length cr, .slice pq x.kids cq] 28)
  have gP := heap_alloc_new w (.cells #[.slice ph hs.length ch, .int .i64 x.k, .slice pi x.id.length ci, .slice pk x.key.length ck, .int .i64 x.si, .int .i64 x.d, .slice pp x.pre.length cp, .int .i64 x.nw, .slice pl x.l.length cl, .slice pr x.r.length cr, .slice pq x.kids cq] 28)
  have sP : (w.alloc (.cells #[.slice ph hs.length ch, .int .i64 x.k, .slice pi x.id.length ci, .slice pk x.key.length ck, .int .i64 x.si, .int .i64 x.d, .slice pp x.pre.length cp, .int .i64 x.nw, .slice pl x.l.length cl, .slice pr x.r.length cr, .slice pq x.kids cq] 28)).heap.size = w.heap.size + 1 := by simp
  obtain ⟨V1, hV1⟩ : ∃ V1, w.alloc (.cells #[.slice ph hs.length ch, .int .i64 x.k, .slice pi x.id.length ci, .slice pk x.key.length ck, .int .i64 x.si, .int .i64 x.d, .slice pp x.pre.length cp, .int .i64 x.nw, .slice pl x.l.length cl, .slice pr x.r.length cr, .slice pq x.kids cq] 28) = V1 := ⟨_, rfl⟩
  rw [hV1] at bP gP sP
  have bQ : Below V1.heap.size V1 (V1.alloc (.cells #[.slice qh gs.length dh, .int .i64 y.k, .slice qi y.id.length di, .slice qk y.key.length dk, .int .i64 y.si, .int .i64 y.d, .slice qp y.pre.length dp, .int .i64 y.nw, .slice ql y.l.length dl, .slice qr y.r.length dr, .slice qq y.kids dq] 28)) := (Below.refl _ V1).alloc (Nat.le_refl _) _
  have gQ := heap_alloc_new V1 (.cells #[.slice qh gs.length dh, .int .i64 y.k, .slice qi y.id.length di, .slice qk y.key.length dk, .int .i64 y.si, .int .i64 y.d, .slice qp y.pre.length dp, .int .i64 y.nw, .slice ql y.l.length dl, .slice qr y.r.length dr, .slice qq y.kids dq] 28)
  have sQ : (V1.alloc (.cells #[.slice qh gs.length dh, .int .i64 y.k, .slice qi y.id.length di, .slice qk y.key.length dk, .int .i64 y.si, .int .i64 y.d, .slice qp y.pre.length dp, .int .i64 y.nw, .slice ql y.l.length dl, .slice qr y.r.length dr, .slice qq y.kids dq] 28)).heap.size = V1.heap.size + 1 := by simp
  obtain ⟨V, hV⟩ : ∃ V, V1.alloc (.cells #[.slice qh gs.length dh, .int .i64 y.k, .slice qi y.id.length di, .slice qk y.key.length dk, .int .i64 y.si, .int .i64 y.d, .slice qp y.pre.length dp, .int .i64 y.nw, .slice ql y.l.length dl, .slice qr y.r.length dr, .slice qq y.kids dq] 28) = V := ⟨_, rfl⟩
  rw [hV] at bQ gQ sQ
  have gP' := (bQ.block _ (by omega)).trans gP
  have bV := bP.trans (bQ.mono bP.size)
  have hbP : ∀ W, Below V.heap.size V W → W.heap[w.heap.size]? = some (.cells #[.slice ph hs.length ch, .int .i64 x.k, .slice pi x.id.length ci, .slice pk x.key.length ck, .int .i64 x.si, .int .i64 x.d, .slice pp x.pre.length cp, .int .i64 x.nw, .slice pl x.l.length cl, .slice pr x.r.length cr, .slice pq x.kids cq] 28 (0, 0)) := fun W hb => (hb.block _ (Array.getElem?_eq_some_iff.1 gP').1).trans gP'
  have hbQ : ∀ W, Below V.heap.size V W → W.heap[V1.heap.size]? = some (.cells #[.slice qh gs.length dh, .int .i64 y.k, .slice qi y.id.length di, .slice qk y.key.length dk, .int .i64 y.si, .int .i64 y.d, .slice qp y.pre.length dp, .int .i64 y.nw, .slice ql y.l.length dl, .slice qr y.r.length dr, .slice qq y.kids dq] 28 (0, 0)) := fun W hb => (hb.block _ (Array.getElem?_eq_some_iff.1 gQ).1).trans gQ
  obtain ⟨p0, p1, p2, p3, p4, p5, p6, p7, p8, p9, p10⟩ := cells11 gP'
  obtain ⟨q0, q1, q2, q3, q4, q5, q6, q7, q8, q9, q10⟩ := cells11 gQ
  have hX1' := fun W (hb : Below V.heap.size V W) (hN : hs.length ≤ 1000) => texts_any17 size (.slice pv id.length cv) (.slice ph hs.length ch) id hs x pi pk pp pl pr pq ci ck cp cl cr cq W (hid.later (bV.trans (hb.mono bV.size))) (hh.later (bV.trans (hb.mono bV.size))) (h1.later (bV.trans (hb.mono bV.size))) (h2.later (bV.trans (hb.mono bV.size))) (h3.later (bV.trans (hb.mono bV.size))) (h4.later (bV.trans (hb.mono bV.size))) (h5.later (bV.trans (hb.mono bV.size))) hN (hT.later (bV.trans (hb.mono bV.size)))
  have hX2' := fun W (hb : Below V.heap.size V W) (hN : gs.length ≤ 1000) => texts_any17 size (.slice pv id.length cv) (.slice qh gs.length dh) id gs y qi qk qp ql qr qq di dk dp dl dr dq W (hid.later (bV.trans (hb.mono bV.size))) (gg.later (bV.trans (hb.mono bV.size))) (g1.later (bV.trans (hb.mono bV.size))) (g2.later (bV.trans (hb.mono bV.size))) (g3.later (bV.trans (hb.mono bV.size))) (g4.later (bV.trans (hb.mono bV.size))) (g5.later (bV.trans (hb.mono bV.size))) hN (hT.later (bV.trans (hb.mono bV.size)))
  have hF1 := fun W (hb : Below V.heap.size V W) (hN : hs.length ≤ 1000) => find_any17 size (.slice prt rt.length crt) (.slice pv id.length cv) (.slice ph hs.length ch) rt id hs x pi pk pp pl pr pq ci ck cp cl cr cq W (hrt.later (bV.trans (hb.mono bV.size))) (hid.later (bV.trans (hb.mono bV.size))) (hh.later (bV.trans (hb.mono bV.size))) (h1.later (bV.trans (hb.mono bV.size))) (h2.later (bV.trans (hb.mono bV.size))) (h3.later (bV.trans (hb.mono bV.size))) (h4.later (bV.trans (hb.mono bV.size))) (h5.later (bV.trans (hb.mono bV.size))) hN (hT.later (bV.trans (hb.mono bV.size)))
  have hF2 := fun W (hb : Below V.heap.size V W) (hN : gs.length ≤ 1000) => find_any17 size (.slice prt rt.length crt) (.slice pv id.length cv) (.slice qh gs.length dh) rt id gs y qi qk qp ql qr qq di dk dp dl dr dq W (hrt.later (bV.trans (hb.mono bV.size))) (hid.later (bV.trans (hb.mono bV.size))) (gg.later (bV.trans (hb.mono bV.size))) (g1.later (bV.trans (hb.mono bV.size))) (g2.later (bV.trans (hb.mono bV.size))) (g3.later (bV.trans (hb.mono bV.size))) (g4.later (bV.trans (hb.mono bV.size))) (g5.later (bV.trans (hb.mono bV.size))) hN (hT.later (bV.trans (hb.mono bV.size)))
  have HD : Hid (okW size rt id hs x = true → okW size rt id gs y = true → (foundW size rt id hs x = foundW size rt id gs y ∧ itW (foundW size rt id hs x) x = itW (foundW size rt id gs y) y) ∨ partsAt size (textsW size id hs x) (textsW size id gs y)) := fun a b => one_dich size rt id hs gs x y a b
  have HLB : Hid (∀ t ∈ textsW size id hs x, t.length ≤ 1000) := textsW_small size id hs x
  have HMB : Hid (∀ t ∈ textsW size id gs y, t.length ≤ 1000) := textsW_small size id gs y
  generalize textsW size id hs x = L at *
  generalize textsW size id gs y = M at *
  generalize itW (foundW size rt id hs x) x = IT1 at *
  generalize itW (foundW size rt id gs y) y = IT2 at *
  generalize foundW size rt id hs x = F1 at *
  generalize foundW size rt id gs y = F2 at *
  generalize okW size rt id hs x = O1 at *
  generalize okW size rt id gs y = O2 at *
  obtain ⟨I1, K1, S1⟩ := IT1
  obtain ⟨I2, K2, S2⟩ := IT2
  dsimp only at *
  clear gP gP' gQ bP bQ sP sQ hrt hid hh gg h1 h2 h3 h4 h5 g1 g2 g3 g4 g5
  by_cases n1 : hs.length ≤ 300
  · by_cases n2 : gs.length ≤ 300
    · have t1 : decide ((300 : Int) < (hs.length : Int)) = false := by simp; omega
      have t2 : decide ((300 : Int) < (gs.length : Int)) = false := by simp; omega
      replace hX1' := fun W hb => hX1' W hb (by omega)
      replace hX2' := fun W hb => hX2' W hb (by omega)
      replace hF1 := fun W hb => hF1 W hb (by omega)
      replace hF2 := fun W hb => hF2 W hb (by omega)
      go_enter Tryz.func4, Tryz.ntmps4
      go_wp2_with fail
      refine (hF1 _ (Below.refl _ _)).mono ?_
      rintro e w1 ⟨pa, ca, pb, cb, rfl, kI1, kK1, hb1⟩
      clear hF1 p0 p1 p2 p3 p4 p5 p6 p7 p8 p9 p10 q0 q1 q2 q3 q4 q5 q6 q7 q8 q9 q10
      have bU1 : Below w1.heap.size w1 (w1.alloc (.cells #[.slice pa I1.length ca, .slice pb K1.length cb, .int .i64 S1] 31)) := (Below.refl _ w1).alloc (Nat.le_refl _) _
      have gU1 := heap_alloc_new w1 (.cells #[.slice pa I1.length ca, .slice pb K1.length cb, .int .i64 S1] 31)
      obtain ⟨U1, hU1⟩ : ∃ U1, w1.alloc (.cells #[.slice pa I1.length ca, .slice pb K1.length cb, .int .i64 S1] 31) = U1 := ⟨_, rfl⟩
      rw [hU1] at bU1 gU1
      have lU1 : w1.heap.size < U1.heap.size := (Array.getElem?_eq_some_iff.1 gU1).1
      have b1 := hb1.trans (bU1.mono hb1.size)
      obtain ⟨q0, q1, q2, q3, q4, q5, q6, q7, q8, q9, q10⟩ := cells11 (hbQ U1 b1)
      go_wp2_with fail
      refine (hF2 _ b1).mono ?_
      rintro e w2 ⟨pc, cc, pd, cd, rfl, kI2, kK2, hb2⟩
      clear hF2 q0 q1 q2 q3 q4 q5 q6 q7 q8 q9 q10 hU1
      have bU2 : Below w2.heap.size w2 (w2.alloc (.cells #[.slice pc I2.length cc, .slice pd K2.length cd, .int .i64 S2] 31)) := (Below.refl _ w2).alloc (Nat.le_refl _) _
      have gU2 := heap_alloc_new w2 (.cells #[.slice pc I2.length cc, .slice pd K2.length cd, .int .i64 S2] 31)
      obtain ⟨U2, hU2⟩ : ∃ U2, w2.alloc (.cells #[.slice pc I2.length cc, .slice pd K2.length cd, .int .i64 S2] 31) = U2 := ⟨_, rfl⟩
      rw [hU2] at bU2 gU2
      have bU12 := hb2.trans (bU2.mono hb2.size)
      have gU1' := (bU12.block _ lU1).trans gU1
      have bVU := b1.trans (bU12.mono b1.size)
      have bWU := bV.trans (bVU.mono bV.size)
      have i0 : U2.cell? ⟨w1.heap.size, 0, none⟩ = some (.slice pa I1.length ca) := by rw [cell_of_row _ _ _ _ _ _ gU1']; rfl
      have i1 : U2.cell? ⟨w1.heap.size, 1, none⟩ = some (.slice pb K1.length cb) := by rw [cell_of_row _ _ _ _ _ _ gU1']; rfl
      have i2 : U2.cell? ⟨w1.heap.size, 2, none⟩ = some (.int .i64 S1) := by rw [cell_of_row _ _ _ _ _ _ gU1']; rfl
      have j0 : U2.cell? ⟨w2.heap.size, 0, none⟩ = some (.slice pc I2.length cc) := by rw [cell_of_row _ _ _ _ _ _ gU2]; rfl
      have j1 : U2.cell? ⟨w2.heap.size, 1, none⟩ = some (.slice pd K2.length cd) := by rw [cell_of_row _ _ _ _ _ _ gU2]; rfl
      have j2 : U2.cell? ⟨w2.heap.size, 2, none⟩ = some (.int .i64 S2) := by rw [cell_of_row _ _ _ _ _ _ gU2]; rfl
      replace kI1 := kI1.later (bU1.trans (bU12.mono bU1.size))
      replace kK1 := kK1.later (bU1.trans (bU12.mono bU1.size))
      replace kI2 := kI2.later bU2
      replace kK2 := kK2.later bU2
      clear gU1 gU2 gU1' bU1 bU2 hb1 hb2 b1 bU12 lU1
      cases O1 with
      | false =>
        clear HD HLB HMB hX1' hX2' hbP hbQ i0 i1 i2 j0 j1 j2 kI1 kK1 kI2 kK2
        cases O2 with
        | false =>
          simp only [errW]
          go_wp2_with (first | (go_at_call 5; refine (hAw _ (hT.later bWU)).mono ?_; rintro e wa ⟨rfl, hba⟩))
          have HW := (bWU).trans (hba.mono (bWU).size)
          clear hba
          go_wp2
          go_ret
          exact ⟨rfl, HW⟩
        | true =>
          simp only [errW]
          go_wp2_with (first | (go_at_call 5; refine (hAw _ (hT.later bWU)).mono ?_; rintro e wa ⟨rfl, hba⟩))
          have HW := (bWU).trans (hba.mono (bWU).size)
          clear hba
          go_wp2
          go_ret
          exact ⟨rfl, HW⟩
      | true =>
        cases O2 with
        | false =>
          clear HD HLB HMB hX1' hX2' hbP hbQ i0 i1 i2 j0 j1 j2 kI1 kK1 kI2 kK2
          simp only [errW]
          go_wp2_with (first | (go_at_call 5; refine (hAw _ (hT.later bWU)).mono ?_; rintro e wa ⟨rfl, hba⟩))
          have HW := (bWU).trans (hba.mono (bWU).size)
          clear hba
          go_wp2
          go_ret
          exact ⟨rfl, HW⟩
        | true =>
          have HE : Hid ((F1 = F2 ∧ (I1, K1, S1) = (I2, K2, S2)) ∨ partsAt size L M) := HD.out rfl rfl
          clear HD
          simp only [errW]
          by_cases hF : F1 = F2
          · by_cases hI : (I1, K1, S1) = (I2, K2, S2)
            · have hS := sameItem_any pa pb pc pd ca cb cc cd I1 K1 I2 K2 S1 S2 U2 kI1 kK1 kI2 kK2
              rw [decide_eq_true hI] at hS
              have tF : (F1 == F2) = true := by simpa using hF
              clear HE HLB HMB hX1' hX2' hbP hbQ hI
              go_wp2_with fail
              refine hS.mono ?_
              rintro e w3 ⟨rfl, hb3⟩
              have b3 := bWU.trans (hb3.mono bWU.size)
              clear hS hb3 i0 i1 i2 j0 j1 j2 kI1 kK1 kI2 kK2
              go_wp2_with (first | (go_at_call 5; refine (hAw _ (hT.later b3)).mono ?_; rintro e wa ⟨rfl, hba⟩))
              have HW := (b3).trans (hba.mono (b3).size)
              clear hba
              go_wp2
              go_ret
              exact ⟨rfl, HW⟩
            · have HPA : Hid (partsAt size L M) := by
                rcases HE.out with h | h
                · exact absurd h.2 hI
                · exact h
              have hS := sameItem_any pa pb pc pd ca cb cc cd I1 K1 I2 K2 S1 S2 U2 kI1 kK1 kI2 kK2
              rw [decide_eq_false hI] at hS
              have tF : (F1 == F2) = true := by simpa using hF
              clear HE hI
              go_wp2_with fail
              refine hS.mono ?_
              rintro e w3 ⟨rfl, hb3⟩
              clear hS i0 i1 i2 j0 j1 j2 kI1 kK1 kI2 kK2 hU2
              replace bVU := bVU.trans (hb3.mono bVU.size)
              clear hb3 bWU tF hF
              generalize w3 = U2 at *
              go_wp2
              have bD : Below U2.heap.size U2 U2.drew := (Below.refl _ U2).drew
              have hHeld := And.intro (hbP _ (bVU.trans (bD.mono bVU.size))) (hbQ _ (bVU.trans (bD.mono bVU.size)))
              have hX1 := hX1'
              have hX2 := hX2'
              clear hX1' hX2'
              refine wp_region_heldN (by kernel_rfl) (fun W => W.heap[w.heap.size]? = some (.cells #[.slice ph hs.length ch, .int .i64 x.k, .slice pi x.id.length ci, .slice pk x.key.length ck, .int .i64 x.si, .int .i64 x.d, .slice pp x.pre.length cp, .int .i64 x.nw, .slice pl x.l.length cl, .slice pr x.r.length cr, .slice pq x.kids cq] 28 (0, 0)) ∧ W.heap[V1.heap.size]? = some (.cells #[.slice qh gs.length dh, .int .i64 y.k, .slice qi y.id.length di, .slice qk y.key.length dk, .int .i64 y.si, .int .i64 y.d, .slice qp y.pre.length dp, .int .i64 y.nw, .slice ql y.l.length dl, .slice qr y.r.length dr, .slice qq y.kids dq] 28 (0, 0))) 10 rfl ?_
              refine tkY 0 ⟨some 66, .move (.tmp 0), 3, "law.go:108", #[], none⟩ ?v0z1 hHeld ?y0z1 ?r0z1
              case y0z1 => (intro w hSw; (try dsimp only at hSw); go_simp) <;> with_reducible rfl
              try simp only [Act.put, List.setIfInBounds_toArray, List.set_cons_zero, List.set_cons_succ]
              refine tkY 1 ⟨some 67, .move (.tmp 2), 22, "law.go:108", #[], none⟩ ?v1z2 hHeld ?y1z2 ?r1z2
              case y1z2 => (intro w hSw; (try dsimp only at hSw); go_simp) <;> with_reducible rfl
              try simp only [Act.put, List.setIfInBounds_toArray, List.set_cons_zero, List.set_cons_succ]
              refine tkY 2 ⟨some 68, .load 28 (.tmp 8), 28, "law.go:108", #[], none⟩ ?v2z3 hHeld ?y2z3 ?r2z3
              case y2z3 => (intro w hSw; (try dsimp only at hSw); obtain ⟨a0, a1, a2, a3, a4, a5, a6, a7, a8, a9, a10⟩ := cells11 hSw.1; go_simp) <;> with_reducible rfl
              try simp only [Act.put, List.setIfInBounds_toArray, List.set_cons_zero, List.set_cons_succ]
              refine tkY 4 ⟨some 70, .move (.tmp 0), 3, "law.go:108", #[], none⟩ ?v4z4 hHeld ?y4z4 ?r4z4
              case y4z4 => (intro w hSw; (try dsimp only at hSw); go_simp) <;> with_reducible rfl
              try simp only [Act.put, List.setIfInBounds_toArray, List.set_cons_zero, List.set_cons_succ]
              refine tkY 5 ⟨some 71, .move (.tmp 2), 22, "law.go:108", #[], none⟩ ?v5z5 hHeld ?y5z5 ?r5z5
              case y5z5 => (intro w hSw; (try dsimp only at hSw); go_simp) <;> with_reducible rfl
              try simp only [Act.put, List.setIfInBounds_toArray, List.set_cons_zero, List.set_cons_succ]
              refine tkY 6 ⟨some 72, .load 28 (.tmp 9), 28, "law.go:108", #[], none⟩ ?v6z6 hHeld ?y6z6 ?r6z6
              case y6z6 => (intro w hSw; (try dsimp only at hSw); obtain ⟨a0, a1, a2, a3, a4, a5, a6, a7, a8, a9, a10⟩ := cells11 hSw.2; go_simp) <;> with_reducible rfl
              try simp only [Act.put, List.setIfInBounds_toArray, List.set_cons_zero, List.set_cons_succ]
              refine wpAnyH_ready (rs := [3]) (by kernel_rfl) (by simp) ?_
              refine AllReadyH.cons (o := ⟨some 69, .call { callee := .value (.func 12), args := #[.tmp 66, .tmp 67, .tmp 68], argTypes := #[3, 22, 28] }, 38, "law.go:108", #[⟨0, .data⟩, ⟨1, .data⟩, ⟨2, .data⟩], none⟩) rfl (fun K hK => ?_) AllReadyH.nil
              go_simp
              refine (hX1 _ (bVU.trans (bD.mono bVU.size))).mono ?_
              rintro z w5 ⟨p5, c5, rfl, k5, hb5'⟩
              have hb5 := (bVU.trans (bD.mono bVU.size)).trans (hb5'.mono (bVU.trans (bD.mono bVU.size)).size)
              replace hHeld := And.intro (hbP w5 hb5) (hbQ w5 hb5)
              refine hK.out _ _ ?_ (fun _ => ?_)
              · exact hHeld
              clear hK K
              try simp only [Act.put, List.setIfInBounds_toArray, List.set_cons_zero, List.set_cons_succ]
              refine wpAnyH_ready (rs := [7]) (by kernel_rfl) (by simp) ?_
              refine AllReadyH.cons (o := ⟨some 73, .call { callee := .value (.func 12), args := #[.tmp 70, .tmp 71, .tmp 72], argTypes := #[3, 22, 28] }, 38, "law.go:108", #[⟨4, .data⟩, ⟨5, .data⟩, ⟨6, .data⟩, ⟨3, .chain⟩], none⟩) rfl (fun K hK => ?_) AllReadyH.nil
              go_simp
              refine (hX2 _ hb5).mono ?_
              rintro z w6 ⟨p6, c6, rfl, k6, hb6'⟩
              have hb6 := hb5.trans (hb6'.mono hb5.size)
              have k5' := k5.later hb6'
              replace hHeld := And.intro (hbP w6 hb6) (hbQ w6 hb6)
              refine hK.out _ _ ?_ (fun _ => ?_)
              · exact hHeld
              clear hK K
              try simp only [Act.put, List.setIfInBounds_toArray, List.set_cons_zero, List.set_cons_succ]
              refine tkY 8 ⟨some 17, .assign (.tmp 69), 38, "law.go:108", #[⟨3, .data⟩, ⟨7, .chain⟩, ⟨0, .phase⟩, ⟨1, .phase⟩, ⟨2, .phase⟩, ⟨3, .phase⟩, { on := 4, ground := .textOnly .lateStores }, { on := 5, ground := .textOnly .lateStores }, { on := 6, ground := .textOnly .lateStores }, { on := 7, ground := .textOnly .lateStoresUnsure }], none⟩ ?v8z7 hHeld ?y8z7 ?r8z7
              case y8z7 => (intro w hSw; (try dsimp only at hSw); go_simp) <;> with_reducible rfl
              try simp only [Act.put, List.setIfInBounds_toArray, List.set_cons_zero, List.set_cons_succ]
              refine tkY 9 ⟨some 18, .assign (.tmp 73), 38, "law.go:108", #[⟨7, .data⟩, ⟨8, .chain⟩, ⟨0, .phase⟩, ⟨1, .phase⟩, ⟨2, .phase⟩, ⟨3, .phase⟩, ⟨4, .phase⟩, ⟨5, .phase⟩, ⟨6, .phase⟩, ⟨7, .phase⟩, ⟨8, .phase⟩], none⟩ ?v9z8 hHeld ?y9z8 ?r9z8
              case y9z8 => (intro w hSw; (try dsimp only at hSw); go_simp) <;> with_reducible rfl
              try simp only [Act.put, List.setIfInBounds_toArray, List.set_cons_zero, List.set_cons_succ]
              refine wpAnyH_done (by kernel_rfl) ?_ _
              clear hHeld hX1 hX2 hbP hbQ bD bVU hb5 hb5' hb6' k5
              have b6 := bV.trans (hb6.mono bV.size)
              clear hb6 bV
              obtain ⟨Z, hZ⟩ : ∃ Z : Nat, Z = min L.length M.length := ⟨_, rfl⟩
              have hmin : min (L.length : Int) (M.length : Int) = (Z : Int) := by omega
              have hZ1 : Z ≤ L.length := by omega
              have hZ2 : Z ≤ M.length := by omega
              have HZZ : Hid (Z = min L.length M.length) := hZ
              clear hZ
              have hml := k5'.len
              have hmm := k6.len
              unfold maxLen at hml hmm
              have hZ3 : Z ≤ 9223372036854775807 := by omega
              go_wp2
              go_loopw [79] (fun i wr => ∃ k : Nat, k ≤ Z ∧ i = .int .i64 k ∧ Hid (∀ j, j < k → L[j]? = M[j]?) ∧ Below w6.heap.size w6 wr) (fun i _ => Z - (intOf i).toNat)
              case atStart => exact ⟨0, Nat.zero_le _, rfl, fun j hj => absurd hj (by omega), Below.refl _ _⟩
              case round =>
                obtain ⟨k, hk, rfl, HEQ, hbe⟩ := hrel
                have bwr := b6.trans (hbe.mono b6.size)
                by_cases hlt : k < Z
                · obtain ⟨bl, ol, rfl⟩ := k5'.addr (by omega)
                  obtain ⟨bm, om, rfl⟩ := k6.addr (by omega)
                  obtain ⟨ql1, kl1, la, hla, cA, hA1⟩ := (k5'.later hbe).get k (by omega)
                  obtain ⟨qm1, km1, mb, hmb, cB, hB1⟩ := (k6.later hbe).get k (by omega)
                  have hkl : k < L.length := by omega
                  have hkm : k < M.length := by omega
                  have bD1 : Below wr.heap.size wr wr.drew := (Below.refl _ wr).drew
                  have hHeld : wr.drew.cell? ⟨bl, ol + k, none⟩ = some (.slice ql1 la.length kl1) ∧ wr.drew.cell? ⟨bm, om + k, none⟩ = some (.slice qm1 mb.length km1) := ⟨cell_later bD1 cA, cell_later bD1 cB⟩
                  by_cases hab : la = mb
                  · have hEQ : (la == mb) = true := by rw [hab]; simp
                    have HNX : Hid (∀ j, j < k + 1 → L[j]? = M[j]?) := by
                      intro j hj
                      rcases Nat.lt_or_ge j k with h | h
                      · exact HEQ.out j h
                      · obtain rfl : j = k := by omega
                        rw [hla.out, hmb.out, hab]
                    clear HEQ hla hmb hab HZZ HPA
                    go_wp2
                    refine wp_region_heldN (by kernel_rfl) (fun W => W.cell? ⟨bl, ol + k, none⟩ = some (.slice ql1 la.length kl1) ∧ W.cell? ⟨bm, om + k, none⟩ = some (.slice qm1 mb.length km1)) 10 rfl ?_
                    refine tkY 0 ⟨some 82, .move (.tmp 17), 38, "law.go:110", #[], none⟩ ?v0z9 hHeld ?y0z9 ?r0z9
                    case y0z9 => (intro w hSw; (try dsimp only at hSw); go_simp) <;> with_reducible rfl
                    try simp only [Act.put, List.setIfInBounds_toArray, List.set_cons_zero, List.set_cons_succ]
                    refine tkY 1 ⟨some 83, .move (.tmp 19), 3, "law.go:110", #[], none⟩ ?v1z10 hHeld ?y1z10 ?r1z10
                    case y1z10 => (intro w hSw; (try dsimp only at hSw); go_simp) <;> with_reducible rfl
                    try simp only [Act.put, List.setIfInBounds_toArray, List.set_cons_zero, List.set_cons_succ]
                    refine tkY 2 ⟨some 84, .indexAddr 38 (.tmp 82) (.tmp 83), 0, "law.go:110", #[⟨0, .data⟩, ⟨1, .data⟩], none⟩ ?v2z11 hHeld ?y2z11 ?r2z11
                    case y2z11 => (intro w hSw; (try dsimp only at hSw); go_simp) <;> with_reducible rfl
                    try simp only [Act.put, List.setIfInBounds_toArray, List.set_cons_zero, List.set_cons_succ]
                    refine tkY 3 ⟨some 85, .load 22 (.tmp 84), 22, "law.go:110", #[⟨2, .data⟩], none⟩ ?v3z12 hHeld ?y3z12 ?r3z12
                    case y3z12 => (intro w hSw; (try dsimp only at hSw); go_simp) <;> with_reducible rfl
                    try simp only [Act.put, List.setIfInBounds_toArray, List.set_cons_zero, List.set_cons_succ]
                    refine tkY 4 ⟨some 86, .move (.tmp 18), 38, "law.go:110", #[], none⟩ ?v4z13 hHeld ?y4z13 ?r4z13
                    case y4z13 => (intro w hSw; (try dsimp only at hSw); go_simp) <;> with_reducible rfl
                    try simp only [Act.put, List.setIfInBounds_toArray, List.set_cons_zero, List.set_cons_succ]
                    refine tkY 5 ⟨some 87, .move (.tmp 19), 3, "law.go:110", #[], none⟩ ?v5z14 hHeld ?y5z14 ?r5z14
                    case y5z14 => (intro w hSw; (try dsimp only at hSw); go_simp) <;> with_reducible rfl
                    try simp only [Act.put, List.setIfInBounds_toArray, List.set_cons_zero, List.set_cons_succ]
                    refine tkY 6 ⟨some 88, .indexAddr 38 (.tmp 86) (.tmp 87), 0, "law.go:110", #[⟨4, .data⟩, ⟨5, .data⟩], none⟩ ?v6z15 hHeld ?y6z15 ?r6z15
                    case y6z15 => (intro w hSw; (try dsimp only at hSw); go_simp) <;> with_reducible rfl
                    try simp only [Act.put, List.setIfInBounds_toArray, List.set_cons_zero, List.set_cons_succ]
                    refine tkY 7 ⟨some 89, .load 22 (.tmp 88), 22, "law.go:110", #[⟨6, .data⟩], none⟩ ?v7z16 hHeld ?y7z16 ?r7z16
                    case y7z16 => (intro w hSw; (try dsimp only at hSw); go_simp) <;> with_reducible rfl
                    try simp only [Act.put, List.setIfInBounds_toArray, List.set_cons_zero, List.set_cons_succ]
                    refine wpAnyH_ready (rs := [8]) (by kernel_rfl) (by simp) ?_
                    refine AllReadyH.cons (o := ⟨some 90, .call { callee := .value (.func 14), args := #[.tmp 85, .tmp 89], argTypes := #[22, 22] }, 4, "law.go:110", #[⟨3, .data⟩, ⟨7, .data⟩], none⟩) rfl (fun K hK => ?_) AllReadyH.nil
                    go_simp
                    refine (equal_any _ _ la mb _ (hA1.later bD1) (hB1.later bD1)).mono ?_
                    rintro z w9 ⟨rfl, hw9⟩
                    rw [hEQ, hw9]
                    refine hK.out _ _ ?_ (fun _ => ?_)
                    · exact hHeld
                    clear hK K
                    try simp only [Act.put, List.setIfInBounds_toArray, List.set_cons_zero, List.set_cons_succ]
                    refine tkY 9 ⟨some 91, .unOp .not 4 (.tmp 90), 4, "law.go:110", #[⟨8, .data⟩], none⟩ ?v9z17 hHeld ?y9z17 ?r9z17
                    case y9z17 => (intro w hSw; (try dsimp only at hSw); go_simp) <;> with_reducible rfl
                    try simp only [Act.put, List.setIfInBounds_toArray, List.set_cons_zero, List.set_cons_succ]
                    refine wpAnyH_done (by kernel_rfl) ?_ _
                    clear hHeld hw9 hAw
                    have bn := hbe.trans (bD1.mono hbe.size)
                    clear bD1 hbe
                    go_wp2
                    go_roundw
                    case rel => first | exact ⟨k + 1, by omega, by go_num, HNX, bn⟩ | ((repeat apply Exists.intro); exact ⟨⟨k + 1, by omega, by go_num, HNX, bn⟩, rfl⟩)
                    case measure => simp [intOf]; omega
                  · have hEQ : (la == mb) = false := by simpa using hab
                    have HCUT : Hid (cutT size la = cutT size mb) := parts_here HPA.out HEQ.out hla.out hmb.out hab
                    have hla1 := HLB.out la (List.mem_of_getElem? hla.out)
                    have hmb1 := HMB.out mb (List.mem_of_getElem? hmb.out)
                    have hC1 := fun W q1 q2 => cutT_any size (.slice ql1 la.length kl1) la W q1 q2 (by omega)
                    have hC2 := fun W q1 q2 => cutT_any size (.slice qm1 mb.length km1) mb W q1 q2 (by omega)
                    clear HEQ hla hmb hab HZZ HPA HLB HMB hla1 hmb1
                    go_wp2
                    refine wp_region_heldN (by kernel_rfl) (fun W => W.cell? ⟨bl, ol + k, none⟩ = some (.slice ql1 la.length kl1) ∧ W.cell? ⟨bm, om + k, none⟩ = some (.slice qm1 mb.length km1)) 10 rfl ?_
                    refine tkY 0 ⟨some 82, .move (.tmp 17), 38, "law.go:110", #[], none⟩ ?v0z18 hHeld ?y0z18 ?r0z18
                    case y0z18 => (intro w hSw; (try dsimp only at hSw); go_simp) <;> with_reducible rfl
                    try simp only [Act.put, List.setIfInBounds_toArray, List.set_cons_zero, List.set_cons_succ]
                    refine tkY 1 ⟨some 83, .move (.tmp 19), 3, "law.go:110", #[], none⟩ ?v1z19 hHeld ?y1z19 ?r1z19
                    case y1z19 => (intro w hSw; (try dsimp only at hSw); go_simp) <;> with_reducible rfl
                    try simp only [Act.put, List.setIfInBounds_toArray, List.set_cons_zero, List.set_cons_succ]
                    refine tkY 2 ⟨some 84, .indexAddr 38 (.tmp 82) (.tmp 83), 0, "law.go:110", #[⟨0, .data⟩, ⟨1, .data⟩], none⟩ ?v2z20 hHeld ?y2z20 ?r2z20
                    case y2z20 => (intro w hSw; (try dsimp only at hSw); go_simp) <;> with_reducible rfl
                    try simp only [Act.put, List.setIfInBounds_toArray, List.set_cons_zero, List.set_cons_succ]
                    refine tkY 3 ⟨some 85, .load 22 (.tmp 84), 22, "law.go:110", #[⟨2, .data⟩], none⟩ ?v3z21 hHeld ?y3z21 ?r3z21
                    case y3z21 => (intro w hSw; (try dsimp only at hSw); go_simp) <;> with_reducible rfl
                    try simp only [Act.put, List.setIfInBounds_toArray, List.set_cons_zero, List.set_cons_succ]
                    refine tkY 4 ⟨some 86, .move (.tmp 18), 38, "law.go:110", #[], none⟩ ?v4z22 hHeld ?y4z22 ?r4z22
                    case y4z22 => (intro w hSw; (try dsimp only at hSw); go_simp) <;> with_reducible rfl
                    try simp only [Act.put, List.setIfInBounds_toArray, List.set_cons_zero, List.set_cons_succ]
                    refine tkY 5 ⟨some 87, .move (.tmp 19), 3, "law.go:110", #[], none⟩ ?v5z23 hHeld ?y5z23 ?r5z23
                    case y5z23 => (intro w hSw; (try dsimp only at hSw); go_simp) <;> with_reducible rfl
                    try simp only [Act.put, List.setIfInBounds_toArray, List.set_cons_zero, List.set_cons_succ]
                    refine tkY 6 ⟨some 88, .indexAddr 38 (.tmp 86) (.tmp 87), 0, "law.go:110", #[⟨4, .data⟩, ⟨5, .data⟩], none⟩ ?v6z24 hHeld ?y6z24 ?r6z24
                    case y6z24 => (intro w hSw; (try dsimp only at hSw); go_simp) <;> with_reducible rfl
                    try simp only [Act.put, List.setIfInBounds_toArray, List.set_cons_zero, List.set_cons_succ]
                    refine tkY 7 ⟨some 89, .load 22 (.tmp 88), 22, "law.go:110", #[⟨6, .data⟩], none⟩ ?v7z25 hHeld ?y7z25 ?r7z25
                    case y7z25 => (intro w hSw; (try dsimp only at hSw); go_simp) <;> with_reducible rfl
                    try simp only [Act.put, List.setIfInBounds_toArray, List.set_cons_zero, List.set_cons_succ]
                    refine wpAnyH_ready (rs := [8]) (by kernel_rfl) (by simp) ?_
                    refine AllReadyH.cons (o := ⟨some 90, .call { callee := .value (.func 14), args := #[.tmp 85, .tmp 89], argTypes := #[22, 22] }, 4, "law.go:110", #[⟨3, .data⟩, ⟨7, .data⟩], none⟩) rfl (fun K hK => ?_) AllReadyH.nil
                    go_simp
                    refine (equal_any _ _ la mb _ (hA1.later bD1) (hB1.later bD1)).mono ?_
                    rintro z w9 ⟨rfl, hw9⟩
                    rw [hEQ, hw9]
                    refine hK.out _ _ ?_ (fun _ => ?_)
                    · exact hHeld
                    clear hK K
                    try simp only [Act.put, List.setIfInBounds_toArray, List.set_cons_zero, List.set_cons_succ]
                    refine tkY 9 ⟨some 91, .unOp .not 4 (.tmp 90), 4, "law.go:110", #[⟨8, .data⟩], none⟩ ?v9z26 hHeld ?y9z26 ?r9z26
                    case y9z26 => (intro w hSw; (try dsimp only at hSw); go_simp) <;> with_reducible rfl
                    try simp only [Act.put, List.setIfInBounds_toArray, List.set_cons_zero, List.set_cons_succ]
                    refine wpAnyH_done (by kernel_rfl) ?_ _
                    clear hHeld hw9
                    go_wp2
                    have bD2 : Below wr.drew.heap.size wr.drew wr.drew.drew := (Below.refl _ wr.drew).drew
                    have hHeld : wr.drew.drew.cell? ⟨bl, ol + k, none⟩ = some (.slice ql1 la.length kl1) ∧ wr.drew.drew.cell? ⟨bm, om + k, none⟩ = some (.slice qm1 mb.length km1) := ⟨cell_later (bD1.trans bD2) cA, cell_later (bD1.trans bD2) cB⟩
                    refine wp_region_heldN (by kernel_rfl) (fun W => W.cell? ⟨bl, ol + k, none⟩ = some (.slice ql1 la.length kl1) ∧ W.cell? ⟨bm, om + k, none⟩ = some (.slice qm1 mb.length km1)) 17 rfl ?_
                    refine tkY 0 ⟨some 92, .move (.tmp 0), 3, "law.go:111", #[], none⟩ ?v0z27 hHeld ?y0z27 ?r0z27
                    case y0z27 => (intro w hSw; (try dsimp only at hSw); go_simp) <;> with_reducible rfl
                    try simp only [Act.put, List.setIfInBounds_toArray, List.set_cons_zero, List.set_cons_succ]
                    refine tkY 1 ⟨some 93, .move (.tmp 17), 38, "law.go:111", #[], none⟩ ?v1z28 hHeld ?y1z28 ?r1z28
                    case y1z28 => (intro w hSw; (try dsimp only at hSw); go_simp) <;> with_reducible rfl
                    try simp only [Act.put, List.setIfInBounds_toArray, List.set_cons_zero, List.set_cons_succ]
                    refine tkY 2 ⟨some 94, .move (.tmp 19), 3, "law.go:111", #[], none⟩ ?v2z29 hHeld ?y2z29 ?r2z29
                    case y2z29 => (intro w hSw; (try dsimp only at hSw); go_simp) <;> with_reducible rfl
                    try simp only [Act.put, List.setIfInBounds_toArray, List.set_cons_zero, List.set_cons_succ]
                    refine tkY 3 ⟨some 95, .indexAddr 38 (.tmp 93) (.tmp 94), 0, "law.go:111", #[⟨1, .data⟩, ⟨2, .data⟩], none⟩ ?v3z30 hHeld ?y3z30 ?r3z30
                    case y3z30 => (intro w hSw; (try dsimp only at hSw); go_simp) <;> with_reducible rfl
                    try simp only [Act.put, List.setIfInBounds_toArray, List.set_cons_zero, List.set_cons_succ]
                    refine tkY 4 ⟨some 96, .load 22 (.tmp 95), 22, "law.go:111", #[⟨3, .data⟩], none⟩ ?v4z31 hHeld ?y4z31 ?r4z31
                    case y4z31 => (intro w hSw; (try dsimp only at hSw); go_simp) <;> with_reducible rfl
                    try simp only [Act.put, List.setIfInBounds_toArray, List.set_cons_zero, List.set_cons_succ]
                    refine tkY 6 ⟨some 98, .move (.tmp 0), 3, "law.go:111", #[], none⟩ ?v6z32 hHeld ?y6z32 ?r6z32
                    case y6z32 => (intro w hSw; (try dsimp only at hSw); go_simp) <;> with_reducible rfl
                    try simp only [Act.put, List.setIfInBounds_toArray, List.set_cons_zero, List.set_cons_succ]
                    refine tkY 7 ⟨some 99, .move (.tmp 18), 38, "law.go:111", #[], none⟩ ?v7z33 hHeld ?y7z33 ?r7z33
                    case y7z33 => (intro w hSw; (try dsimp only at hSw); go_simp) <;> with_reducible rfl
                    try simp only [Act.put, List.setIfInBounds_toArray, List.set_cons_zero, List.set_cons_succ]
                    refine tkY 8 ⟨some 100, .move (.tmp 19), 3, "law.go:111", #[], none⟩ ?v8z34 hHeld ?y8z34 ?r8z34
                    case y8z34 => (intro w hSw; (try dsimp only at hSw); go_simp) <;> with_reducible rfl
                    try simp only [Act.put, List.setIfInBounds_toArray, List.set_cons_zero, List.set_cons_succ]
                    refine tkY 9 ⟨some 101, .indexAddr 38 (.tmp 99) (.tmp 100), 0, "law.go:111", #[⟨7, .data⟩, ⟨8, .data⟩], none⟩ ?v9z35 hHeld ?y9z35 ?r9z35
                    case y9z35 => (intro w hSw; (try dsimp only at hSw); go_simp) <;> with_reducible rfl
                    try simp only [Act.put, List.setIfInBounds_toArray, List.set_cons_zero, List.set_cons_succ]
                    refine tkY 10 ⟨some 102, .load 22 (.tmp 101), 22, "law.go:111", #[⟨9, .data⟩], none⟩ ?v10z36 hHeld ?y10z36 ?r10z36
                    case y10z36 => (intro w hSw; (try dsimp only at hSw); go_simp) <;> with_reducible rfl
                    try simp only [Act.put, List.setIfInBounds_toArray, List.set_cons_zero, List.set_cons_succ]
                    refine wpAnyH_ready (rs := [5]) (by kernel_rfl) (by simp) ?_
                    refine AllReadyH.cons (o := ⟨some 97, .call { callee := .value (.func 15), args := #[.tmp 92, .tmp 96], argTypes := #[3, 22] }, 22, "law.go:111", #[⟨0, .data⟩, ⟨4, .data⟩], none⟩) rfl (fun K hK => ?_) AllReadyH.nil
                    go_simp
                    refine (hC1 _ (hA1.later (bD1.trans bD2)) (hT.later (bwr.trans ((bD1.trans bD2).mono bwr.size)))).mono ?_
                    rintro z w9 ⟨p9, c9, rfl, k9, hb9', _⟩
                    have hb9 := (bD1.trans bD2).trans (hb9'.mono (bD1.trans bD2).size)
                    replace hHeld : w9.cell? ⟨bl, ol + k, none⟩ = some (.slice ql1 la.length kl1) ∧ w9.cell? ⟨bm, om + k, none⟩ = some (.slice qm1 mb.length km1) := ⟨cell_later hb9 cA, cell_later hb9 cB⟩
                    refine hK.out _ _ ?_ (fun _ => ?_)
                    · exact hHeld
                    clear hK K
                    try simp only [Act.put, List.setIfInBounds_toArray, List.set_cons_zero, List.set_cons_succ]
                    refine wpAnyH_ready (rs := [11]) (by kernel_rfl) (by simp) ?_
                    refine AllReadyH.cons (o := ⟨some 103, .call { callee := .value (.func 15), args := #[.tmp 98, .tmp 102], argTypes := #[3, 22] }, 22, "law.go:111", #[⟨6, .data⟩, ⟨10, .data⟩, ⟨5, .chain⟩], none⟩) rfl (fun K hK => ?_) AllReadyH.nil
                    go_simp
                    refine (hC2 _ (hB1.later hb9) (hT.later (bwr.trans (hb9.mono bwr.size)))).mono ?_
                    rintro z w10 ⟨p10, c10, rfl, k10, hb10', _⟩
                    have hb10 := hb9.trans (hb10'.mono hb9.size)
                    have k9' := k9.later hb10'
                    replace hHeld : w10.cell? ⟨bl, ol + k, none⟩ = some (.slice ql1 la.length kl1) ∧ w10.cell? ⟨bm, om + k, none⟩ = some (.slice qm1 mb.length km1) := ⟨cell_later hb10 cA, cell_later hb10 cB⟩
                    refine hK.out _ _ ?_ (fun _ => ?_)
                    · exact hHeld
                    clear hK K
                    try simp only [Act.put, List.setIfInBounds_toArray, List.set_cons_zero, List.set_cons_succ]
                    refine wpAnyH_ready (rs := [12]) (by kernel_rfl) (by simp) ?_
                    refine AllReadyH.cons (o := ⟨some 104, .call { callee := .value (.func 14), args := #[.tmp 97, .tmp 103], argTypes := #[22, 22] }, 4, "law.go:111", #[⟨5, .data⟩, ⟨11, .data⟩, ⟨11, .chain⟩], none⟩) rfl (fun K hK => ?_) AllReadyH.nil
                    go_simp
                    refine (equal_t _ _ _ _ _ k9' k10 HCUT.out).mono ?_
                    rintro z w11 ⟨rfl, hw11⟩
                    rw [hw11]
                    clear hw11
                    refine hK.out _ _ ?_ (fun _ => ?_)
                    · exact hHeld
                    clear hK K
                    try simp only [Act.put, List.setIfInBounds_toArray, List.set_cons_zero, List.set_cons_succ]
                    refine tkY 13 ⟨some 105, .move (.tmp 104), 4, "law.go:111", #[⟨12, .data⟩, ⟨12, .chain⟩], none⟩ ?v13z37 hHeld ?y13z37 ?r13z37
                    case y13z37 => (intro w hSw; (try dsimp only at hSw); go_simp) <;> with_reducible rfl
                    try simp only [Act.put, List.setIfInBounds_toArray, List.set_cons_zero, List.set_cons_succ]
                    refine wpAnyH_ready (rs := [14]) (by kernel_rfl) (by simp) ?_
                    refine AllReadyH.cons (o := ⟨some 106, .call { callee := .value (.func 5), args := #[], argTypes := #[] }, 4, "law.go:111", #[⟨13, .chain⟩, ⟨13, .guard⟩], some (13, true)⟩) rfl (fun K hK => ?_) AllReadyH.nil
                    go_simp
                    refine (hAw _ (hT.later (bwr.trans (hb10.mono bwr.size)))).mono ?_
                    rintro z w12 ⟨rfl, hb12'⟩
                    have hb12 := hb10.trans (hb12'.mono hb10.size)
                    replace hHeld : w12.cell? ⟨bl, ol + k, none⟩ = some (.slice ql1 la.length kl1) ∧ w12.cell? ⟨bm, om + k, none⟩ = some (.slice qm1 mb.length km1) := ⟨cell_later hb12 cA, cell_later hb12 cB⟩
                    refine hK.out _ _ ?_ (fun _ => ?_)
                    · exact hHeld
                    clear hK K
                    try simp only [Act.put, List.setIfInBounds_toArray, List.set_cons_zero, List.set_cons_succ]
                    refine tkY 15 ⟨some 107, .pick (.tmp 105) (.tmp 106) (.const (.bool false)), 4, "law.go:111", #[⟨13, .data⟩, ⟨14, .data⟩], none⟩ ?v15z38 hHeld ?y15z38 ?r15z38
                    case y15z38 => (intro w hSw; (try dsimp only at hSw); go_simp) <;> with_reducible rfl
                    try simp only [Act.put, List.setIfInBounds_toArray, List.set_cons_zero, List.set_cons_succ]
                    refine tkY 16 ⟨some 10, .assign (.tmp 107), 4, "law.go:111", #[⟨15, .data⟩, ⟨14, .chain⟩, ⟨0, .phase⟩, ⟨1, .phase⟩, ⟨2, .phase⟩, ⟨3, .phase⟩, ⟨4, .phase⟩, ⟨5, .phase⟩, ⟨6, .phase⟩, ⟨7, .phase⟩, ⟨8, .phase⟩, ⟨9, .phase⟩, ⟨10, .phase⟩, ⟨11, .phase⟩, ⟨12, .phase⟩, ⟨13, .phase⟩, ⟨14, .phase⟩, ⟨15, .phase⟩], none⟩ ?v16z39 hHeld ?y16z39 ?r16z39
                    case y16z39 => (intro w hSw; (try dsimp only at hSw); go_simp) <;> with_reducible rfl
                    try simp only [Act.put, List.setIfInBounds_toArray, List.set_cons_zero, List.set_cons_succ]
                    refine wpAnyH_done (by kernel_rfl) ?_ _
                    have HW := bwr.trans (hb12.mono bwr.size)
                    clear hHeld hb12 hb12' hb10 hb10' hb9 hb9' k9 k9' k10 bwr bD1 bD2
                    go_wp2
                    go_ret
                    exact ⟨rfl, HW⟩
                · exact absurd (parts_end HPA.out HEQ.out (by have := HZZ.out; omega)) (fun h => h)
          · have HPA : Hid (partsAt size L M) := by
              rcases HE.out with h | h
              · exact absurd h.1 hF
              · exact h
            have tF : (F1 == F2) = false := by simpa using hF
            clear HE i0 i1 i2 j0 j1 j2 kI1 kK1 kI2 kK2 bWU
            go_wp2
            have bD : Below U2.heap.size U2 U2.drew := (Below.refl _ U2).drew
            have hHeld := And.intro (hbP _ (bVU.trans (bD.mono bVU.size))) (hbQ _ (bVU.trans (bD.mono bVU.size)))
            have hX1 := hX1'
            have hX2 := hX2'
            clear hX1' hX2' hU2 tF hF
            refine wp_region_heldN (by kernel_rfl) (fun W => W.heap[w.heap.size]? = some (.cells #[.slice ph hs.length ch, .int .i64 x.k, .slice pi x.id.length ci, .slice pk x.key.length ck, .int .i64 x.si, .int .i64 x.d, .slice pp x.pre.length cp, .int .i64 x.nw, .slice pl x.l.length cl, .slice pr x.r.length cr, .slice pq x.kids cq] 28 (0, 0)) ∧ W.heap[V1.heap.size]? = some (.cells #[.slice qh gs.length dh, .int .i64 y.k, .slice qi y.id.length di, .slice qk y.key.length dk, .int .i64 y.si, .int .i64 y.d, .slice qp y.pre.length dp, .int .i64 y.nw, .slice ql y.l.length dl, .slice qr y.r.length dr, .slice qq y.kids dq] 28 (0, 0))) 10 rfl ?_
            refine tkY 0 ⟨some 66, .move (.tmp 0), 3, "law.go:108", #[], none⟩ ?v0x1 hHeld ?y0x1 ?r0x1
            case y0x1 => (intro w hSw; (try dsimp only at hSw); go_simp) <;> with_reducible rfl
            try simp only [Act.put, List.setIfInBounds_toArray, List.set_cons_zero, List.set_cons_succ]
            refine tkY 1 ⟨some 67, .move (.tmp 2), 22, "law.go:108", #[], none⟩ ?v1x2 hHeld ?y1x2 ?r1x2
            case y1x2 => (intro w hSw; (try dsimp only at hSw); go_simp) <;> with_reducible rfl
            try simp only [Act.put, List.setIfInBounds_toArray, List.set_cons_zero, List.set_cons_succ]
            refine tkY 2 ⟨some 68, .load 28 (.tmp 8), 28, "law.go:108", #[], none⟩ ?v2x3 hHeld ?y2x3 ?r2x3
            case y2x3 => (intro w hSw; (try dsimp only at hSw); obtain ⟨a0, a1, a2, a3, a4, a5, a6, a7, a8, a9, a10⟩ := cells11 hSw.1; go_simp) <;> with_reducible rfl
            try simp only [Act.put, List.setIfInBounds_toArray, List.set_cons_zero, List.set_cons_succ]
            refine tkY 4 ⟨some 70, .move (.tmp 0), 3, "law.go:108", #[], none⟩ ?v4x4 hHeld ?y4x4 ?r4x4
            case y4x4 => (intro w hSw; (try dsimp only at hSw); go_simp) <;> with_reducible rfl
            try simp only [Act.put, List.setIfInBounds_toArray, List.set_cons_zero, List.set_cons_succ]
            refine tkY 5 ⟨some 71, .move (.tmp 2), 22, "law.go:108", #[], none⟩ ?v5x5 hHeld ?y5x5 ?r5x5
            case y5x5 => (intro w hSw; (try dsimp only at hSw); go_simp) <;> with_reducible rfl
            try simp only [Act.put, List.setIfInBounds_toArray, List.set_cons_zero, List.set_cons_succ]
            refine tkY 6 ⟨some 72, .load 28 (.tmp 9), 28, "law.go:108", #[], none⟩ ?v6x6 hHeld ?y6x6 ?r6x6
            case y6x6 => (intro w hSw; (try dsimp only at hSw); obtain ⟨a0, a1, a2, a3, a4, a5, a6, a7, a8, a9, a10⟩ := cells11 hSw.2; go_simp) <;> with_reducible rfl
            try simp only [Act.put, List.setIfInBounds_toArray, List.set_cons_zero, List.set_cons_succ]
            refine wpAnyH_ready (rs := [3]) (by kernel_rfl) (by simp) ?_
            refine AllReadyH.cons (o := ⟨some 69, .call { callee := .value (.func 12), args := #[.tmp 66, .tmp 67, .tmp 68], argTypes := #[3, 22, 28] }, 38, "law.go:108", #[⟨0, .data⟩, ⟨1, .data⟩, ⟨2, .data⟩], none⟩) rfl (fun K hK => ?_) AllReadyH.nil
            go_simp
            refine (hX1 _ (bVU.trans (bD.mono bVU.size))).mono ?_
            rintro z w5 ⟨p5, c5, rfl, k5, hb5'⟩
            have hb5 := (bVU.trans (bD.mono bVU.size)).trans (hb5'.mono (bVU.trans (bD.mono bVU.size)).size)
            replace hHeld := And.intro (hbP w5 hb5) (hbQ w5 hb5)
            refine hK.out _ _ ?_ (fun _ => ?_)
            · exact hHeld
            clear hK K
            try simp only [Act.put, List.setIfInBounds_toArray, List.set_cons_zero, List.set_cons_succ]
            refine wpAnyH_ready (rs := [7]) (by kernel_rfl) (by simp) ?_
            refine AllReadyH.cons (o := ⟨some 73, .call { callee := .value (.func 12), args := #[.tmp 70, .tmp 71, .tmp 72], argTypes := #[3, 22, 28] }, 38, "law.go:108", #[⟨4, .data⟩, ⟨5, .data⟩, ⟨6, .data⟩, ⟨3, .chain⟩], none⟩) rfl (fun K hK => ?_) AllReadyH.nil
            go_simp
            refine (hX2 _ hb5).mono ?_
            rintro z w6 ⟨p6, c6, rfl, k6, hb6'⟩
            have hb6 := hb5.trans (hb6'.mono hb5.size)
            have k5' := k5.later hb6'
            replace hHeld := And.intro (hbP w6 hb6) (hbQ w6 hb6)
            refine hK.out _ _ ?_ (fun _ => ?_)
            · exact hHeld
            clear hK K
            try simp only [Act.put, List.setIfInBounds_toArray, List.set_cons_zero, List.set_cons_succ]
            refine tkY 8 ⟨some 17, .assign (.tmp 69), 38, "law.go:108", #[⟨3, .data⟩, ⟨7, .chain⟩, ⟨0, .phase⟩, ⟨1, .phase⟩, ⟨2, .phase⟩, ⟨3, .phase⟩, { on := 4, ground := .textOnly .lateStores }, { on := 5, ground := .textOnly .lateStores }, { on := 6, ground := .textOnly .lateStores }, { on := 7, ground := .textOnly .lateStoresUnsure }], none⟩ ?v8x7 hHeld ?y8x7 ?r8x7
            case y8x7 => (intro w hSw; (try dsimp only at hSw); go_simp) <;> with_reducible rfl
            try simp only [Act.put, List.setIfInBounds_toArray, List.set_cons_zero, List.set_cons_succ]
            refine tkY 9 ⟨some 18, .assign (.tmp 73), 38, "law.go:108", #[⟨7, .data⟩, ⟨8, .chain⟩, ⟨0, .phase⟩, ⟨1, .phase⟩, ⟨2, .phase⟩, ⟨3, .phase⟩, ⟨4, .phase⟩, ⟨5, .phase⟩, ⟨6, .phase⟩, ⟨7, .phase⟩, ⟨8, .phase⟩], none⟩ ?v9x8 hHeld ?y9x8 ?r9x8
            case y9x8 => (intro w hSw; (try dsimp only at hSw); go_simp) <;> with_reducible rfl
            try simp only [Act.put, List.setIfInBounds_toArray, List.set_cons_zero, List.set_cons_succ]
            refine wpAnyH_done (by kernel_rfl) ?_ _
            clear hHeld hX1 hX2 hbP hbQ bD bVU hb5 hb5' hb6' k5
            have b6 := bV.trans (hb6.mono bV.size)
            clear hb6 bV
            obtain ⟨Z, hZ⟩ : ∃ Z : Nat, Z = min L.length M.length := ⟨_, rfl⟩
            have hmin : min (L.length : Int) (M.length : Int) = (Z : Int) := by omega
            have hZ1 : Z ≤ L.length := by omega
            have hZ2 : Z ≤ M.length := by omega
            have HZZ : Hid (Z = min L.length M.length) := hZ
            clear hZ
            have hml := k5'.len
            have hmm := k6.len
            unfold maxLen at hml hmm
            have hZ3 : Z ≤ 9223372036854775807 := by omega
            go_wp2
            go_loopw [79] (fun i wr => ∃ k : Nat, k ≤ Z ∧ i = .int .i64 k ∧ Hid (∀ j, j < k → L[j]? = M[j]?) ∧ Below w6.heap.size w6 wr) (fun i _ => Z - (intOf i).toNat)
            case atStart => exact ⟨0, Nat.zero_le _, rfl, fun j hj => absurd hj (by omega), Below.refl _ _⟩
            case round =>
              obtain ⟨k, hk, rfl, HEQ, hbe⟩ := hrel
              have bwr := b6.trans (hbe.mono b6.size)
              by_cases hlt : k < Z
              · obtain ⟨bl, ol, rfl⟩ := k5'.addr (by omega)
                obtain ⟨bm, om, rfl⟩ := k6.addr (by omega)
                obtain ⟨ql1, kl1, la, hla, cA, hA1⟩ := (k5'.later hbe).get k (by omega)
                obtain ⟨qm1, km1, mb, hmb, cB, hB1⟩ := (k6.later hbe).get k (by omega)
                have hkl : k < L.length := by omega
                have hkm : k < M.length := by omega
                have bD1 : Below wr.heap.size wr wr.drew := (Below.refl _ wr).drew
                have hHeld : wr.drew.cell? ⟨bl, ol + k, none⟩ = some (.slice ql1 la.length kl1) ∧ wr.drew.cell? ⟨bm, om + k, none⟩ = some (.slice qm1 mb.length km1) := ⟨cell_later bD1 cA, cell_later bD1 cB⟩
                by_cases hab : la = mb
                · have hEQ : (la == mb) = true := by rw [hab]; simp
                  have HNX : Hid (∀ j, j < k + 1 → L[j]? = M[j]?) := by
                    intro j hj
                    rcases Nat.lt_or_ge j k with h | h
                    · exact HEQ.out j h
                    · obtain rfl : j = k := by omega
                      rw [hla.out, hmb.out, hab]
                  clear HEQ hla hmb hab HZZ HPA
                  go_wp2
                  refine wp_region_heldN (by kernel_rfl) (fun W => W.cell? ⟨bl, ol + k, none⟩ = some (.slice ql1 la.length kl1) ∧ W.cell? ⟨bm, om + k, none⟩ = some (.slice qm1 mb.length km1)) 10 rfl ?_
                  refine tkY 0 ⟨some 82, .move (.tmp 17), 38, "law.go:110", #[], none⟩ ?v0x9 hHeld ?y0x9 ?r0x9
                  case y0x9 => (intro w hSw; (try dsimp only at hSw); go_simp) <;> with_reducible rfl
                  try simp only [Act.put, List.setIfInBounds_toArray, List.set_cons_zero, List.set_cons_succ]
                  refine tkY 1 ⟨some 83, .move (.tmp 19), 3, "law.go:110", #[], none⟩ ?v1x10 hHeld ?y1x10 ?r1x10
                  case y1x10 => (intro w hSw; (try dsimp only at hSw); go_simp) <;> with_reducible rfl
                  try simp only [Act.put, List.setIfInBounds_toArray, List.set_cons_zero, List.set_cons_succ]
                  refine tkY 2 ⟨some 84, .indexAddr 38 (.tmp 82) (.tmp 83), 0, "law.go:110", #[⟨0, .data⟩, ⟨1, .data⟩], none⟩ ?v2x11 hHeld ?y2x11 ?r2x11
                  case y2x11 => (intro w hSw; (try dsimp only at hSw); go_simp) <;> with_reducible rfl
                  try simp only [Act.put, List.setIfInBounds_toArray, List.set_cons_zero, List.set_cons_succ]
                  refine tkY 3 ⟨some 85, .load 22 (.tmp 84), 22, "law.go:110", #[⟨2, .data⟩], none⟩ ?v3x12 hHeld ?y3x12 ?r3x12
                  case y3x12 => (intro w hSw; (try dsimp only at hSw); go_simp) <;> with_reducible rfl
                  try simp only [Act.put, List.setIfInBounds_toArray, List.set_cons_zero, List.set_cons_succ]
                  refine tkY 4 ⟨some 86, .move (.tmp 18), 38, "law.go:110", #[], none⟩ ?v4x13 hHeld ?y4x13 ?r4x13
                  case y4x13 => (intro w hSw; (try dsimp only at hSw); go_simp) <;> with_reducible rfl
                  try simp only [Act.put, List.setIfInBounds_toArray, List.set_cons_zero, List.set_cons_succ]
                  refine tkY 5 ⟨some 87, .move (.tmp 19), 3, "law.go:110", #[], none⟩ ?v5x14 hHeld ?y5x14 ?r5x14
                  case y5x14 => (intro w hSw; (try dsimp only at hSw); go_simp) <;> with_reducible rfl
                  try simp only [Act.put, List.setIfInBounds_toArray, List.set_cons_zero, List.set_cons_succ]
                  refine tkY 6 ⟨some 88, .indexAddr 38 (.tmp 86) (.tmp 87), 0, "law.go:110", #[⟨4, .data⟩, ⟨5, .data⟩], none⟩ ?v6x15 hHeld ?y6x15 ?r6x15
                  case y6x15 => (intro w hSw; (try dsimp only at hSw); go_simp) <;> with_reducible rfl
                  try simp only [Act.put, List.setIfInBounds_toArray, List.set_cons_zero, List.set_cons_succ]
                  refine tkY 7 ⟨some 89, .load 22 (.tmp 88), 22, "law.go:110", #[⟨6, .data⟩], none⟩ ?v7x16 hHeld ?y7x16 ?r7x16
                  case y7x16 => (intro w hSw; (try dsimp only at hSw); go_simp) <;> with_reducible rfl
                  try simp only [Act.put, List.setIfInBounds_toArray, List.set_cons_zero, List.set_cons_succ]
                  refine wpAnyH_ready (rs := [8]) (by kernel_rfl) (by simp) ?_
                  refine AllReadyH.cons (o := ⟨some 90, .call { callee := .value (.func 14), args := #[.tmp 85, .tmp 89], argTypes := #[22, 22] }, 4, "law.go:110", #[⟨3, .data⟩, ⟨7, .data⟩], none⟩) rfl (fun K hK => ?_) AllReadyH.nil
                  go_simp
                  refine (equal_any _ _ la mb _ (hA1.later bD1) (hB1.later bD1)).mono ?_
                  rintro z w9 ⟨rfl, hw9⟩
                  rw [hEQ, hw9]
                  refine hK.out _ _ ?_ (fun _ => ?_)
                  · exact hHeld
                  clear hK K
                  try simp only [Act.put, List.setIfInBounds_toArray, List.set_cons_zero, List.set_cons_succ]
                  refine tkY 9 ⟨some 91, .unOp .not 4 (.tmp 90), 4, "law.go:110", #[⟨8, .data⟩], none⟩ ?v9x17 hHeld ?y9x17 ?r9x17
                  case y9x17 => (intro w hSw; (try dsimp only at hSw); go_simp) <;> with_reducible rfl
                  try simp only [Act.put, List.setIfInBounds_toArray, List.set_cons_zero, List.set_cons_succ]
                  refine wpAnyH_done (by kernel_rfl) ?_ _
                  clear hHeld hw9 hAw
                  have bn := hbe.trans (bD1.mono hbe.size)
                  clear bD1 hbe
                  go_wp2
                  go_roundw
                  case rel => first | exact ⟨k + 1, by omega, by go_num, HNX, bn⟩ | ((repeat apply Exists.intro); exact ⟨⟨k + 1, by omega, by go_num, HNX, bn⟩, rfl⟩)
                  case measure => simp [intOf]; omega
                · have hEQ : (la == mb) = false := by simpa using hab
                  have HCUT : Hid (cutT size la = cutT size mb) := parts_here HPA.out HEQ.out hla.out hmb.out hab
                  have hla1 := HLB.out la (List.mem_of_getElem? hla.out)
                  have hmb1 := HMB.out mb (List.mem_of_getElem? hmb.out)
                  have hC1 := fun W q1 q2 => cutT_any size (.slice ql1 la.length kl1) la W q1 q2 (by omega)
                  have hC2 := fun W q1 q2 => cutT_any size (.slice qm1 mb.length km1) mb W q1 q2 (by omega)
                  clear HEQ hla hmb hab HZZ HPA HLB HMB hla1 hmb1
                  go_wp2
                  refine wp_region_heldN (by kernel_rfl) (fun W => W.cell? ⟨bl, ol + k, none⟩ = some (.slice ql1 la.length kl1) ∧ W.cell? ⟨bm, om + k, none⟩ = some (.slice qm1 mb.length km1)) 10 rfl ?_
                  refine tkY 0 ⟨some 82, .move (.tmp 17), 38, "law.go:110", #[], none⟩ ?v0x18 hHeld ?y0x18 ?r0x18
                  case y0x18 => (intro w hSw; (try dsimp only at hSw); go_simp) <;> with_reducible rfl
                  try simp only [Act.put, List.setIfInBounds_toArray, List.set_cons_zero, List.set_cons_succ]
                  refine tkY 1 ⟨some 83, .move (.tmp 19), 3, "law.go:110", #[], none⟩ ?v1x19 hHeld ?y1x19 ?r1x19
                  case y1x19 => (intro w hSw; (try dsimp only at hSw); go_simp) <;> with_reducible rfl
                  try simp only [Act.put, List.setIfInBounds_toArray, List.set_cons_zero, List.set_cons_succ]
                  refine tkY 2 ⟨some 84, .indexAddr 38 (.tmp 82) (.tmp 83), 0, "law.go:110", #[⟨0, .data⟩, ⟨1, .data⟩], none⟩ ?v2x20 hHeld ?y2x20 ?r2x20
                  case y2x20 => (intro w hSw; (try dsimp only at hSw); go_simp) <;> with_reducible rfl
                  try simp only [Act.put, List.setIfInBounds_toArray, List.set_cons_zero, List.set_cons_succ]
                  refine tkY 3 ⟨some 85, .load 22 (.tmp 84), 22, "law.go:110", #[⟨2, .data⟩], none⟩ ?v3x21 hHeld ?y3x21 ?r3x21
                  case y3x21 => (intro w hSw; (try dsimp only at hSw); go_simp) <;> with_reducible rfl
                  try simp only [Act.put, List.setIfInBounds_toArray, List.set_cons_zero, List.set_cons_succ]
                  refine tkY 4 ⟨some 86, .move (.tmp 18), 38, "law.go:110", #[], none⟩ ?v4x22 hHeld ?y4x22 ?r4x22
                  case y4x22 => (intro w hSw; (try dsimp only at hSw); go_simp) <;> with_reducible rfl
                  try simp only [Act.put, List.setIfInBounds_toArray, List.set_cons_zero, List.set_cons_succ]
                  refine tkY 5 ⟨some 87, .move (.tmp 19), 3, "law.go:110", #[], none⟩ ?v5x23 hHeld ?y5x23 ?r5x23
                  case y5x23 => (intro w hSw; (try dsimp only at hSw); go_simp) <;> with_reducible rfl
                  try simp only [Act.put, List.setIfInBounds_toArray, List.set_cons_zero, List.set_cons_succ]
                  refine tkY 6 ⟨some 88, .indexAddr 38 (.tmp 86) (.tmp 87), 0, "law.go:110", #[⟨4, .data⟩, ⟨5, .data⟩], none⟩ ?v6x24 hHeld ?y6x24 ?r6x24
                  case y6x24 => (intro w hSw; (try dsimp only at hSw); go_simp) <;> with_reducible rfl
                  try simp only [Act.put, List.setIfInBounds_toArray, List.set_cons_zero, List.set_cons_succ]
                  refine tkY 7 ⟨some 89, .load 22 (.tmp 88), 22, "law.go:110", #[⟨6, .data⟩], none⟩ ?v7x25 hHeld ?y7x25 ?r7x25
                  case y7x25 => (intro w hSw; (try dsimp only at hSw); go_simp) <;> with_reducible rfl
                  try simp only [Act.put, List.setIfInBounds_toArray, List.set_cons_zero, List.set_cons_succ]
                  refine wpAnyH_ready (rs := [8]) (by kernel_rfl) (by simp) ?_
                  refine AllReadyH.cons (o := ⟨some 90, .call { callee := .value (.func 14), args := #[.tmp 85, .tmp 89], argTypes := #[22, 22] }, 4, "law.go:110", #[⟨3, .data⟩, ⟨7, .data⟩], none⟩) rfl (fun K hK => ?_) AllReadyH.nil
                  go_simp
                  refine (equal_any _ _ la mb _ (hA1.later bD1) (hB1.later bD1)).mono ?_
                  rintro z w9 ⟨rfl, hw9⟩
                  rw [hEQ, hw9]
                  refine hK.out _ _ ?_ (fun _ => ?_)
                  · exact hHeld
                  clear hK K
                  try simp only [Act.put, List.setIfInBounds_toArray, List.set_cons_zero, List.set_cons_succ]
                  refine tkY 9 ⟨some 91, .unOp .not 4 (.tmp 90), 4, "law.go:110", #[⟨8, .data⟩], none⟩ ?v9x26 hHeld ?y9x26 ?r9x26
                  case y9x26 => (intro w hSw; (try dsimp only at hSw); go_simp) <;> with_reducible rfl
                  try simp only [Act.put, List.setIfInBounds_toArray, List.set_cons_zero, List.set_cons_succ]
                  refine wpAnyH_done (by kernel_rfl) ?_ _
                  clear hHeld hw9
                  go_wp2
                  have bD2 : Below wr.drew.heap.size wr.drew wr.drew.drew := (Below.refl _ wr.drew).drew
                  have hHeld : wr.drew.drew.cell? ⟨bl, ol + k, none⟩ = some (.slice ql1 la.length kl1) ∧ wr.drew.drew.cell? ⟨bm, om + k, none⟩ = some (.slice qm1 mb.length km1) := ⟨cell_later (bD1.trans bD2) cA, cell_later (bD1.trans bD2) cB⟩
                  refine wp_region_heldN (by kernel_rfl) (fun W => W.cell? ⟨bl, ol + k, none⟩ = some (.slice ql1 la.length kl1) ∧ W.cell? ⟨bm, om + k, none⟩ = some (.slice qm1 mb.length km1)) 17 rfl ?_
                  refine tkY 0 ⟨some 92, .move (.tmp 0), 3, "law.go:111", #[], none⟩ ?v0x27 hHeld ?y0x27 ?r0x27
                  case y0x27 => (intro w hSw; (try dsimp only at hSw); go_simp) <;> with_reducible rfl
                  try simp only [Act.put, List.setIfInBounds_toArray, List.set_cons_zero, List.set_cons_succ]
                  refine tkY 1 ⟨some 93, .move (.tmp 17), 38, "law.go:111", #[], none⟩ ?v1x28 hHeld ?y1x28 ?r1x28
                  case y1x28 => (intro w hSw; (try dsimp only at hSw); go_simp) <;> with_reducible rfl
                  try simp only [Act.put, List.setIfInBounds_toArray, List.set_cons_zero, List.set_cons_succ]
                  refine tkY 2 ⟨some 94, .move (.tmp 19), 3, "law.go:111", #[], none⟩ ?v2x29 hHeld ?y2x29 ?r2x29
                  case y2x29 => (intro w hSw; (try dsimp only at hSw); go_simp) <;> with_reducible rfl
                  try simp only [Act.put, List.setIfInBounds_toArray, List.set_cons_zero, List.set_cons_succ]
                  refine tkY 3 ⟨some 95, .indexAddr 38 (.tmp 93) (.tmp 94), 0, "law.go:111", #[⟨1, .data⟩, ⟨2, .data⟩], none⟩ ?v3x30 hHeld ?y3x30 ?r3x30
                  case y3x30 => (intro w hSw; (try dsimp only at hSw); go_simp) <;> with_reducible rfl
                  try simp only [Act.put, List.setIfInBounds_toArray, List.set_cons_zero, List.set_cons_succ]
                  refine tkY 4 ⟨some 96, .load 22 (.tmp 95), 22, "law.go:111", #[⟨3, .data⟩], none⟩ ?v4x31 hHeld ?y4x31 ?r4x31
                  case y4x31 => (intro w hSw; (try dsimp only at hSw); go_simp) <;> with_reducible rfl
                  try simp only [Act.put, List.setIfInBounds_toArray, List.set_cons_zero, List.set_cons_succ]
                  refine tkY 6 ⟨some 98, .move (.tmp 0), 3, "law.go:111", #[], none⟩ ?v6x32 hHeld ?y6x32 ?r6x32
                  case y6x32 => (intro w hSw; (try dsimp only at hSw); go_simp) <;> with_reducible rfl
                  try simp only [Act.put, List.setIfInBounds_toArray, List.set_cons_zero, List.set_cons_succ]
                  refine tkY 7 ⟨some 99, .move (.tmp 18), 38, "law.go:111", #[], none⟩ ?v7x33 hHeld ?y7x33 ?r7x33
                  case y7x33 => (intro w hSw; (try dsimp only at hSw); go_simp) <;> with_reducible rfl
                  try simp only [Act.put, List.setIfInBounds_toArray, List.set_cons_zero, List.set_cons_succ]
                  refine tkY 8 ⟨some 100, .move (.tmp 19), 3, "law.go:111", #[], none⟩ ?v8x34 hHeld ?y8x34 ?r8x34
                  case y8x34 => (intro w hSw; (try dsimp only at hSw); go_simp) <;> with_reducible rfl
                  try simp only [Act.put, List.setIfInBounds_toArray, List.set_cons_zero, List.set_cons_succ]
                  refine tkY 9 ⟨some 101, .indexAddr 38 (.tmp 99) (.tmp 100), 0, "law.go:111", #[⟨7, .data⟩, ⟨8, .data⟩], none⟩ ?v9x35 hHeld ?y9x35 ?r9x35
                  case y9x35 => (intro w hSw; (try dsimp only at hSw); go_simp) <;> with_reducible rfl
                  try simp only [Act.put, List.setIfInBounds_toArray, List.set_cons_zero, List.set_cons_succ]
                  refine tkY 10 ⟨some 102, .load 22 (.tmp 101), 22, "law.go:111", #[⟨9, .data⟩], none⟩ ?v10x36 hHeld ?y10x36 ?r10x36
                  case y10x36 => (intro w hSw; (try dsimp only at hSw); go_simp) <;> with_reducible rfl
                  try simp only [Act.put, List.setIfInBounds_toArray, List.set_cons_zero, List.set_cons_succ]
                  refine wpAnyH_ready (rs := [5]) (by kernel_rfl) (by simp) ?_
                  refine AllReadyH.cons (o := ⟨some 97, .call { callee := .value (.func 15), args := #[.tmp 92, .tmp 96], argTypes := #[3, 22] }, 22, "law.go:111", #[⟨0, .data⟩, ⟨4, .data⟩], none⟩) rfl (fun K hK => ?_) AllReadyH.nil
                  go_simp
                  refine (hC1 _ (hA1.later (bD1.trans bD2)) (hT.later (bwr.trans ((bD1.trans bD2).mono bwr.size)))).mono ?_
                  rintro z w9 ⟨p9, c9, rfl, k9, hb9', _⟩
                  have hb9 := (bD1.trans bD2).trans (hb9'.mono (bD1.trans bD2).size)
                  replace hHeld : w9.cell? ⟨bl, ol + k, none⟩ = some (.slice ql1 la.length kl1) ∧ w9.cell? ⟨bm, om + k, none⟩ = some (.slice qm1 mb.length km1) := ⟨cell_later hb9 cA, cell_later hb9 cB⟩
                  refine hK.out _ _ ?_ (fun _ => ?_)
                  · exact hHeld
                  clear hK K
                  try simp only [Act.put, List.setIfInBounds_toArray, List.set_cons_zero, List.set_cons_succ]
                  refine wpAnyH_ready (rs := [11]) (by kernel_rfl) (by simp) ?_
                  refine AllReadyH.cons (o := ⟨some 103, .call { callee := .value (.func 15), args := #[.tmp 98, .tmp 102], argTypes := #[3, 22] }, 22, "law.go:111", #[⟨6, .data⟩, ⟨10, .data⟩, ⟨5, .chain⟩], none⟩) rfl (fun K hK => ?_) AllReadyH.nil
                  go_simp
                  refine (hC2 _ (hB1.later hb9) (hT.later (bwr.trans (hb9.mono bwr.size)))).mono ?_
                  rintro z w10 ⟨p10, c10, rfl, k10, hb10', _⟩
                  have hb10 := hb9.trans (hb10'.mono hb9.size)
                  have k9' := k9.later hb10'
                  replace hHeld : w10.cell? ⟨bl, ol + k, none⟩ = some (.slice ql1 la.length kl1) ∧ w10.cell? ⟨bm, om + k, none⟩ = some (.slice qm1 mb.length km1) := ⟨cell_later hb10 cA, cell_later hb10 cB⟩
                  refine hK.out _ _ ?_ (fun _ => ?_)
                  · exact hHeld
                  clear hK K
                  try simp only [Act.put, List.setIfInBounds_toArray, List.set_cons_zero, List.set_cons_succ]
                  refine wpAnyH_ready (rs := [12]) (by kernel_rfl) (by simp) ?_
                  refine AllReadyH.cons (o := ⟨some 104, .call { callee := .value (.func 14), args := #[.tmp 97, .tmp 103], argTypes := #[22, 22] }, 4, "law.go:111", #[⟨5, .data⟩, ⟨11, .data⟩, ⟨11, .chain⟩], none⟩) rfl (fun K hK => ?_) AllReadyH.nil
                  go_simp
                  refine (equal_t _ _ _ _ _ k9' k10 HCUT.out).mono ?_
                  rintro z w11 ⟨rfl, hw11⟩
                  rw [hw11]
                  clear hw11
                  refine hK.out _ _ ?_ (fun _ => ?_)
                  · exact hHeld
                  clear hK K
                  try simp only [Act.put, List.setIfInBounds_toArray, List.set_cons_zero, List.set_cons_succ]
                  refine tkY 13 ⟨some 105, .move (.tmp 104), 4, "law.go:111", #[⟨12, .data⟩, ⟨12, .chain⟩], none⟩ ?v13x37 hHeld ?y13x37 ?r13x37
                  case y13x37 => (intro w hSw; (try dsimp only at hSw); go_simp) <;> with_reducible rfl
                  try simp only [Act.put, List.setIfInBounds_toArray, List.set_cons_zero, List.set_cons_succ]
                  refine wpAnyH_ready (rs := [14]) (by kernel_rfl) (by simp) ?_
                  refine AllReadyH.cons (o := ⟨some 106, .call { callee := .value (.func 5), args := #[], argTypes := #[] }, 4, "law.go:111", #[⟨13, .chain⟩, ⟨13, .guard⟩], some (13, true)⟩) rfl (fun K hK => ?_) AllReadyH.nil
                  go_simp
                  refine (hAw _ (hT.later (bwr.trans (hb10.mono bwr.size)))).mono ?_
                  rintro z w12 ⟨rfl, hb12'⟩
                  have hb12 := hb10.trans (hb12'.mono hb10.size)
                  replace hHeld : w12.cell? ⟨bl, ol + k, none⟩ = some (.slice ql1 la.length kl1) ∧ w12.cell? ⟨bm, om + k, none⟩ = some (.slice qm1 mb.length km1) := ⟨cell_later hb12 cA, cell_later hb12 cB⟩
                  refine hK.out _ _ ?_ (fun _ => ?_)
                  · exact hHeld
                  clear hK K
                  try simp only [Act.put, List.setIfInBounds_toArray, List.set_cons_zero, List.set_cons_succ]
                  refine tkY 15 ⟨some 107, .pick (.tmp 105) (.tmp 106) (.const (.bool false)), 4, "law.go:111", #[⟨13, .data⟩, ⟨14, .data⟩], none⟩ ?v15x38 hHeld ?y15x38 ?r15x38
                  case y15x38 => (intro w hSw; (try dsimp only at hSw); go_simp) <;> with_reducible rfl
                  try simp only [Act.put, List.setIfInBounds_toArray, List.set_cons_zero, List.set_cons_succ]
                  refine tkY 16 ⟨some 10, .assign (.tmp 107), 4, "law.go:111", #[⟨15, .data⟩, ⟨14, .chain⟩, ⟨0, .phase⟩, ⟨1, .phase⟩, ⟨2, .phase⟩, ⟨3, .phase⟩, ⟨4, .phase⟩, ⟨5, .phase⟩, ⟨6, .phase⟩, ⟨7, .phase⟩, ⟨8, .phase⟩, ⟨9, .phase⟩, ⟨10, .phase⟩, ⟨11, .phase⟩, ⟨12, .phase⟩, ⟨13, .phase⟩, ⟨14, .phase⟩, ⟨15, .phase⟩], none⟩ ?v16x39 hHeld ?y16x39 ?r16x39
                  case y16x39 => (intro w hSw; (try dsimp only at hSw); go_simp) <;> with_reducible rfl
                  try simp only [Act.put, List.setIfInBounds_toArray, List.set_cons_zero, List.set_cons_succ]
                  refine wpAnyH_done (by kernel_rfl) ?_ _
                  have HW := bwr.trans (hb12.mono bwr.size)
                  clear hHeld hb12 hb12' hb10 hb10' hb9 hb9' k9 k9' k10 bwr bD1 bD2
                  go_wp2
                  go_ret
                  exact ⟨rfl, HW⟩
              · exact absurd (parts_end HPA.out HEQ.out (by have := HZZ.out; omega)) (fun h => h)
    · have t1 : decide ((300 : Int) < (hs.length : Int)) = false := by simp; omega
      have t2 : decide ((300 : Int) < (gs.length : Int)) = true := by simp; omega
      clear hX1' hX2' hF1 hF2 HD HLB HMB hbP hbQ
      go_enter Tryz.func4, Tryz.ntmps4
      go_wp2_with (first | (go_at_call 5; refine (hAw _ (hT.later bV)).mono ?_; rintro e wa ⟨rfl, hba⟩))
      have HW := (bV).trans (hba.mono (bV).size)
      clear hba
      go_wp2
      go_ret
      exact ⟨rfl, HW⟩
  · have t1 : decide ((300 : Int) < (hs.length : Int)) = true := by simp; omega
    clear hX1' hX2' hF1 hF2 HD HLB HMB hbP hbQ
    go_enter Tryz.func4, Tryz.ntmps4
    go_wp2_with (first | (go_at_call 5; refine (hAw _ (hT.later bV)).mono ?_; rintro e wa ⟨rfl, hba⟩))
    have HW := (bV).trans (hba.mono (bV).size)
    clear hba
    go_wp2
    go_ret
    exact ⟨rfl, HW⟩

end Go.Proofs.YtahfjemllkbpgaaGreatDoor

namespace Go.Proofs.YtahfjemllkbpgaaGreatDoor
open Go.ChangeShapes Go.WideShapes Go.ChangeAt Go.RowKit

set_option maxRecDepth 100000 in
theorem pathOneContract (H : Type) (enc : TypeId × Value → H) (W : World) (base : Nat) (args : Array Value) (ds gs : List (DataW H)) (before : List MemPlace)
    (hval : ∀ (j : Nat) t v, Tryz.f4.params[j]? = some t → args[j]? = some v → Value.okWide Tryz.prog W .any base t v)
    (hW : DataW.Whole enc Tryz.prog Tryz.f4.params.toList Rows.pathOneSpec.vars false W args.toList ds gs before) (hsz0 : (DataW.weightsEach Tryz.prog (Tryz.f4.params.toList ++ (OpenSpec.ofChange Rows.pathOneSpec).bare.plain.varTypes Tryz.prog) (ds ++ gs)).all (· ≤ reachBytes) = true) (hL : laidMetH Tryz.prog Rows.pathOneRow.laid W) :
    Calls Tryz.prog 4 args W fun e W' => ∃ v, e = .returned v ∧ Rows.pathOneSpec.post enc Tryz.prog Tryz.f4 false true false false W args v W' := by
  have hT : Tabs W := tabs_of hL
  have hW' := hW
  obtain ⟨p, q, hA0, hV, rfl, hfz, hnd⟩ := hW
  have hA : DataW.TrodAll enc Tryz.prog W 0 (fun _ => true) true Tryz.f4.params.toList args.toList ds p := hA0
  rw [Tryz.params4] at hA hval hsz0
  obtain ⟨v0, vs0, d0, ds0, p0, q0, hargs, rfl, rfl, h0, r0⟩ := trodAll_cons hA
  obtain ⟨v1, vs1, d1, ds1, p1, q1, rfl, rfl, rfl, h1, r1⟩ := trodAll_cons r0
  obtain ⟨v2, vs2, d2, ds2, p2, q2, rfl, rfl, rfl, h2, r2⟩ := trodAll_cons r1
  obtain ⟨v3, vs3, d3, ds3, p3, q3, rfl, rfl, rfl, h3, r3⟩ := trodAll_cons r2
  obtain ⟨v4, vs4, d4, ds4, p4, q4, rfl, rfl, rfl, h4, r4⟩ := trodAll_cons r3
  obtain ⟨rfl, rfl, rfl⟩ := trodAll_nil r4
  obtain rfl : args = #[v0, v1, v2, v3, v4] := by cases args; simp_all
  obtain ⟨rfl, rfl⟩ := trodVars_none hV
  obtain ⟨a0, rfl, rfl, rfl, w0⟩ := open_int Tryz.underlying3 (hval 0 3 v0 rfl rfl) h0
  have k1 := h1
  have lt1 : ∀ x ∈ p1, x.block < W.heap.size := by obtain ⟨m, hm⟩ := k1; exact DataW.trod_lt m _ _ _ hm
  obtain ⟨l1, hl1, he1⟩ := open_hb (hval 1 22 v1 rfl rfl) h1
  have hr1 : l1.length ≤ 140737488351232 := hb_reach hsz0 1 rfl rfl he1
  have k2 := h2
  have lt2 : ∀ x ∈ p2, x.block < W.heap.size := by obtain ⟨m, hm⟩ := k2; exact DataW.trod_lt m _ _ _ hm
  obtain ⟨l2, hl2, he2⟩ := open_hb (hval 2 22 v2 rfl rfl) h2
  have hr2 : l2.length ≤ 140737488351232 := hb_reach hsz0 2 rfl rfl he2
  have k3 := h3
  have lt3 : ∀ x ∈ p3, x.block < W.heap.size := by obtain ⟨m, hm⟩ := k3; exact DataW.trod_lt m _ _ _ hm
  obtain ⟨hs3, x3, hv3, pi3, pk3, pp3, pl3, pr3, pq3, ci3, ck3, cp3, cl3, cr3, cq3, rfl, ha3, hb3, hc3, hd3, he3, hf3⟩ := open_path (hval 3 28 v3 rfl rfl) h3
  have k4 := h4
  have lt4 : ∀ x ∈ p4, x.block < W.heap.size := by obtain ⟨m, hm⟩ := k4; exact DataW.trod_lt m _ _ _ hm
  obtain ⟨hs4, x4, hv4, pi4, pk4, pp4, pl4, pr4, pq4, ci4, ck4, cp4, cl4, cr4, cq4, rfl, ha4, hb4, hc4, hd4, he4, hf4⟩ := open_path (hval 4 28 v4 rfl rfl) h4
  clear hA0
  simp only [List.append_nil] at hW'
  refine (pathOne_any a0 v1 v2 hv3 hv4 l1 l2 hs3 hs4 x3 x4 pi3 pk3 pp3 pl3 pr3 pq3 pi4 pk4 pp4 pl4 pr4 pq4 ci3 ck3 cp3 cl3 cr3 cq3 ci4 ck4 cp4 cl4 cr4 cq4 W hl1 hl2 ha3 hb3 hc3 hd3 he3 hf3 ha4 hb4 hc4 hd4 he4 hf4 hT).mono fun e W' ⟨he, bel⟩ => ?_
  subst he
  exact ⟨_, rfl, _, _, _, [], _, [], hW', trodAll_mk1 (shut_bool Tryz.underlying4 _), (trodAll_cons_mk (shut_int Tryz.underlying3 w0) (trodAll_cons_mk (Below.trod laidOut (by kernel_rfl) (of_decide_eq_true (by kernel_rfl)) k1 bel lt1) (trodAll_cons_mk (Below.trod laidOut (by kernel_rfl) (of_decide_eq_true (by kernel_rfl)) k2 bel lt2) (trodAll_cons_mk (Below.trod laidOut (by kernel_rfl) (of_decide_eq_true (by kernel_rfl)) k3 bel lt3) (trodAll_cons_mk (Below.trod laidOut (by kernel_rfl) (of_decide_eq_true (by kernel_rfl)) k4 bel lt4) trodAll_mk0))))), rfl, bel.frame _, fun h => by cases h⟩

theorem pathOneMet (os : Os) : laidMet Tryz.prog Rows.pathOneRow.laid (({ World.holding Tryz.prog os ⟨#[], #[], []⟩ with heap := ((World.holding Tryz.prog os ⟨#[], #[], []⟩).heap.modify 0 fun | .cells _ t frozen => .cells startCells t frozen | o => o).modify 1 fun | .cells _ t frozen => .cells roundsCells t frozen | o => o } : World).forCall (fun _ _ => 0) ⟨#[], #[.int .i64 0, .slice none 0 0, .slice none 0 0, .agg #[.slice none 0 0, .int .i64 0, .slice none 0 0, .slice none 0 0, .int .i64 0, .int .i64 0, .slice none 0 0, .int .i64 0, .slice none 0 0, .slice none 0 0, .slice none 0 0], .agg #[.slice none 0 0, .int .i64 0, .slice none 0 0, .slice none 0 0, .int .i64 0, .int .i64 0, .slice none 0 0, .int .i64 0, .slice none 0 0, .slice none 0 0, .slice none 0 0]], []⟩).memory :=
  laidMet_of_run' 8 (by kernel_rfl) (by kernel_rfl)
theorem pathOneReads (os : Os) {H : Type} (enc : TypeId × Value → H) : ∃ places, DataW.whole enc Tryz.prog (({ World.holding Tryz.prog os ⟨#[], #[], []⟩ with heap := ((World.holding Tryz.prog os ⟨#[], #[], []⟩).heap.modify 0 fun | .cells _ t frozen => .cells startCells t frozen | o => o).modify 1 fun | .cells _ t frozen => .cells roundsCells t frozen | o => o } : World).forCall (fun _ _ => 0) ⟨#[], #[.int .i64 0, .slice none 0 0, .slice none 0 0, .agg #[.slice none 0 0, .int .i64 0, .slice none 0 0, .slice none 0 0, .int .i64 0, .int .i64 0, .slice none 0 0, .int .i64 0, .slice none 0 0, .slice none 0 0, .slice none 0 0], .agg #[.slice none 0 0, .int .i64 0, .slice none 0 0, .slice none 0 0, .int .i64 0, .int .i64 0, .slice none 0 0, .int .i64 0, .slice none 0 0, .slice none 0 0, .slice none 0 0]], []⟩).memory Tryz.f4.params.toList Rows.pathOneSpec.vars false (#[.int .i64 0, .slice none 0 0, .slice none 0 0, .agg #[.slice none 0 0, .int .i64 0, .slice none 0 0, .slice none 0 0, .int .i64 0, .int .i64 0, .slice none 0 0, .int .i64 0, .slice none 0 0, .slice none 0 0, .slice none 0 0], .agg #[.slice none 0 0, .int .i64 0, .slice none 0 0, .slice none 0 0, .int .i64 0, .int .i64 0, .slice none 0 0, .int .i64 0, .slice none 0 0, .slice none 0 0, .slice none 0 0]] : Array Value).toList 8 = some ([.lit (.int .i64 0), .nil, .nil, .agg [.nil, .agg [.lit (.int .i64 0), .nil, .nil, .lit (.int .i64 0), .lit (.int .i64 0), .nil, .lit (.int .i64 0), .nil, .nil, .nil]], .agg [.nil, .agg [.lit (.int .i64 0), .nil, .nil, .lit (.int .i64 0), .lit (.int .i64 0), .nil, .lit (.int .i64 0), .nil, .nil, .nil]]], [], places) :=
  ⟨[], by kernel_rfl⟩

set_option maxRecDepth 100000 in
theorem pathOneLifted (os : Os) (started : os.Started) (H : Type) (enc : TypeId × Value → H) (F : Stop.Interp) :
    ReturnsInHanded {} Tryz.checked os 4 .any ((OpenSpec.ofChange Rows.pathOneSpec).preRow enc Tryz.prog Tryz.f4 Rows.pathOneRow.domain false Rows.pathOneRow.laid) (((OpenSpec.ofChange Rows.pathOneSpec).at F).post enc Tryz.prog Tryz.f4 false true false false) := by
  obtain ⟨places, hx⟩ := pathOneReads os enc
  refine returnsInHanded_of_row (C := Tryz.checked) (s := OpenSpec.ofChange Rows.pathOneSpec) own started (by kernel_rfl) Tryz.func4
    (witness_row_at (enc := enc) (C := Tryz.checked) false ({ World.holding Tryz.prog os ⟨#[], #[], []⟩ with heap := ((World.holding Tryz.prog os ⟨#[], #[], []⟩).heap.modify 0 fun | .cells _ t frozen => .cells startCells t frozen | o => o).modify 1 fun | .cells _ t frozen => .cells roundsCells t frozen | o => o } : World) #[.int .i64 0, .slice none 0 0, .slice none 0 0, .agg #[.slice none 0 0, .int .i64 0, .slice none 0 0, .slice none 0 0, .int .i64 0, .int .i64 0, .slice none 0 0, .int .i64 0, .slice none 0 0, .slice none 0 0, .slice none 0 0], .agg #[.slice none 0 0, .int .i64 0, .slice none 0 0, .slice none 0 0, .int .i64 0, .int .i64 0, .slice none 0 0, .int .i64 0, .slice none 0 0, .slice none 0 0, .slice none 0 0]] rfl (by kernel_rfl) (by kernel_rfl) (by kernel_rfl)
      (OpenSpec.preRow_of_cond 8 hx (by kernel_rfl) (fun k hk => by cases hk) (by kernel_rfl) (pathOneMet os))) ?_
  intro W base args ds gs before hval hW _ _ hsz hL _ _
  exact pathOneContract H enc W base args ds gs before hval hW hsz hL

theorem pathOneSaid_holds : Rows.PathOneSaid :=
  OpenClaim.holds_of_cond 4 Tryz.f4 rfl rfl rfl rfl rfl rfl rfl ⟨rfl, rfl, rfl, rfl, rfl⟩ rfl rfl rfl rfl rfl (by kernel_rfl) Tryz.func4 (by kernel_rfl)
    (of_decide_eq_true (by kernel_rfl)) (by unfold Func.isWrapper; first | (rw [if_pos (by decide +kernel)]; kernel_rfl) | (rw [if_neg (by decide +kernel)]; exact ⟨rfl, rfl⟩))
    (fun os started H enc _ F => by rw [OpenClaim.pre_eq_preRow]; exact pathOneLifted os started H enc F)

theorem pathOnePlain (f : FuncId) (fn : Func) (hf : Tryz.pinned.checked.prog.funcNamed "annals/annalslaw17.PathOne" = some f) (hfn : Tryz.pinned.checked.prog.funcs[f]? = some fn) :
    true = Tryz.pinned.checked.prog.looks [] ∧ ∀ (j : Nat) t, fn.params[j]? = some t → Tryz.pinned.checked.prog.wantsStandIn t = false := by
  obtain rfl : f = 4 := Option.some.inj ((show Tryz.prog.funcNamed "annals/annalslaw17.PathOne" = some 4 by kernel_rfl).symm.trans hf) |>.symm
  obtain rfl : fn = Tryz.f4 := (Option.some.inj (Tryz.func4.symm.trans hfn)).symm
  refine ⟨by kernel_rfl, fun j t ht => ?_⟩
  rw [Tryz.params4] at ht
  have hm : t = 3 ∨ t = 22 ∨ t = 22 ∨ t = 28 ∨ t = 28 := by simpa using Array.mem_of_getElem? ht
  rcases hm with rfl | rfl | rfl | rfl | rfl
  · exact (show Tryz.prog.wantsStandIn 3 = false by kernel_rfl)
  · exact (show Tryz.prog.wantsStandIn 22 = false by kernel_rfl)
  · exact (show Tryz.prog.wantsStandIn 22 = false by kernel_rfl)
  · exact (show Tryz.prog.wantsStandIn 28 = false by kernel_rfl)
  · exact (show Tryz.prog.wantsStandIn 28 = false by kernel_rfl)

theorem pathOne_holds : Rows.PathOneCardSaid :=
  Claim7.holds_tied_plain_at .later [] _ _ _ _ pathOneSaid_holds (fun _ h => by cases h) (by kernel_rfl) (fun _ h => by cases h) pathOne_row_tie rfl ⟨rfl, rfl⟩ (by kernel_rfl) rfl pathOnePlain (by kernel_rfl)

#print axioms pathOne_holds
end Go.Proofs.YtahfjemllkbpgaaGreatDoor
