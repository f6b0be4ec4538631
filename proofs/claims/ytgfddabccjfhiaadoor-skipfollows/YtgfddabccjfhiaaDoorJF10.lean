/- What this text proves: the walk of the document's Same (annalsref13) over this program, at two records that hold the same: true. What this text proves: the walk of annalslaw14.awake over this program: it answers true. What this text proves: the walk of the statement SkipFollows over this program: it answers true for any records. -/
import Derived.Test.YtgfddabccjfhiaaDoorRcVocab
import Derived.Test.YtgfddabccjfhiaaDoorJF7
import Derived.Test.YtgfddabccjfhiaaDoorJFoRFollow
namespace Go.Proofs.YtgfddabccjfhiaaDoor
open Go.RowKit

set_option maxRecDepth 100000 in
set_option maxHeartbeats 4000000 in
theorem same13_true (e t c : Int) (ta tb la lb ka kb : Value) (tr li : List UInt8) (lk : List (List UInt8)) (w : World) (h1 : HB w ta tr) (h2 : HB w tb tr) (h3 : HB w la li) (h4 : HB w lb li) (h5 : PA w ka lk) (h6 : PA w kb lk) :
    Calls Tryd.prog 14 #[.agg #[.int .i64 e, .int .i64 t, ta, .int .i64 c, la, ka], .agg #[.int .i64 e, .int .i64 t, tb, .int .i64 c, lb, kb]] w fun x w' => x = .returned (.bool true) ∧ Below w.heap.size w w' := by
  obtain ⟨p1, c1, rfl⟩ := h1.shape
  obtain ⟨p2, c2, rfl⟩ := h2.shape
  obtain ⟨p3, c3, rfl⟩ := h3.shape
  obtain ⟨p4, c4, rfl⟩ := h4.shape
  obtain ⟨p5, c5, rfl⟩ := h5.shape
  obtain ⟨p6, c6, rfl⟩ := h6.shape
  have m1 := h5.len.2
  unfold maxLen at m1
  have bA := (Below.refl w.heap.size w).alloc (Nat.le_refl _) (.cells #[.int .i64 e, .int .i64 t, .slice p1 tr.length c1, .int .i64 c, .slice p3 li.length c3, .slice p5 lk.length c5] 25)
  have gA := heap_alloc_new w (.cells #[.int .i64 e, .int .i64 t, .slice p1 tr.length c1, .int .i64 c, .slice p3 li.length c3, .slice p5 lk.length c5] 25)
  have sA : (w.alloc (.cells #[.int .i64 e, .int .i64 t, .slice p1 tr.length c1, .int .i64 c, .slice p3 li.length c3, .slice p5 lk.length c5] 25)).heap.size = w.heap.size + 1 := by simp
  obtain ⟨V, hV⟩ : ∃ V, V = w.alloc (.cells #[.int .i64 e, .int .i64 t, .slice p1 tr.length c1, .int .i64 c, .slice p3 li.length c3, .slice p5 lk.length c5] 25) := ⟨_, rfl⟩
  rw [← hV] at bA gA sA
  have bB := (Below.refl V.heap.size V).alloc (Nat.le_refl _) (.cells #[.int .i64 e, .int .i64 t, .slice p2 tr.length c2, .int .i64 c, .slice p4 li.length c4, .slice p6 lk.length c6] 25)
  have gB := heap_alloc_new V (.cells #[.int .i64 e, .int .i64 t, .slice p2 tr.length c2, .int .i64 c, .slice p4 li.length c4, .slice p6 lk.length c6] 25)
  have gC := (bB.block _ (by omega)).trans gA
  rw [sA] at gB
  obtain ⟨X, hX⟩ : ∃ X, X = V.alloc (.cells #[.int .i64 e, .int .i64 t, .slice p2 tr.length c2, .int .i64 c, .slice p4 li.length c4, .slice p6 lk.length c6] 25) := ⟨_, rfl⟩
  rw [← hX] at bB gB gC
  have bX := bA.trans (bB.mono bA.size)
  have hX2 := hX
  rw [hV] at hX2
  have q1 := (h1.later bX).str (P := Tryd.prog) 22 5 9 Tryd.underlying22 Tryd.underlying5 Tryd.underlying9
  have q2 := (h2.later bX).str (P := Tryd.prog) 22 5 9 Tryd.underlying22 Tryd.underlying5 Tryd.underlying9
  have q3 := (h3.later bX).str (P := Tryd.prog) 22 5 9 Tryd.underlying22 Tryd.underlying5 Tryd.underlying9
  have q4 := (h4.later bX).str (P := Tryd.prog) 22 5 9 Tryd.underlying22 Tryd.underlying5 Tryd.underlying9
  have k5 := h5.later bX
  have k6 := h6.later bX
  have x0 : X.cell? ⟨w.heap.size, 0, none⟩ = some (.int .i64 e) := by rw [cell_of_row _ _ _ _ _ _ gC]; rfl
  have x1 : X.cell? ⟨w.heap.size, 1, none⟩ = some (.int .i64 t) := by rw [cell_of_row _ _ _ _ _ _ gC]; rfl
  have x2 : X.cell? ⟨w.heap.size, 2, none⟩ = some (.slice p1 tr.length c1) := by rw [cell_of_row _ _ _ _ _ _ gC]; rfl
  have x3 : X.cell? ⟨w.heap.size, 3, none⟩ = some (.int .i64 c) := by rw [cell_of_row _ _ _ _ _ _ gC]; rfl
  have x4 : X.cell? ⟨w.heap.size, 4, none⟩ = some (.slice p3 li.length c3) := by rw [cell_of_row _ _ _ _ _ _ gC]; rfl
  have x5 : X.cell? ⟨w.heap.size, 5, none⟩ = some (.slice p5 lk.length c5) := by rw [cell_of_row _ _ _ _ _ _ gC]; rfl
  have y0 : X.cell? ⟨w.heap.size + 1, 0, none⟩ = some (.int .i64 e) := by rw [cell_of_row _ _ _ _ _ _ gB]; rfl
  have y1 : X.cell? ⟨w.heap.size + 1, 1, none⟩ = some (.int .i64 t) := by rw [cell_of_row _ _ _ _ _ _ gB]; rfl
  have y2 : X.cell? ⟨w.heap.size + 1, 2, none⟩ = some (.slice p2 tr.length c2) := by rw [cell_of_row _ _ _ _ _ _ gB]; rfl
  have y3 : X.cell? ⟨w.heap.size + 1, 3, none⟩ = some (.int .i64 c) := by rw [cell_of_row _ _ _ _ _ _ gB]; rfl
  have y4 : X.cell? ⟨w.heap.size + 1, 4, none⟩ = some (.slice p4 li.length c4) := by rw [cell_of_row _ _ _ _ _ _ gB]; rfl
  have y5 : X.cell? ⟨w.heap.size + 1, 5, none⟩ = some (.slice p6 lk.length c6) := by rw [cell_of_row _ _ _ _ _ _ gB]; rfl
  rw [hX2] at q1 q2 q3 q4
  clear h1 h2 h3 h4 h5 h6 bA gA sA bB gB gC hX
  go_enter Tryd.func14, Tryd.ntmps14
  go_wp2
  rw [← hX2]
  clear q1 q2 q3 q4 hX2 hV x0 x1 x2 x3 x4 y0 y1 y2 y3 y4
  go_loopw [55] (fun j wr => ∃ k : Nat, k ≤ lk.length ∧ j = .int .i64 k ∧ Below X.heap.size X wr) (fun j _ => lk.length - (intOf j).toNat)
  case atStart => exact ⟨0, Nat.zero_le _, rfl, Below.refl _ _⟩
  case round =>
    obtain ⟨k, hk, rfl, hbe⟩ := hrel
    by_cases hlt : k < lk.length
    · obtain ⟨b1, o1, rfl⟩ := k5.addr (by omega)
      obtain ⟨b2, o2, rfl⟩ := k6.addr (by omega)
      obtain ⟨q6, d6, l, gl, ec, hl⟩ := (k5.later hbe).get k hlt
      obtain ⟨q7, d7, l2, gl2, ec2, hl2⟩ := (k6.later hbe).get k hlt
      have e12 : l2 = l := by
        have := gl2.out
        rw [gl.out] at this
        exact (Option.some.inj this).symm
      subst e12
      have a1 := cell_later hbe x5
      have a2 := cell_later hbe y5
      have hlt2 : (k : Int) < (lk.length : Int) := by omega
      have z3 := hl.str (P := Tryd.prog) 22 5 9 Tryd.underlying22 Tryd.underlying5 Tryd.underlying9
      have z4 := hl2.str (P := Tryd.prog) 22 5 9 Tryd.underlying22 Tryd.underlying5 Tryd.underlying9
      have z1 := (hl.later ((Below.refl _ wr).drew)).str (P := Tryd.prog) 22 5 9 Tryd.underlying22 Tryd.underlying5 Tryd.underlying9
      have z2 := (hl2.later ((Below.refl _ wr).drew)).str (P := Tryd.prog) 22 5 9 Tryd.underlying22 Tryd.underlying5 Tryd.underlying9
      clear gl gl2
      go_wp2
      go_region
      all_goals
        go_wp2
        go_roundw
      all_goals first | exact ⟨k + 1, by omega, by go_num, hbe.drew⟩ | ((repeat apply Exists.intro); exact ⟨⟨k + 1, by omega, by go_num, hbe.drew⟩, rfl⟩) | (simp [intOf]; omega)
    · have hb := bX.trans (hbe.mono bX.size)
      go_wp2
      go_ret
      exact ⟨rfl, hb⟩

end Go.Proofs.YtgfddabccjfhiaaDoor

namespace Go.Proofs.YtgfddabccjfhiaaDoor
open Go.RowKit

theorem way70 : wayI 7 0 = [6, 4, 0] := by decide +kernel
theorem next60 : nextI 6 0 = 4 := by decide +kernel

set_option maxRecDepth 100000 in
set_option maxHeartbeats 1000000 in
theorem skAwake_any (w : World) (hT : TD w) :
    Calls Tryd.prog 33 #[] w fun x w' => x = .returned (.bool true) ∧ Below w.heap.size w w' := by
  have hW := way_any 7 0 w hT
  rw [way70] at hW
  have hN := fun w (h : TD w) => next_any 6 0 w (by omega) h
  rw [next60] at hN
  obtain ⟨L, hL⟩ : ∃ L : List Nat, L = [6, 4, 0] := ⟨_, rfl⟩
  rw [← hL] at hW
  have HL : Hid (L = [6, 4, 0]) := hL
  clear hL
  go_enter Tryd.func33, Tryd.ntmps33
  go_wp2_with fail
  refine hW.mono ?_
  rintro x w1 ⟨v1, rfl, hown, hb1⟩
  clear hW
  obtain ⟨p1, c1, rfl⟩ := owns_shape hown
  have hA := (Below.refl w1.heap.size w1).alloc (Nat.le_refl _) (.cells #[.int .i64 6, .int .i64 4, .int .i64 0] 3)
  have hI := (IA.of_owns hown).later hA
  have hJ : IA (w1.alloc (.cells #[.int .i64 6, .int .i64 4, .int .i64 0] 3)) (.slice (some ⟨w1.heap.size, 0, none⟩) 3 3) L := IA.litF w1 3 L _ 3 (0, 0) (by rw [HL.out]; rfl) (by rw [HL.out]; rfl) (by decide)
  have hE := slequal_same _ _ L _ hI hJ
  have hbA := hb1.trans (hA.mono hb1.size)
  have hTA := hT.later hbA
  clear hI hJ hown hA hT
  go_wp2_with fail
  refine hE.mono ?_
  rintro x w2 ⟨rfl, hb2⟩
  have hbB := hbA.trans (hb2.mono hbA.size)
  have hTB := hTA.later hb2
  clear hE hbA hb2 hTA
  go_wp2_with fail
  refine (hN _ hTB).mono ?_
  rintro x w3 ⟨rfl, hb3⟩
  have hbC := hbB.trans (hb3.mono hbB.size)
  clear hN
  go_wp2
  go_ret
  exact ⟨rfl, hbC⟩

end Go.Proofs.YtgfddabccjfhiaaDoor

namespace Go.Proofs.YtgfddabccjfhiaaDoor
open Go.RowKit

theorem s_rec : (Tryd.prog.info? 25).map (·.size) = some 6 := by kernel_rfl

theorem run_rfew {P : Program} {t e : TypeId} (ht : P.underlying t = some (.slice e)) (hsz : (P.info? e).map (·.size) = some 6) (p : Option Addr) (n c h : Nat) (y : Int) (hy : y = (h : Int)) (hh : h ≤ c) (w : World) :
    (Instr.slice t (.slice p n c) none (some (.int .i64 y)) none).run P w = .ok (.slice p h c) w := by
  subst hy
  obtain ⟨i, hi, hs⟩ := Option.map_eq_some_iff.1 hsz
  have he : P.elem t = e := by simp [Program.elem, ht]
  rw [run_slice_h w t p n c (by rw [he]; exact ht) .i64 (h : Int) (by omega) (by omega), he]
  cases p <;> simp [Go.sizeOf, typeInfo, hi, hs, sliced, Result.andThen, Addr.add]

/-- The record of an answer of Follow: the empty one, if there is none. -/
def folZ (R : Option Rc) : Rc := R.getD ⟨0, 0, 0, [], [], []⟩

theorem fol_gen {R : Option Rc} {w : World} {x : Ending} {w' : World} (h : FolSaid R w x w') : ∃ (rtp : Option Addr) (rtc : Nat) (rlp : Option Addr) (rlc : Nat) (rkp : Option Addr) (rkc : Nat), x = .returned (.tuple #[.agg #[.int .i64 (folZ R).e, .int .i64 (folZ R).t, .slice rtp (folZ R).tr.length rtc, .int .i64 (folZ R).c, .slice rlp (folZ R).li.length rlc, .slice rkp (folZ R).lk.length rkc], .bool R.isSome]) ∧ HB w' (.slice rtp (folZ R).tr.length rtc) (folZ R).tr ∧ HB w' (.slice rlp (folZ R).li.length rlc) (folZ R).li ∧ PA w' (.slice rkp (folZ R).lk.length rkc) (folZ R).lk ∧ Below w.heap.size w w' := by
  obtain ⟨f1, f2, f3⟩ := h
  cases R with
  | none => exact ⟨none, 0, none, 0, none, 0, f1 rfl, HB.nil _, HB.nil _, PA.nil _, f3⟩
  | some r =>
    obtain ⟨tp, tc, lp, lc, kp, kc, e, g1, g2, g3⟩ := f2 r rfl
    exact ⟨tp, tc, lp, lc, kp, kc, e, g1, g2, g3, f3⟩

set_option maxRecDepth 100000 in
set_option maxHeartbeats 8000000 in
theorem skFollowWalk (size : Int) (hd : Rc) (tv lv kv v1 : Value) (one : List Rc) (to : Int) (w : World) (h1 : HB w tv hd.tr) (h2 : HB w lv hd.li) (h3 : PA w kv hd.lk) (hO : RA w v1 one) (hTD : TD w) (hT : Tabs w) :
    Calls Tryd.prog 7 #[.int .i64 size, .agg #[.int .i64 hd.e, .int .i64 hd.t, tv, .int .i64 hd.c, lv, kv], v1, .int .i64 to] w fun x w' => x = .returned (.bool true) ∧ Below w.heap.size w w' := by
  obtain ⟨htp, htc, rfl⟩ := h1.shape
  obtain ⟨hlp, hlc, rfl⟩ := h2.shape
  obtain ⟨hkp, hkc, rfl⟩ := h3.shape
  obtain ⟨op, oc, rfl⟩ := hO.shape
  have hol := hO.len.2
  unfold maxLen at hol
  obtain ⟨n1, hn1⟩ : ∃ n1 : Nat, n1 = min one.length 40 := ⟨_, rfl⟩
  have hm1 : min (one.length : Int) 40 = (n1 : Int) := by omega
  have k1 := fun w => run_rfew (P := Tryd.prog) Tryd.underlying54 s_rec op one.length oc n1 (n1 : Int) rfl (by omega) w
  have hO1 := hO.take n1 (by omega)
  generalize one.take n1 = O at *
  clear hn1 hO
  have bY := (Below.refl w.heap.size w).alloc (Nat.le_refl _) (.cells #[.int .i64 hd.e, .int .i64 hd.t, .slice htp hd.tr.length htc, .int .i64 hd.c, .slice hlp hd.li.length hlc, .slice hkp hd.lk.length hkc] 25)
  have gY := heap_alloc_new w (.cells #[.int .i64 hd.e, .int .i64 hd.t, .slice htp hd.tr.length htc, .int .i64 hd.c, .slice hlp hd.li.length hlc, .slice hkp hd.lk.length hkc] 25)
  obtain ⟨Y, hY⟩ : ∃ Y, Y = w.alloc (.cells #[.int .i64 hd.e, .int .i64 hd.t, .slice htp hd.tr.length htc, .int .i64 hd.c, .slice hlp hd.li.length hlc, .slice hkp hd.lk.length hkc] 25) := ⟨_, rfl⟩
  rw [← hY] at bY gY
  have gy0 : w.heap.size < Y.heap.size := (Array.getElem?_eq_some_iff.1 gY).1
  have y0 : Y.cell? ⟨w.heap.size, 0, none⟩ = some (.int .i64 hd.e) := by rw [cell_of_row _ _ _ _ _ _ gY]; rfl
  have y1 : Y.cell? ⟨w.heap.size, 1, none⟩ = some (.int .i64 hd.t) := by rw [cell_of_row _ _ _ _ _ _ gY]; rfl
  have y2 : Y.cell? ⟨w.heap.size, 2, none⟩ = some (.slice htp hd.tr.length htc) := by rw [cell_of_row _ _ _ _ _ _ gY]; rfl
  have y3 : Y.cell? ⟨w.heap.size, 3, none⟩ = some (.int .i64 hd.c) := by rw [cell_of_row _ _ _ _ _ _ gY]; rfl
  have y4 : Y.cell? ⟨w.heap.size, 4, none⟩ = some (.slice hlp hd.li.length hlc) := by rw [cell_of_row _ _ _ _ _ _ gY]; rfl
  have y5 : Y.cell? ⟨w.heap.size, 5, none⟩ = some (.slice hkp hd.lk.length hkc) := by rw [cell_of_row _ _ _ _ _ _ gY]; rfl
  rw [hY] at y0 y1 y2 y3 y4 y5
  have hF1 := (follow_any size hd _ _ _ _ O to Y (h1.later bY) (h2.later bY) (h3.later bY) (hO1.later bY) (hTD.later bY) (hT.later bY)).mono (fun x w' h => fol_gen h)
  have HF2 : Hid (∀ W, Below w.heap.size w W → Calls Tryd.prog 35 #[.int .i64 size, .agg #[.int .i64 hd.e, .int .i64 hd.t, .slice htp hd.tr.length htc, .int .i64 hd.c, .slice hlp hd.li.length hlc, .slice hkp hd.lk.length hkc], .slice op n1 oc, .int .i64 to] W fun x w' => ∃ (rtp : Option Addr) (rtc : Nat) (rlp : Option Addr) (rlc : Nat) (rkp : Option Addr) (rkc : Nat), x = .returned (.tuple #[.agg #[.int .i64 (folZ (folR size hd O to)).e, .int .i64 (folZ (folR size hd O to)).t, .slice rtp (folZ (folR size hd O to)).tr.length rtc, .int .i64 (folZ (folR size hd O to)).c, .slice rlp (folZ (folR size hd O to)).li.length rlc, .slice rkp (folZ (folR size hd O to)).lk.length rkc], .bool (folR size hd O to).isSome]) ∧ HB w' (.slice rtp (folZ (folR size hd O to)).tr.length rtc) (folZ (folR size hd O to)).tr ∧ HB w' (.slice rlp (folZ (folR size hd O to)).li.length rlc) (folZ (folR size hd O to)).li ∧ PA w' (.slice rkp (folZ (folR size hd O to)).lk.length rkc) (folZ (folR size hd O to)).lk ∧ Below W.heap.size W w') := fun W hB => (rfollow_any size hd _ _ _ _ O to W (h1.later hB) (h2.later hB) (h3.later hB) (hO1.later hB)).mono (fun x w' h => fol_gen h)
  generalize folZ (folR size hd O to) = r at *
  generalize (folR size hd O to).isSome = ok at *
  go_enter Tryd.func7, Tryd.ntmps7
  go_wp2_with fail
  rw [← hY]
  refine hF1.mono ?_
  rintro e1 w1 ⟨rtp, rtc, rlp, rlc, rkp, rkc, rfl, r1, r2, r3, b1⟩
  have bw1 := bY.trans (b1.mono bY.size)
  have gB := (b1.block _ gy0).trans gY
  have bX1 := (Below.refl w1.heap.size w1).alloc (Nat.le_refl _) (.cells #[.int .i64 r.e, .int .i64 r.t, .slice rtp r.tr.length rtc, .int .i64 r.c, .slice rlp r.li.length rlc, .slice rkp r.lk.length rkc] 25)
  have gR := heap_alloc_new w1 (.cells #[.int .i64 r.e, .int .i64 r.t, .slice rtp r.tr.length rtc, .int .i64 r.c, .slice rlp r.li.length rlc, .slice rkp r.lk.length rkc] 25)
  obtain ⟨X1, hX1⟩ : ∃ X1, X1 = w1.alloc (.cells #[.int .i64 r.e, .int .i64 r.t, .slice rtp r.tr.length rtc, .int .i64 r.c, .slice rlp r.li.length rlc, .slice rkp r.lk.length rkc] 25) := ⟨_, rfl⟩
  rw [← hX1] at bX1 gR
  have bw2 := bw1.trans (bX1.mono bw1.size)
  have gC := (bX1.block _ (Array.getElem?_eq_some_iff.1 gB).1).trans gB
  have gr1 : w1.heap.size < X1.heap.size := (Array.getElem?_eq_some_iff.1 gR).1
  clear hF1 b1 gB hY k1 hm1 y0 y1 y2 y3 y4 y5
  have z0 : X1.cell? ⟨w.heap.size, 0, none⟩ = some (.int .i64 hd.e) := by rw [cell_of_row _ _ _ _ _ _ gC]; rfl
  have z1 : X1.cell? ⟨w.heap.size, 1, none⟩ = some (.int .i64 hd.t) := by rw [cell_of_row _ _ _ _ _ _ gC]; rfl
  have z2 : X1.cell? ⟨w.heap.size, 2, none⟩ = some (.slice htp hd.tr.length htc) := by rw [cell_of_row _ _ _ _ _ _ gC]; rfl
  have z3 : X1.cell? ⟨w.heap.size, 3, none⟩ = some (.int .i64 hd.c) := by rw [cell_of_row _ _ _ _ _ _ gC]; rfl
  have z4 : X1.cell? ⟨w.heap.size, 4, none⟩ = some (.slice hlp hd.li.length hlc) := by rw [cell_of_row _ _ _ _ _ _ gC]; rfl
  have z5 : X1.cell? ⟨w.heap.size, 5, none⟩ = some (.slice hkp hd.lk.length hkc) := by rw [cell_of_row _ _ _ _ _ _ gC]; rfl
  rw [hX1] at z0 z1 z2 z3 z4 z5
  go_wp2_with fail
  rw [← hX1]
  refine (HF2.out _ bw2).mono ?_
  rintro e2 w2 ⟨stp, stc, slp, slc, skp, skc, rfl, s1, s2, s3, b2⟩
  have bw3 := bw2.trans (b2.mono bw2.size)
  have gR2 := (b2.block _ gr1).trans gR
  have bX2 := (Below.refl w2.heap.size w2).alloc (Nat.le_refl _) (.cells #[.int .i64 r.e, .int .i64 r.t, .slice stp r.tr.length stc, .int .i64 r.c, .slice slp r.li.length slc, .slice skp r.lk.length skc] 25)
  have gS := heap_alloc_new w2 (.cells #[.int .i64 r.e, .int .i64 r.t, .slice stp r.tr.length stc, .int .i64 r.c, .slice slp r.li.length slc, .slice skp r.lk.length skc] 25)
  obtain ⟨X2, hX2⟩ : ∃ X2, X2 = w2.alloc (.cells #[.int .i64 r.e, .int .i64 r.t, .slice stp r.tr.length stc, .int .i64 r.c, .slice slp r.li.length slc, .slice skp r.lk.length skc] 25) := ⟨_, rfl⟩
  rw [← hX2] at bX2 gS
  have BB := bw3.trans (bX2.mono bw3.size)
  have gR3 := (bX2.block _ (Array.getElem?_eq_some_iff.1 gR2).1).trans gR2
  have hSa := same13_true r.e r.t r.c _ _ _ _ _ _ r.tr r.li r.lk X2 (((r1.later bX1).later b2).later bX2) (s1.later bX2) (((r2.later bX1).later b2).later bX2) (s2.later bX2) (((r3.later bX1).later b2).later bX2) (s3.later bX2)
  clear HF2 gR2 z0 z1 z2 z3 z4 z5 r1 r2 r3 s1 s2 s3 gR gC hX1 bX1 b2 bX2
  have a0 : X2.cell? ⟨w1.heap.size, 0, none⟩ = some (.int .i64 r.e) := by rw [cell_of_row _ _ _ _ _ _ gR3]; rfl
  have a1 : X2.cell? ⟨w1.heap.size, 1, none⟩ = some (.int .i64 r.t) := by rw [cell_of_row _ _ _ _ _ _ gR3]; rfl
  have a2 : X2.cell? ⟨w1.heap.size, 2, none⟩ = some (.slice rtp r.tr.length rtc) := by rw [cell_of_row _ _ _ _ _ _ gR3]; rfl
  have a3 : X2.cell? ⟨w1.heap.size, 3, none⟩ = some (.int .i64 r.c) := by rw [cell_of_row _ _ _ _ _ _ gR3]; rfl
  have a4 : X2.cell? ⟨w1.heap.size, 4, none⟩ = some (.slice rlp r.li.length rlc) := by rw [cell_of_row _ _ _ _ _ _ gR3]; rfl
  have a5 : X2.cell? ⟨w1.heap.size, 5, none⟩ = some (.slice rkp r.lk.length rkc) := by rw [cell_of_row _ _ _ _ _ _ gR3]; rfl
  have bb0 : X2.cell? ⟨w2.heap.size, 0, none⟩ = some (.int .i64 r.e) := by rw [cell_of_row _ _ _ _ _ _ gS]; rfl
  have bb1 : X2.cell? ⟨w2.heap.size, 1, none⟩ = some (.int .i64 r.t) := by rw [cell_of_row _ _ _ _ _ _ gS]; rfl
  have bb2 : X2.cell? ⟨w2.heap.size, 2, none⟩ = some (.slice stp r.tr.length stc) := by rw [cell_of_row _ _ _ _ _ _ gS]; rfl
  have bb3 : X2.cell? ⟨w2.heap.size, 3, none⟩ = some (.int .i64 r.c) := by rw [cell_of_row _ _ _ _ _ _ gS]; rfl
  have bb4 : X2.cell? ⟨w2.heap.size, 4, none⟩ = some (.slice slp r.li.length slc) := by rw [cell_of_row _ _ _ _ _ _ gS]; rfl
  have bb5 : X2.cell? ⟨w2.heap.size, 5, none⟩ = some (.slice skp r.lk.length skc) := by rw [cell_of_row _ _ _ _ _ _ gS]; rfl
  rw [hX2] at a0 a1 a2 a3 a4 a5 bb0 bb1 bb2 bb3 bb4 bb5
  have hok : (ok == ok) = true := by simp
  go_wp2_with fail
  rw [← hX2]
  refine hSa.mono ?_
  rintro e3 w3 ⟨rfl, b3⟩
  have bw := BB.trans (b3.mono BB.size)
  clear hSa BB b3 a0 a1 a2 a3 a4 a5 bb0 bb1 bb2 bb3 bb4 bb5 hX2 gR3 gS
  go_wp2_with fail
  refine (skAwake_any _ (hTD.later bw)).mono ?_
  rintro e9 w9 ⟨rfl, b9⟩
  have bf := bw.trans (b9.mono bw.size)
  go_wp2
  go_ret
  exact ⟨rfl, bf⟩

end Go.Proofs.YtgfddabccjfhiaaDoor
