/- What this text proves: the walk of the statement SeekOne over this program: it answers true for any looks. (By program: held.py, mkekone.py.) Proved here: Rows.SeekOneCardSaid: for every size, head, two lists of looks and time the Go function annalslaw20.SeekOne returns true (two lists of looks that both are taken find one record, or the first two records in which they part have one hash). No condition but the tables, which lie in their variables as the program's text has them. -/
import Derived.Test.YtpndpmkoegmbkaaDoorJEl
import Derived.Test.YtpndpmkoegmbkaaDoorJEo
import Derived.Test.YtpndpmkoegmbkaaDoorJSm
import Derived.Test.YtpndpmkoegmbkaaDoorJAq
import Derived.BigGuardPart
import Derived.Test.YtpndpmkoegmbkaaDoorJOq
namespace Go.Proofs.YtpndpmkoegmbkaaDoor
open Go.RowKit

/-- What Check answers, its record and its error told by letters. -/
theorem check_gen (size t : Int) (hd : Rc) (tv lv kv sv : Value) (ss : List (List Rc)) (w : World) (h1 : HB w tv hd.tr) (h2 : HB w lv hd.li) (h3 : PA w kv hd.lk) (hQ : QA w sv ss) (hTD : TD w) (hT : Tabs w) :
    Calls Tryd.prog 14 #[.int .i64 size, .agg #[.int .i64 hd.e, .int .i64 hd.t, tv, .int .i64 hd.c, lv, kv], sv, .int .i64 t] w fun x w' => ∃ (r : Rc) (z : Int) (rtp : Option Addr) (rtc : Nat) (rlp : Option Addr) (rlc : Nat) (rkp : Option Addr) (rkc : Nat), x = .returned (.tuple #[.agg #[.int .i64 r.e, .int .i64 r.t, .slice rtp r.tr.length rtc, .int .i64 r.c, .slice rlp r.li.length rlc, .slice rkp r.lk.length rkc], .int .i64 z]) ∧ (z = 95 ∨ (z = 0 ∧ Hid (chkR size hd ss t = some r))) ∧ HB w' (.slice rtp r.tr.length rtc) r.tr ∧ HB w' (.slice rlp r.li.length rlc) r.li ∧ PA w' (.slice rkp r.lk.length rkc) r.lk ∧ Below w.heap.size w w' := by
  refine (check_any size t hd tv lv kv sv ss w h1 h2 h3 hQ hTD hT).mono ?_
  rintro x w' ⟨tp, tc, lp, lc, kp, kc, e, g1, g2, g3, g4⟩
  cases hR : chkR size hd ss t with
  | none =>
    rw [hR] at e g1 g2 g3
    exact ⟨zR, 95, tp, tc, lp, lc, kp, kc, e, .inl rfl, g1, g2, g3, g4⟩
  | some r =>
    rw [hR] at e g1 g2 g3
    exact ⟨r, 0, tp, tc, lp, lc, kp, kc, e, .inr ⟨rfl, rfl⟩, g1, g2, g3, g4⟩

set_option maxRecDepth 100000 in
set_option maxHeartbeats 8000000 in
theorem ekOneWalk (size t : Int) (hd : Rc) (tv lv kv v1 v2 : Value) (one other : List (List Rc)) (w : World) (h1 : HB w tv hd.tr) (h2 : HB w lv hd.li) (h3 : PA w kv hd.lk) (hO : QA w v1 one) (hP : QA w v2 other) (hTD : TD w) (hT : Tabs w) :
    Calls Tryd.prog 6 #[.int .i64 size, .agg #[.int .i64 hd.e, .int .i64 hd.t, tv, .int .i64 hd.c, lv, kv], v1, v2, .int .i64 t] w fun x w' => x = .returned (.bool true) ∧ Below w.heap.size w w' := by
  obtain ⟨htp, htc, rfl⟩ := h1.shape
  obtain ⟨hlp, hlc, rfl⟩ := h2.shape
  obtain ⟨hkp, hkc, rfl⟩ := h3.shape
  obtain ⟨op, oc, rfl⟩ := hO.shape
  obtain ⟨pp, pc, rfl⟩ := hP.shape
  have bA := (Below.refl w.heap.size w).alloc (Nat.le_refl _) (.cells #[.int .i64 hd.e, .int .i64 hd.t, .slice htp hd.tr.length htc, .int .i64 hd.c, .slice hlp hd.li.length hlc, .slice hkp hd.lk.length hkc] 25)
  have gA := heap_alloc_new w (.cells #[.int .i64 hd.e, .int .i64 hd.t, .slice htp hd.tr.length htc, .int .i64 hd.c, .slice hlp hd.li.length hlc, .slice hkp hd.lk.length hkc] 25)
  obtain ⟨X, hX⟩ : ∃ X, X = w.alloc (.cells #[.int .i64 hd.e, .int .i64 hd.t, .slice htp hd.tr.length htc, .int .i64 hd.c, .slice hlp hd.li.length hlc, .slice hkp hd.lk.length hkc] 25) := ⟨_, rfl⟩
  rw [← hX] at bA gA
  have g0 : w.heap.size < X.heap.size := (Array.getElem?_eq_some_iff.1 gA).1
  have y0 : X.cell? ⟨w.heap.size, 0, none⟩ = some (.int .i64 hd.e) := by rw [cell_of_row _ _ _ _ _ _ gA]; rfl
  have y1 : X.cell? ⟨w.heap.size, 1, none⟩ = some (.int .i64 hd.t) := by rw [cell_of_row _ _ _ _ _ _ gA]; rfl
  have y2 : X.cell? ⟨w.heap.size, 2, none⟩ = some (.slice htp hd.tr.length htc) := by rw [cell_of_row _ _ _ _ _ _ gA]; rfl
  have y3 : X.cell? ⟨w.heap.size, 3, none⟩ = some (.int .i64 hd.c) := by rw [cell_of_row _ _ _ _ _ _ gA]; rfl
  have y4 : X.cell? ⟨w.heap.size, 4, none⟩ = some (.slice hlp hd.li.length hlc) := by rw [cell_of_row _ _ _ _ _ _ gA]; rfl
  have y5 : X.cell? ⟨w.heap.size, 5, none⟩ = some (.slice hkp hd.lk.length hkc) := by rw [cell_of_row _ _ _ _ _ _ gA]; rfl
  rw [hX] at y0 y1 y2 y3 y4 y5
  have BB := bA
  by_cases l1 : (20 : Int) < (one.length : Int)
  · clear hO hP
    go_enter Tryd.func6, Tryd.ntmps6
    go_wp2_with fail
    rw [← hX]
    refine (ekAwake_any _).mono ?_
    rintro e9 w9 ⟨rfl, b9⟩
    have bf := BB.trans (b9.mono BB.size)
    go_wp2
    go_ret
    exact ⟨rfl, bf⟩
  · by_cases l2 : (20 : Int) < (other.length : Int)
    · clear hO hP
      go_enter Tryd.func6, Tryd.ntmps6
      go_wp2_with fail
      rw [← hX]
      refine (ekAwake_any _).mono ?_
      rintro e9 w9 ⟨rfl, b9⟩
      have bf := BB.trans (b9.mono BB.size)
      go_wp2
      go_ret
      exact ⟨rfl, bf⟩
    · have hF1 := check_gen size t hd _ _ _ _ one X (h1.later bA) (h2.later bA) (h3.later bA) (hO.later bA) (hTD.later bA) (hT.later bA)
      clear BB
      go_enter Tryd.func6, Tryd.ntmps6
      go_wp2_with fail
      rw [← hX]
      refine hF1.mono ?_
      rintro e1 w1 ⟨r, er1, rtp, rtc, rlp, rlc, rkp, rkc, rfl, HK1, r1, r2, r3, b1⟩
      have bw1 := bA.trans (b1.mono bA.size)
      have gB := (b1.block _ g0).trans gA
      have bX1 := (Below.refl w1.heap.size w1).alloc (Nat.le_refl _) (.cells #[.int .i64 r.e, .int .i64 r.t, .slice rtp r.tr.length rtc, .int .i64 r.c, .slice rlp r.li.length rlc, .slice rkp r.lk.length rkc] 25)
      have gR := heap_alloc_new w1 (.cells #[.int .i64 r.e, .int .i64 r.t, .slice rtp r.tr.length rtc, .int .i64 r.c, .slice rlp r.li.length rlc, .slice rkp r.lk.length rkc] 25)
      obtain ⟨X1, hX1⟩ : ∃ X1, X1 = w1.alloc (.cells #[.int .i64 r.e, .int .i64 r.t, .slice rtp r.tr.length rtc, .int .i64 r.c, .slice rlp r.li.length rlc, .slice rkp r.lk.length rkc] 25) := ⟨_, rfl⟩
      rw [← hX1] at bX1 gR
      have bw2 := bw1.trans (bX1.mono bw1.size)
      have gC := (bX1.block _ (Array.getElem?_eq_some_iff.1 gB).1).trans gB
      have gr1 : w1.heap.size < X1.heap.size := (Array.getElem?_eq_some_iff.1 gR).1
      clear hF1 b1 gB y0 y1 y2 y3 y4 y5 hX gA bA g0
      have z0 : X1.cell? ⟨w.heap.size, 0, none⟩ = some (.int .i64 hd.e) := by rw [cell_of_row _ _ _ _ _ _ gC]; rfl
      have z1 : X1.cell? ⟨w.heap.size, 1, none⟩ = some (.int .i64 hd.t) := by rw [cell_of_row _ _ _ _ _ _ gC]; rfl
      have z2 : X1.cell? ⟨w.heap.size, 2, none⟩ = some (.slice htp hd.tr.length htc) := by rw [cell_of_row _ _ _ _ _ _ gC]; rfl
      have z3 : X1.cell? ⟨w.heap.size, 3, none⟩ = some (.int .i64 hd.c) := by rw [cell_of_row _ _ _ _ _ _ gC]; rfl
      have z4 : X1.cell? ⟨w.heap.size, 4, none⟩ = some (.slice hlp hd.li.length hlc) := by rw [cell_of_row _ _ _ _ _ _ gC]; rfl
      have z5 : X1.cell? ⟨w.heap.size, 5, none⟩ = some (.slice hkp hd.lk.length hkc) := by rw [cell_of_row _ _ _ _ _ _ gC]; rfl
      rw [hX1] at z0 z1 z2 z3 z4 z5
      have hF2 := check_gen size t hd _ _ _ _ other X1 (h1.later bw2) (h2.later bw2) (h3.later bw2) (hP.later bw2) (hTD.later bw2) (hT.later bw2)
      go_wp2_with fail
      rw [← hX1]
      refine hF2.mono ?_
      rintro e2 w2 ⟨s, er2, stp, stc, slp, slc, skp, skc, rfl, HK2, s1, s2, s3, b2⟩
      have bw3 := bw2.trans (b2.mono bw2.size)
      have gR2 := (b2.block _ gr1).trans gR
      have bX2 := (Below.refl w2.heap.size w2).alloc (Nat.le_refl _) (.cells #[.int .i64 s.e, .int .i64 s.t, .slice stp s.tr.length stc, .int .i64 s.c, .slice slp s.li.length slc, .slice skp s.lk.length skc] 25)
      have gS := heap_alloc_new w2 (.cells #[.int .i64 s.e, .int .i64 s.t, .slice stp s.tr.length stc, .int .i64 s.c, .slice slp s.li.length slc, .slice skp s.lk.length skc] 25)
      obtain ⟨X2, hX2⟩ : ∃ X2, X2 = w2.alloc (.cells #[.int .i64 s.e, .int .i64 s.t, .slice stp s.tr.length stc, .int .i64 s.c, .slice slp s.li.length slc, .slice skp s.lk.length skc] 25) := ⟨_, rfl⟩
      rw [← hX2] at bX2 gS
      have BB := bw3.trans (bX2.mono bw3.size)
      have gR3 := (bX2.block _ (Array.getElem?_eq_some_iff.1 gR2).1).trans gR2
      have hSa := same13_any r s _ _ _ _ _ _ X2 (((r1.later bX1).later b2).later bX2) (s1.later bX2) (((r2.later bX1).later b2).later bX2) (s2.later bX2) (((r3.later bX1).later b2).later bX2) (s3.later bX2)
      clear hF2 gR2 z0 z1 z2 z3 z4 z5 r1 r2 r3 s1 s2 s3 gR gC hX1 bX1 b2 bX2
      have a0 : X2.cell? ⟨w1.heap.size, 0, none⟩ = some (.int .i64 r.e) := by rw [cell_of_row _ _ _ _ _ _ gR3]; rfl
      have a1 : X2.cell? ⟨w1.heap.size, 1, none⟩ = some (.int .i64 r.t) := by rw [cell_of_row _ _ _ _ _ _ gR3]; rfl
      have a2 : X2.cell? ⟨w1.heap.size, 2, none⟩ = some (.slice rtp r.tr.length rtc) := by rw [cell_of_row _ _ _ _ _ _ gR3]; rfl
      have a3 : X2.cell? ⟨w1.heap.size, 3, none⟩ = some (.int .i64 r.c) := by rw [cell_of_row _ _ _ _ _ _ gR3]; rfl
      have a4 : X2.cell? ⟨w1.heap.size, 4, none⟩ = some (.slice rlp r.li.length rlc) := by rw [cell_of_row _ _ _ _ _ _ gR3]; rfl
      have a5 : X2.cell? ⟨w1.heap.size, 5, none⟩ = some (.slice rkp r.lk.length rkc) := by rw [cell_of_row _ _ _ _ _ _ gR3]; rfl
      have bb0 : X2.cell? ⟨w2.heap.size, 0, none⟩ = some (.int .i64 s.e) := by rw [cell_of_row _ _ _ _ _ _ gS]; rfl
      have bb1 : X2.cell? ⟨w2.heap.size, 1, none⟩ = some (.int .i64 s.t) := by rw [cell_of_row _ _ _ _ _ _ gS]; rfl
      have bb2 : X2.cell? ⟨w2.heap.size, 2, none⟩ = some (.slice stp s.tr.length stc) := by rw [cell_of_row _ _ _ _ _ _ gS]; rfl
      have bb3 : X2.cell? ⟨w2.heap.size, 3, none⟩ = some (.int .i64 s.c) := by rw [cell_of_row _ _ _ _ _ _ gS]; rfl
      have bb4 : X2.cell? ⟨w2.heap.size, 4, none⟩ = some (.slice slp s.li.length slc) := by rw [cell_of_row _ _ _ _ _ _ gS]; rfl
      have bb5 : X2.cell? ⟨w2.heap.size, 5, none⟩ = some (.slice skp s.lk.length skc) := by rw [cell_of_row _ _ _ _ _ _ gS]; rfl
      rw [hX2] at a0 a1 a2 a3 a4 a5 bb0 bb1 bb2 bb3 bb4 bb5
      rcases HK1 with rfl | ⟨rfl, HK1⟩
      · go_wp2_with fail
        rw [← hX2]
        refine (ekAwake_any _).mono ?_
        rintro e9 w9 ⟨rfl, b9⟩
        have bf := BB.trans (b9.mono BB.size)
        go_wp2
        go_ret
        exact ⟨rfl, bf⟩
      · rcases HK2 with rfl | ⟨rfl, HK2⟩
        · go_wp2_with fail
          rw [← hX2]
          refine (ekAwake_any _).mono ?_
          rintro e9 w9 ⟨rfl, b9⟩
          have bf := BB.trans (b9.mono BB.size)
          go_wp2
          go_ret
          exact ⟨rfl, bf⟩
        · have HF : Hid (¬ r = s → ∃ i0 k0, FDat size one other i0 k0) := fun hn => by
            rcases chk_two HK1.out HK2.out with h | h
            · exact fd_at h
            · exact absurd h hn
          clear HK1 HK2
          go_wp2_with fail
          rw [← hX2]
          refine hSa.mono ?_
          rintro e3 w3 ⟨SB, rfl, hsb, b3⟩
          have bw := BB.trans (b3.mono BB.size)
          clear hSa BB b3 a0 a1 a2 a3 a4 a5 bb0 bb1 bb2 bb3 bb4 bb5 hX2 gR3 gS
          cases SB with
          | true =>
            have BB := bw
            go_wp2_with fail
            refine (ekAwake_any _).mono ?_
            rintro e9 w9 ⟨rfl, b9⟩
            have bf := BB.trans (b9.mono BB.size)
            go_wp2
            go_ret
            exact ⟨rfl, bf⟩
          | false =>
            obtain ⟨i0, k0, hfd⟩ := HF.out (fun h => by have := hsb.2 h; cases this)
            have HI : Hid (FDat size one other i0 k0) := hfd
            obtain ⟨hi1, hi2⟩ := fd_lt hfd
            clear HF hsb hfd
            obtain ⟨ob, oo, rfl, hO2⟩ := hO.addr (by omega)
            obtain ⟨pb, po, rfl, hP2⟩ := hP.addr (by omega)
            have HO : Hid (∀ (i : Nat) (s : List Rc), one[i]? = some s → ∃ q c, w.cell? ⟨ob, oo + i, none⟩ = some (.slice q s.length c) ∧ RA w (.slice q s.length c) s) := hO2
            have HP : Hid (∀ (i : Nat) (s : List Rc), other[i]? = some s → ∃ q c, w.cell? ⟨pb, po + i, none⟩ = some (.slice q s.length c) ∧ RA w (.slice q s.length c) s) := hP2
            clear hO2 hP2 hO hP h1 h2 h3
            obtain ⟨n, hn⟩ : ∃ n : Nat, n = min one.length other.length := ⟨_, rfl⟩
            have hmn : min (one.length : Int) (other.length : Int) = (n : Int) := by omega
            have hin : i0 < n := by omega
            have hn1 : n ≤ one.length := by omega
            have hn2 : n ≤ other.length := by omega
            clear hn
            go_wp2
            go_loopw [59] (fun v wr => ∃ i : Nat, i ≤ i0 ∧ v = .int .i64 i ∧ Below w3.heap.size w3 wr) (fun v _ => n - (intOf v).toNat)
            case atStart => exact ⟨0, Nat.zero_le _, rfl, Below.refl _ _⟩
            case round =>
              obtain ⟨i, hi, rfl, hbo⟩ := hrel
              generalize wr = wo at *
              have bwo := bw.trans (hbo.mono bw.size)
              obtain ⟨a, ha⟩ : ∃ a, one[i]? = some a := ⟨_, List.getElem?_eq_getElem (by omega)⟩
              obtain ⟨b, hb⟩ : ∃ b, other[i]? = some b := ⟨_, List.getElem?_eq_getElem (by omega)⟩
              obtain ⟨ap, ac, ca, hRA⟩ := HO.out i a ha
              obtain ⟨bp, bc, cb, hRB⟩ := HP.out i b hb
              have HAi : Hid (one[i]? = some a) := ha
              have HBi : Hid (other[i]? = some b) := hb
              clear ha hb
              obtain ⟨q, hq⟩ : ∃ q : Nat, q = min a.length b.length := ⟨_, rfl⟩
              have hmq : min (a.length : Int) (b.length : Int) = (q : Int) := by omega
              have hq1 : q ≤ a.length := by omega
              have hq2 : q ≤ b.length := by omega
              have hqm : q ≤ 9223372036854775807 := by have h := hRA.len.2; unfold maxLen at h; omega
              have Hq : Hid (q = min a.length b.length) := hq
              clear hq
              have hin2 : (i : Int) < (n : Int) := by omega
              have hio : (i : Int) < (one.length : Int) := by omega
              have hip : (i : Int) < (other.length : Int) := by omega
              have hHeld : (fun W : World => W.cell? ⟨ob, oo + i, none⟩ = some (.slice ap a.length ac) ∧ W.cell? ⟨pb, po + i, none⟩ = some (.slice bp b.length bc)) wo.drew := ⟨cell_later bwo.drew ca, cell_later bwo.drew cb⟩
              go_wp2_with fail
              refine wp_region_heldN (by kernel_rfl) (fun W => W.cell? ⟨ob, oo + i, none⟩ = some (.slice ap a.length ac) ∧ W.cell? ⟨pb, po + i, none⟩ = some (.slice bp b.length bc)) 12 rfl ?_
              refine tkY 0 ⟨some 62, .move (.tmp 2), 35, "law.go:63", #[], none⟩ ?v0z1 hHeld ?y0z1 ?r0z1
              case y0z1 => (intro w hSw; (try dsimp only at hSw); go_simp) <;> with_reducible rfl
              try simp only [Act.put, List.setIfInBounds_toArray, List.set_cons_zero, List.set_cons_succ]
              refine tkY 1 ⟨some 63, .move (.tmp 15), 3, "law.go:63", #[], none⟩ ?v1z2 hHeld ?y1z2 ?r1z2
              case y1z2 => (intro w hSw; (try dsimp only at hSw); go_simp) <;> with_reducible rfl
              try simp only [Act.put, List.setIfInBounds_toArray, List.set_cons_zero, List.set_cons_succ]
              refine tkY 2 ⟨some 64, .indexAddr 35 (.tmp 62) (.tmp 63), 0, "law.go:63", #[⟨0, .data⟩, ⟨1, .data⟩], none⟩ ?v2z3 hHeld ?y2z3 ?r2z3
              case y2z3 => (intro w hSw; (try dsimp only at hSw); go_simp) <;> with_reducible rfl
              try simp only [Act.put, List.setIfInBounds_toArray, List.set_cons_zero, List.set_cons_succ]
              refine tkY 3 ⟨some 65, .load 26 (.tmp 64), 26, "law.go:63", #[⟨2, .data⟩], none⟩ ?v3z4 hHeld ?y3z4 ?r3z4
              case y3z4 => (intro w hSw; (try dsimp only at hSw); go_simp) <;> with_reducible rfl
              try simp only [Act.put, List.setIfInBounds_toArray, List.set_cons_zero, List.set_cons_succ]
              refine tkY 4 ⟨some 66, .call { callee := .builtin .len, args := #[.tmp 65], argTypes := #[26] }, 3, "law.go:63", #[⟨3, .data⟩], none⟩ ?v4z5 hHeld ?y4z5 ?r4z5
              case y4z5 => (intro w hSw; (try dsimp only at hSw); go_simp) <;> with_reducible rfl
              try simp only [Act.put, List.setIfInBounds_toArray, List.set_cons_zero, List.set_cons_succ]
              refine tkY 5 ⟨some 67, .move (.tmp 3), 35, "law.go:63", #[], none⟩ ?v5z6 hHeld ?y5z6 ?r5z6
              case y5z6 => (intro w hSw; (try dsimp only at hSw); go_simp) <;> with_reducible rfl
              try simp only [Act.put, List.setIfInBounds_toArray, List.set_cons_zero, List.set_cons_succ]
              refine tkY 6 ⟨some 68, .move (.tmp 15), 3, "law.go:63", #[], none⟩ ?v6z7 hHeld ?y6z7 ?r6z7
              case y6z7 => (intro w hSw; (try dsimp only at hSw); go_simp) <;> with_reducible rfl
              try simp only [Act.put, List.setIfInBounds_toArray, List.set_cons_zero, List.set_cons_succ]
              refine tkY 7 ⟨some 69, .indexAddr 35 (.tmp 67) (.tmp 68), 0, "law.go:63", #[⟨5, .data⟩, ⟨6, .data⟩], none⟩ ?v7z8 hHeld ?y7z8 ?r7z8
              case y7z8 => (intro w hSw; (try dsimp only at hSw); go_simp) <;> with_reducible rfl
              try simp only [Act.put, List.setIfInBounds_toArray, List.set_cons_zero, List.set_cons_succ]
              refine tkY 8 ⟨some 70, .load 26 (.tmp 69), 26, "law.go:63", #[⟨7, .data⟩], none⟩ ?v8z9 hHeld ?y8z9 ?r8z9
              case y8z9 => (intro w hSw; (try dsimp only at hSw); go_simp) <;> with_reducible rfl
              try simp only [Act.put, List.setIfInBounds_toArray, List.set_cons_zero, List.set_cons_succ]
              refine tkY 9 ⟨some 71, .call { callee := .builtin .len, args := #[.tmp 70], argTypes := #[26] }, 3, "law.go:63", #[⟨8, .data⟩], none⟩ ?v9z10 hHeld ?y9z10 ?r9z10
              case y9z10 => (intro w hSw; (try dsimp only at hSw); go_simp) <;> with_reducible rfl
              try simp only [Act.put, List.setIfInBounds_toArray, List.set_cons_zero, List.set_cons_succ]
              refine tkY 10 ⟨some 72, .call { callee := .builtin .min, args := #[.tmp 66, .tmp 71], argTypes := #[3, 3] }, 3, "law.go:63", #[⟨4, .data⟩, ⟨9, .data⟩], none⟩ ?v10z11 hHeld ?y10z11 ?r10z11
              case y10z11 => (intro w hSw; (try dsimp only at hSw); go_simp) <;> with_reducible rfl
              try simp only [Act.put, List.setIfInBounds_toArray, List.set_cons_zero, List.set_cons_succ]
              refine tkY 11 ⟨some 73, .move (.const (.int .i64 0)), 3, "law.go:63", #[], none⟩ ?v11z12 hHeld ?y11z12 ?r11z12
              case y11z12 => (intro w hSw; (try dsimp only at hSw); go_simp) <;> with_reducible rfl
              try simp only [Act.put, List.setIfInBounds_toArray, List.set_cons_zero, List.set_cons_succ]
              refine wpAnyH_done (by kernel_rfl) ?_ _
              clear hHeld
              obtain ⟨wd, hwd⟩ : ∃ wd, wd = wo.drew := ⟨_, rfl⟩
              rw [← hwd]
              have bod : Below w3.heap.size w3 wd := by rw [hwd]; exact hbo.drew
              have bwd := bw.trans (bod.mono bw.size)
              clear hwd bwo hbo
              go_wp2
              go_loopw [73] (fun v wr => ∃ k : Nat, k ≤ q ∧ v = .int .i64 k ∧ Hid (i = i0 → k ≤ k0) ∧ Below wd.heap.size wd wr) (fun v _ => q - (intOf v).toNat)
              case atStart => exact ⟨0, Nat.zero_le _, rfl, fun _ => Nat.zero_le _, Below.refl _ _⟩
              case round =>
                obtain ⟨k, hk, rfl, HIk, hbi⟩ := hrel
                have bwr := bwd.trans (hbi.mono bwd.size)
                by_cases hlt : k < q
                · obtain ⟨xb, xo, rfl⟩ := hRA.addr (by omega)
                  obtain ⟨yb, yo, rfl⟩ := hRB.addr (by omega)
                  obtain ⟨x, xtp, xtc, xlp, xlc, xkp, xkc, HOK, hx⟩ := hRA.get k (by omega)
                  obtain ⟨y, ytp, ytc, ylp, ylc, ykp, ykc, HPK, hy⟩ := hRB.get k (by omega)
                  have hxr := hx.later bwr
                  have hyr := hy.later bwr
                  obtain ⟨⟨i0', i1, i2, i3, i4, i5⟩, x1, x2, x3⟩ := hxr
                  obtain ⟨⟨j0, j1, j2, j3, j4, j5⟩, y1, y2, y3⟩ := hyr
                  clear hx hy
                  have HPr : Hid ((x = y → i = i0 → k + 1 ≤ k0) ∧ (x ≠ y → hshF size x = hshF size y)) := fd_pair HI.out hi HIk.out HAi.out HBi.out HOK.out HPK.out
                  have hlt2 : (k : Int) < (q : Int) := by omega
                  have hka : (k : Int) < (a.length : Int) := by omega
                  have hkb : (k : Int) < (b.length : Int) := by omega
                  have bD : Below wr.heap.size wr wr.drew := (Below.refl _ wr).drew
                  have HSm : Hid (∀ W, Below wr.heap.size wr W → Calls Tryd.prog 9 #[.agg #[.int .i64 x.e, .int .i64 x.t, .slice xtp x.tr.length xtc, .int .i64 x.c, .slice xlp x.li.length xlc, .slice xkp x.lk.length xkc], .agg #[.int .i64 y.e, .int .i64 y.t, .slice ytp y.tr.length ytc, .int .i64 y.c, .slice ylp y.li.length ylc, .slice ykp y.lk.length ykc]] W fun e w' => ∃ B, e = .returned (.bool B) ∧ (B = true ↔ x = y) ∧ Below W.heap.size W w') := fun W hB => same13_any x y _ _ _ _ _ _ W (x1.later hB) (y1.later hB) (x2.later hB) (y2.later hB) (x3.later hB) (y3.later hB)
                  have HHx : Hid (∀ W, Below wr.heap.size wr W → Calls Tryd.prog 12 #[.int .i64 size, .agg #[.int .i64 x.e, .int .i64 x.t, .slice xtp x.tr.length xtc, .int .i64 x.c, .slice xlp x.li.length xlc, .slice xkp x.lk.length xkc]] W fun e w' => ∃ v, e = .returned v ∧ HB w' v (hshF size x) ∧ Below W.heap.size W w') := fun W hB => rhash13_any size x.e x.t x.c _ _ _ x.tr x.li x.lk W (x1.later hB) (x2.later hB) (x3.later hB)
                  have HHy : Hid (∀ W, Below wr.heap.size wr W → Calls Tryd.prog 12 #[.int .i64 size, .agg #[.int .i64 y.e, .int .i64 y.t, .slice ytp y.tr.length ytc, .int .i64 y.c, .slice ylp y.li.length ylc, .slice ykp y.lk.length ykc]] W fun e w' => ∃ v, e = .returned v ∧ HB w' v (hshF size y) ∧ Below W.heap.size W w') := fun W hB => rhash13_any size y.e y.t y.c _ _ _ y.tr y.li y.lk W (y1.later hB) (y2.later hB) (y3.later hB)
                  have cA := cell_later bwr ca
                  have cB := cell_later bwr cb
                  have hcells : ∀ W, Below wr.heap.size wr W → W.cell? ⟨ob, oo + i, none⟩ = some (.slice (some ⟨xb, xo, none⟩) a.length ac) ∧ W.cell? ⟨pb, po + i, none⟩ = some (.slice (some ⟨yb, yo, none⟩) b.length bc) ∧ W.cell? ⟨xb, xo + k * 6, none⟩ = some (.int .i64 x.e) ∧ W.cell? ⟨xb, xo + k * 6 + 1, none⟩ = some (.int .i64 x.t) ∧ W.cell? ⟨xb, xo + k * 6 + 2, none⟩ = some (.slice xtp x.tr.length xtc) ∧ W.cell? ⟨xb, xo + k * 6 + 3, none⟩ = some (.int .i64 x.c) ∧ W.cell? ⟨xb, xo + k * 6 + 4, none⟩ = some (.slice xlp x.li.length xlc) ∧ W.cell? ⟨xb, xo + k * 6 + 5, none⟩ = some (.slice xkp x.lk.length xkc) ∧ W.cell? ⟨yb, yo + k * 6, none⟩ = some (.int .i64 y.e) ∧ W.cell? ⟨yb, yo + k * 6 + 1, none⟩ = some (.int .i64 y.t) ∧ W.cell? ⟨yb, yo + k * 6 + 2, none⟩ = some (.slice ytp y.tr.length ytc) ∧ W.cell? ⟨yb, yo + k * 6 + 3, none⟩ = some (.int .i64 y.c) ∧ W.cell? ⟨yb, yo + k * 6 + 4, none⟩ = some (.slice ylp y.li.length ylc) ∧ W.cell? ⟨yb, yo + k * 6 + 5, none⟩ = some (.slice ykp y.lk.length ykc) := by
                    intro W hB
                    exact ⟨cell_later hB cA, cell_later hB cB, cell_later hB i0', cell_later hB i1, cell_later hB i2, cell_later hB i3, cell_later hB i4, cell_later hB i5, cell_later hB j0, cell_later hB j1, cell_later hB j2, cell_later hB j3, cell_later hB j4, cell_later hB j5⟩
                  have hHeld := hcells _ bD
                  clear x1 x2 x3 y1 y2 y3 i0' i1 i2 i3 i4 i5 j0 j1 j2 j3 j4 j5 hRA hRB cA cB ca cb HI HO HP HOK HPK HAi HBi
                  go_wp2_with fail
                  refine wp_region_heldN (by kernel_rfl) (fun W => W.cell? ⟨ob, oo + i, none⟩ = some (.slice (some ⟨xb, xo, none⟩) a.length ac) ∧ W.cell? ⟨pb, po + i, none⟩ = some (.slice (some ⟨yb, yo, none⟩) b.length bc) ∧ W.cell? ⟨xb, xo + k * 6, none⟩ = some (.int .i64 x.e) ∧ W.cell? ⟨xb, xo + k * 6 + 1, none⟩ = some (.int .i64 x.t) ∧ W.cell? ⟨xb, xo + k * 6 + 2, none⟩ = some (.slice xtp x.tr.length xtc) ∧ W.cell? ⟨xb, xo + k * 6 + 3, none⟩ = some (.int .i64 x.c) ∧ W.cell? ⟨xb, xo + k * 6 + 4, none⟩ = some (.slice xlp x.li.length xlc) ∧ W.cell? ⟨xb, xo + k * 6 + 5, none⟩ = some (.slice xkp x.lk.length xkc) ∧ W.cell? ⟨yb, yo + k * 6, none⟩ = some (.int .i64 y.e) ∧ W.cell? ⟨yb, yo + k * 6 + 1, none⟩ = some (.int .i64 y.t) ∧ W.cell? ⟨yb, yo + k * 6 + 2, none⟩ = some (.slice ytp y.tr.length ytc) ∧ W.cell? ⟨yb, yo + k * 6 + 3, none⟩ = some (.int .i64 y.c) ∧ W.cell? ⟨yb, yo + k * 6 + 4, none⟩ = some (.slice ylp y.li.length ylc) ∧ W.cell? ⟨yb, yo + k * 6 + 5, none⟩ = some (.slice ykp y.lk.length ykc)) 16 rfl ?_
                  refine tkY 0 ⟨some 76, .move (.tmp 2), 35, "law.go:64", #[], none⟩ ?v0z13 hHeld ?y0z13 ?r0z13
                  case y0z13 => (intro w hSw; (try dsimp only at hSw); go_simp) <;> with_reducible rfl
                  try simp only [Act.put, List.setIfInBounds_toArray, List.set_cons_zero, List.set_cons_succ]
                  refine tkY 1 ⟨some 77, .move (.tmp 15), 3, "law.go:64", #[], none⟩ ?v1z14 hHeld ?y1z14 ?r1z14
                  case y1z14 => (intro w hSw; (try dsimp only at hSw); go_simp) <;> with_reducible rfl
                  try simp only [Act.put, List.setIfInBounds_toArray, List.set_cons_zero, List.set_cons_succ]
                  refine tkY 2 ⟨some 78, .indexAddr 35 (.tmp 76) (.tmp 77), 0, "law.go:64", #[⟨0, .data⟩, ⟨1, .data⟩], none⟩ ?v2z15 hHeld ?y2z15 ?r2z15
                  case y2z15 => (intro w hSw; (try dsimp only at hSw); go_simp) <;> with_reducible rfl
                  try simp only [Act.put, List.setIfInBounds_toArray, List.set_cons_zero, List.set_cons_succ]
                  refine tkY 3 ⟨some 79, .load 26 (.tmp 78), 26, "law.go:64", #[⟨2, .data⟩], none⟩ ?v3z16 hHeld ?y3z16 ?r3z16
                  case y3z16 => (intro w hSw; (try dsimp only at hSw); go_simp) <;> with_reducible rfl
                  try simp only [Act.put, List.setIfInBounds_toArray, List.set_cons_zero, List.set_cons_succ]
                  refine tkY 4 ⟨some 80, .move (.tmp 16), 3, "law.go:64", #[], none⟩ ?v4z17 hHeld ?y4z17 ?r4z17
                  case y4z17 => (intro w hSw; (try dsimp only at hSw); go_simp) <;> with_reducible rfl
                  try simp only [Act.put, List.setIfInBounds_toArray, List.set_cons_zero, List.set_cons_succ]
                  refine tkY 5 ⟨some 81, .indexAddr 26 (.tmp 79) (.tmp 80), 0, "law.go:64", #[⟨3, .data⟩, ⟨4, .data⟩], none⟩ ?v5z18 hHeld ?y5z18 ?r5z18
                  case y5z18 => (intro w hSw; (try dsimp only at hSw); go_simp) <;> with_reducible rfl
                  try simp only [Act.put, List.setIfInBounds_toArray, List.set_cons_zero, List.set_cons_succ]
                  refine tkY 6 ⟨some 82, .load 25 (.tmp 81), 25, "law.go:64", #[⟨5, .data⟩], none⟩ ?v6z19 hHeld ?y6z19 ?r6z19
                  case y6z19 => (intro w hSw; (try dsimp only at hSw); go_simp) <;> with_reducible rfl
                  try simp only [Act.put, List.setIfInBounds_toArray, List.set_cons_zero, List.set_cons_succ]
                  refine tkY 7 ⟨some 83, .move (.tmp 3), 35, "law.go:64", #[], none⟩ ?v7z20 hHeld ?y7z20 ?r7z20
                  case y7z20 => (intro w hSw; (try dsimp only at hSw); go_simp) <;> with_reducible rfl
                  try simp only [Act.put, List.setIfInBounds_toArray, List.set_cons_zero, List.set_cons_succ]
                  refine tkY 8 ⟨some 84, .move (.tmp 15), 3, "law.go:64", #[], none⟩ ?v8z21 hHeld ?y8z21 ?r8z21
                  case y8z21 => (intro w hSw; (try dsimp only at hSw); go_simp) <;> with_reducible rfl
                  try simp only [Act.put, List.setIfInBounds_toArray, List.set_cons_zero, List.set_cons_succ]
                  refine tkY 9 ⟨some 85, .indexAddr 35 (.tmp 83) (.tmp 84), 0, "law.go:64", #[⟨7, .data⟩, ⟨8, .data⟩], none⟩ ?v9z22 hHeld ?y9z22 ?r9z22
                  case y9z22 => (intro w hSw; (try dsimp only at hSw); go_simp) <;> with_reducible rfl
                  try simp only [Act.put, List.setIfInBounds_toArray, List.set_cons_zero, List.set_cons_succ]
                  refine tkY 10 ⟨some 86, .load 26 (.tmp 85), 26, "law.go:64", #[⟨9, .data⟩], none⟩ ?v10z23 hHeld ?y10z23 ?r10z23
                  case y10z23 => (intro w hSw; (try dsimp only at hSw); go_simp) <;> with_reducible rfl
                  try simp only [Act.put, List.setIfInBounds_toArray, List.set_cons_zero, List.set_cons_succ]
                  refine tkY 11 ⟨some 87, .move (.tmp 16), 3, "law.go:64", #[], none⟩ ?v11z24 hHeld ?y11z24 ?r11z24
                  case y11z24 => (intro w hSw; (try dsimp only at hSw); go_simp) <;> with_reducible rfl
                  try simp only [Act.put, List.setIfInBounds_toArray, List.set_cons_zero, List.set_cons_succ]
                  refine tkY 12 ⟨some 88, .indexAddr 26 (.tmp 86) (.tmp 87), 0, "law.go:64", #[⟨10, .data⟩, ⟨11, .data⟩], none⟩ ?v12z25 hHeld ?y12z25 ?r12z25
                  case y12z25 => (intro w hSw; (try dsimp only at hSw); go_simp) <;> with_reducible rfl
                  try simp only [Act.put, List.setIfInBounds_toArray, List.set_cons_zero, List.set_cons_succ]
                  refine tkY 13 ⟨some 89, .load 25 (.tmp 88), 25, "law.go:64", #[⟨12, .data⟩], none⟩ ?v13z26 hHeld ?y13z26 ?r13z26
                  case y13z26 => (intro w hSw; (try dsimp only at hSw); go_simp) <;> with_reducible rfl
                  try simp only [Act.put, List.setIfInBounds_toArray, List.set_cons_zero, List.set_cons_succ]
                  refine wpAnyH_ready (rs := [14]) (by kernel_rfl) (by simp) ?_
                  refine AllReadyH.cons (o := ⟨some 90, .call { callee := .value (.func 9), args := #[.tmp 82, .tmp 89], argTypes := #[25, 25] }, 4, "law.go:64", #[⟨6, .data⟩, ⟨13, .data⟩], none⟩) rfl (fun K hK => ?_) AllReadyH.nil
                  go_simp
                  refine (HSm.out _ bD).mono ?_
                  rintro e3 w4 ⟨SB, rfl, hsb, b4'⟩
                  have HSB : Hid (SB = true ↔ x = y) := hsb
                  clear hsb
                  have b4 := bD.trans (b4'.mono bD.size)
                  replace hHeld := hcells w4 b4
                  cases SB with
                  | true =>
                    refine hK.out _ _ ?_ (fun _ => ?_)
                    · exact hHeld
                    clear hK K
                    try simp only [Act.put, List.setIfInBounds_toArray, List.set_cons_zero, List.set_cons_succ]
                    refine tkY 15 ⟨some 91, .unOp .not 4 (.tmp 90), 4, "law.go:64", #[⟨14, .data⟩], none⟩ ?v15z27 hHeld ?y15z27 ?r15z27
                    case y15z27 => (intro w hSw; (try dsimp only at hSw); go_simp) <;> with_reducible rfl
                    try simp only [Act.put, List.setIfInBounds_toArray, List.set_cons_zero, List.set_cons_succ]
                    refine wpAnyH_done (by kernel_rfl) ?_ _
                    have HE2 : Hid (i = i0 → k + 1 ≤ k0) := (HPr.out).1 (HSB.out.1 (by trivial))
                    have bN := hbi.trans (b4.mono hbi.size)
                    clear hHeld hcells HSm HHx HHy HPr HSB HIk
                    go_wp2
                    go_roundw
                    case rel => first | exact ⟨k + 1, by omega, by go_num, HE2, bN⟩ | ((repeat apply Exists.intro); exact ⟨⟨k + 1, by omega, by go_num, HE2, bN⟩, rfl⟩)
                    case measure => simp [intOf]; omega
                  | false =>
                    refine hK.out _ _ ?_ (fun _ => ?_)
                    · exact hHeld
                    clear hK K
                    try simp only [Act.put, List.setIfInBounds_toArray, List.set_cons_zero, List.set_cons_succ]
                    refine tkY 15 ⟨some 91, .unOp .not 4 (.tmp 90), 4, "law.go:64", #[⟨14, .data⟩], none⟩ ?v15z28 hHeld ?y15z28 ?r15z28
                    case y15z28 => (intro w hSw; (try dsimp only at hSw); go_simp) <;> with_reducible rfl
                    try simp only [Act.put, List.setIfInBounds_toArray, List.set_cons_zero, List.set_cons_succ]
                    refine wpAnyH_done (by kernel_rfl) ?_ _
                    have HHe : Hid (hshF size x = hshF size y) := (HPr.out).2 (fun h => by have := HSB.out.2 h; cases this)
                    rw [← HHe.out] at HHy
                    clear hHeld HHe HSB HSm HPr HIk
                    obtain ⟨HX, hHX⟩ : ∃ HX, HX = hshF size x := ⟨_, rfl⟩
                    rw [← hHX] at HHx HHy
                    clear hHX
                    have bD4 : Below wr.heap.size wr w4.drew := b4.drew
                    have hHeld := hcells _ bD4
                    go_wp2_with fail
                    refine wp_region_heldN (by kernel_rfl) (fun W => W.cell? ⟨ob, oo + i, none⟩ = some (.slice (some ⟨xb, xo, none⟩) a.length ac) ∧ W.cell? ⟨pb, po + i, none⟩ = some (.slice (some ⟨yb, yo, none⟩) b.length bc) ∧ W.cell? ⟨xb, xo + k * 6, none⟩ = some (.int .i64 x.e) ∧ W.cell? ⟨xb, xo + k * 6 + 1, none⟩ = some (.int .i64 x.t) ∧ W.cell? ⟨xb, xo + k * 6 + 2, none⟩ = some (.slice xtp x.tr.length xtc) ∧ W.cell? ⟨xb, xo + k * 6 + 3, none⟩ = some (.int .i64 x.c) ∧ W.cell? ⟨xb, xo + k * 6 + 4, none⟩ = some (.slice xlp x.li.length xlc) ∧ W.cell? ⟨xb, xo + k * 6 + 5, none⟩ = some (.slice xkp x.lk.length xkc) ∧ W.cell? ⟨yb, yo + k * 6, none⟩ = some (.int .i64 y.e) ∧ W.cell? ⟨yb, yo + k * 6 + 1, none⟩ = some (.int .i64 y.t) ∧ W.cell? ⟨yb, yo + k * 6 + 2, none⟩ = some (.slice ytp y.tr.length ytc) ∧ W.cell? ⟨yb, yo + k * 6 + 3, none⟩ = some (.int .i64 y.c) ∧ W.cell? ⟨yb, yo + k * 6 + 4, none⟩ = some (.slice ylp y.li.length ylc) ∧ W.cell? ⟨yb, yo + k * 6 + 5, none⟩ = some (.slice ykp y.lk.length ykc)) 23 rfl ?_
                    refine tkY 0 ⟨some 92, .move (.tmp 0), 3, "law.go:65", #[], none⟩ ?v0z29 hHeld ?y0z29 ?r0z29
                    case y0z29 => (intro w hSw; (try dsimp only at hSw); go_simp) <;> with_reducible rfl
                    try simp only [Act.put, List.setIfInBounds_toArray, List.set_cons_zero, List.set_cons_succ]
                    refine tkY 1 ⟨some 93, .move (.tmp 2), 35, "law.go:65", #[], none⟩ ?v1z30 hHeld ?y1z30 ?r1z30
                    case y1z30 => (intro w hSw; (try dsimp only at hSw); go_simp) <;> with_reducible rfl
                    try simp only [Act.put, List.setIfInBounds_toArray, List.set_cons_zero, List.set_cons_succ]
                    refine tkY 2 ⟨some 94, .move (.tmp 15), 3, "law.go:65", #[], none⟩ ?v2z31 hHeld ?y2z31 ?r2z31
                    case y2z31 => (intro w hSw; (try dsimp only at hSw); go_simp) <;> with_reducible rfl
                    try simp only [Act.put, List.setIfInBounds_toArray, List.set_cons_zero, List.set_cons_succ]
                    refine tkY 3 ⟨some 95, .indexAddr 35 (.tmp 93) (.tmp 94), 0, "law.go:65", #[⟨1, .data⟩, ⟨2, .data⟩], none⟩ ?v3z32 hHeld ?y3z32 ?r3z32
                    case y3z32 => (intro w hSw; (try dsimp only at hSw); go_simp) <;> with_reducible rfl
                    try simp only [Act.put, List.setIfInBounds_toArray, List.set_cons_zero, List.set_cons_succ]
                    refine tkY 4 ⟨some 96, .load 26 (.tmp 95), 26, "law.go:65", #[⟨3, .data⟩], none⟩ ?v4z33 hHeld ?y4z33 ?r4z33
                    case y4z33 => (intro w hSw; (try dsimp only at hSw); go_simp) <;> with_reducible rfl
                    try simp only [Act.put, List.setIfInBounds_toArray, List.set_cons_zero, List.set_cons_succ]
                    refine tkY 5 ⟨some 97, .move (.tmp 16), 3, "law.go:65", #[], none⟩ ?v5z34 hHeld ?y5z34 ?r5z34
                    case y5z34 => (intro w hSw; (try dsimp only at hSw); go_simp) <;> with_reducible rfl
                    try simp only [Act.put, List.setIfInBounds_toArray, List.set_cons_zero, List.set_cons_succ]
                    refine tkY 6 ⟨some 98, .indexAddr 26 (.tmp 96) (.tmp 97), 0, "law.go:65", #[⟨4, .data⟩, ⟨5, .data⟩], none⟩ ?v6z35 hHeld ?y6z35 ?r6z35
                    case y6z35 => (intro w hSw; (try dsimp only at hSw); go_simp) <;> with_reducible rfl
                    try simp only [Act.put, List.setIfInBounds_toArray, List.set_cons_zero, List.set_cons_succ]
                    refine tkY 7 ⟨some 99, .load 25 (.tmp 98), 25, "law.go:65", #[⟨6, .data⟩], none⟩ ?v7z36 hHeld ?y7z36 ?r7z36
                    case y7z36 => (intro w hSw; (try dsimp only at hSw); go_simp) <;> with_reducible rfl
                    try simp only [Act.put, List.setIfInBounds_toArray, List.set_cons_zero, List.set_cons_succ]
                    refine tkY 9 ⟨some 101, .move (.tmp 0), 3, "law.go:65", #[], none⟩ ?v9z37 hHeld ?y9z37 ?r9z37
                    case y9z37 => (intro w hSw; (try dsimp only at hSw); go_simp) <;> with_reducible rfl
                    try simp only [Act.put, List.setIfInBounds_toArray, List.set_cons_zero, List.set_cons_succ]
                    refine tkY 10 ⟨some 102, .move (.tmp 3), 35, "law.go:65", #[], none⟩ ?v10z38 hHeld ?y10z38 ?r10z38
                    case y10z38 => (intro w hSw; (try dsimp only at hSw); go_simp) <;> with_reducible rfl
                    try simp only [Act.put, List.setIfInBounds_toArray, List.set_cons_zero, List.set_cons_succ]
                    refine tkY 11 ⟨some 103, .move (.tmp 15), 3, "law.go:65", #[], none⟩ ?v11z39 hHeld ?y11z39 ?r11z39
                    case y11z39 => (intro w hSw; (try dsimp only at hSw); go_simp) <;> with_reducible rfl
                    try simp only [Act.put, List.setIfInBounds_toArray, List.set_cons_zero, List.set_cons_succ]
                    refine tkY 12 ⟨some 104, .indexAddr 35 (.tmp 102) (.tmp 103), 0, "law.go:65", #[⟨10, .data⟩, ⟨11, .data⟩], none⟩ ?v12z40 hHeld ?y12z40 ?r12z40
                    case y12z40 => (intro w hSw; (try dsimp only at hSw); go_simp) <;> with_reducible rfl
                    try simp only [Act.put, List.setIfInBounds_toArray, List.set_cons_zero, List.set_cons_succ]
                    refine tkY 13 ⟨some 105, .load 26 (.tmp 104), 26, "law.go:65", #[⟨12, .data⟩], none⟩ ?v13z41 hHeld ?y13z41 ?r13z41
                    case y13z41 => (intro w hSw; (try dsimp only at hSw); go_simp) <;> with_reducible rfl
                    try simp only [Act.put, List.setIfInBounds_toArray, List.set_cons_zero, List.set_cons_succ]
                    refine tkY 14 ⟨some 106, .move (.tmp 16), 3, "law.go:65", #[], none⟩ ?v14z42 hHeld ?y14z42 ?r14z42
                    case y14z42 => (intro w hSw; (try dsimp only at hSw); go_simp) <;> with_reducible rfl
                    try simp only [Act.put, List.setIfInBounds_toArray, List.set_cons_zero, List.set_cons_succ]
                    refine tkY 15 ⟨some 107, .indexAddr 26 (.tmp 105) (.tmp 106), 0, "law.go:65", #[⟨13, .data⟩, ⟨14, .data⟩], none⟩ ?v15z43 hHeld ?y15z43 ?r15z43
                    case y15z43 => (intro w hSw; (try dsimp only at hSw); go_simp) <;> with_reducible rfl
                    try simp only [Act.put, List.setIfInBounds_toArray, List.set_cons_zero, List.set_cons_succ]
                    refine tkY 16 ⟨some 108, .load 25 (.tmp 107), 25, "law.go:65", #[⟨15, .data⟩], none⟩ ?v16z44 hHeld ?y16z44 ?r16z44
                    case y16z44 => (intro w hSw; (try dsimp only at hSw); go_simp) <;> with_reducible rfl
                    try simp only [Act.put, List.setIfInBounds_toArray, List.set_cons_zero, List.set_cons_succ]
                    refine wpAnyH_ready (rs := [8]) (by kernel_rfl) (by simp) ?_
                    refine AllReadyH.cons (o := ⟨some 100, .call { callee := .value (.func 12), args := #[.tmp 92, .tmp 99], argTypes := #[3, 25] }, 22, "law.go:65", #[⟨0, .data⟩, ⟨7, .data⟩], none⟩) rfl (fun K hK => ?_) AllReadyH.nil
                    go_simp
                    refine (HHx.out _ bD4).mono ?_
                    rintro e4 w5 ⟨v5, rfl, k5, b5'⟩
                    obtain ⟨p5, c5, rfl⟩ := k5.shape
                    have b5 := bD4.trans (b5'.mono bD4.size)
                    replace hHeld := hcells w5 b5
                    refine hK.out _ _ ?_ (fun _ => ?_)
                    · exact hHeld
                    clear hK K
                    try simp only [Act.put, List.setIfInBounds_toArray, List.set_cons_zero, List.set_cons_succ]
                    refine wpAnyH_ready (rs := [17]) (by kernel_rfl) (by simp) ?_
                    refine AllReadyH.cons (o := ⟨some 109, .call { callee := .value (.func 12), args := #[.tmp 101, .tmp 108], argTypes := #[3, 25] }, 22, "law.go:65", #[⟨9, .data⟩, ⟨16, .data⟩, ⟨8, .chain⟩], none⟩) rfl (fun K hK => ?_) AllReadyH.nil
                    go_simp
                    refine (HHy.out _ b5).mono ?_
                    rintro e5 w6 ⟨v6, rfl, k6, b6'⟩
                    obtain ⟨p6, c6, rfl⟩ := k6.shape
                    have b6 := b5.trans (b6'.mono b5.size)
                    replace hHeld := hcells w6 b6
                    refine hK.out _ _ ?_ (fun _ => ?_)
                    · exact hHeld
                    clear hK K
                    try simp only [Act.put, List.setIfInBounds_toArray, List.set_cons_zero, List.set_cons_succ]
                    refine wpAnyH_ready (rs := [18]) (by kernel_rfl) (by simp) ?_
                    refine AllReadyH.cons (o := ⟨some 110, .call { callee := .value (.func 11), args := #[.tmp 100, .tmp 109], argTypes := #[22, 22] }, 4, "law.go:65", #[⟨8, .data⟩, ⟨17, .data⟩, ⟨17, .chain⟩], none⟩) rfl (fun K hK => ?_) AllReadyH.nil
                    go_simp
                    refine (equal_t _ _ HX HX _ (k5.later b6') k6 rfl).mono ?_
                    rintro e6 wz ⟨rfl, hwz⟩
                    have hwz2 := hwz.symm
                    clear hwz
                    subst hwz2
                    refine hK.out _ _ ?_ (fun _ => ?_)
                    · exact hHeld
                    clear hK K
                    try simp only [Act.put, List.setIfInBounds_toArray, List.set_cons_zero, List.set_cons_succ]
                    refine tkY 19 ⟨some 111, .move (.tmp 110), 4, "law.go:65", #[⟨18, .data⟩, ⟨18, .chain⟩], none⟩ ?v19z45 hHeld ?y19z45 ?r19z45
                    case y19z45 => (intro w hSw; (try dsimp only at hSw); go_simp) <;> with_reducible rfl
                    try simp only [Act.put, List.setIfInBounds_toArray, List.set_cons_zero, List.set_cons_succ]
                    refine wpAnyH_ready (rs := [20]) (by kernel_rfl) (by simp) ?_
                    refine AllReadyH.cons (o := ⟨some 112, .call { callee := .value (.func 13), args := #[], argTypes := #[] }, 4, "law.go:65", #[⟨19, .chain⟩, ⟨19, .guard⟩], some (19, true)⟩) rfl (fun K hK => ?_) AllReadyH.nil
                    go_simp
                    refine (ekAwake_any _).mono ?_
                    rintro e7 w7 ⟨rfl, b7'⟩
                    have b7 := b6.trans (b7'.mono b6.size)
                    replace hHeld := hcells w7 b7
                    refine hK.out _ _ ?_ (fun _ => ?_)
                    · exact hHeld
                    clear hK K
                    try simp only [Act.put, List.setIfInBounds_toArray, List.set_cons_zero, List.set_cons_succ]
                    refine tkY 21 ⟨some 113, .pick (.tmp 111) (.tmp 112) (.const (.bool false)), 4, "law.go:65", #[⟨19, .data⟩, ⟨20, .data⟩], none⟩ ?v21z46 hHeld ?y21z46 ?r21z46
                    case y21z46 => (intro w hSw; (try dsimp only at hSw); go_simp) <;> with_reducible rfl
                    try simp only [Act.put, List.setIfInBounds_toArray, List.set_cons_zero, List.set_cons_succ]
                    refine tkY 22 ⟨some 10, .assign (.tmp 113), 4, "law.go:65", #[⟨21, .data⟩, ⟨20, .chain⟩, ⟨0, .phase⟩, ⟨1, .phase⟩, ⟨2, .phase⟩, ⟨3, .phase⟩, ⟨4, .phase⟩, ⟨5, .phase⟩, ⟨6, .phase⟩, ⟨7, .phase⟩, ⟨8, .phase⟩, ⟨9, .phase⟩, ⟨10, .phase⟩, ⟨11, .phase⟩, ⟨12, .phase⟩, ⟨13, .phase⟩, ⟨14, .phase⟩, ⟨15, .phase⟩, ⟨16, .phase⟩, ⟨17, .phase⟩, ⟨18, .phase⟩, ⟨19, .phase⟩, ⟨20, .phase⟩, ⟨21, .phase⟩], none⟩ ?v22z47 hHeld ?y22z47 ?r22z47
                    case y22z47 => (intro w hSw; (try dsimp only at hSw); go_simp) <;> with_reducible rfl
                    try simp only [Act.put, List.setIfInBounds_toArray, List.set_cons_zero, List.set_cons_succ]
                    refine wpAnyH_done (by kernel_rfl) ?_ _
                    have bf := bwr.trans (b7.mono bwr.size)
                    clear hHeld hcells HHx HHy
                    go_wp2
                    go_ret
                    exact ⟨rfl, bf⟩
                · have hE : i + 1 ≤ i0 := fd_end HI.out hi HIk.out HAi.out HBi.out (fun h => hlt (by have := Hq.out; omega))
                  have hge : ¬ ((k : Int) < (q : Int)) := by omega
                  have bN := bod.trans (hbi.mono bod.size)
                  clear HI HO HP HAi HBi HIk hRA hRB ca cb
                  go_wp2
                  go_roundw
                  case rel => first | exact ⟨i + 1, by omega, by go_num, bN⟩ | ((repeat apply Exists.intro); exact ⟨⟨i + 1, by omega, by go_num, bN⟩, rfl⟩)
                  case measure => simp [intOf]; omega

end Go.Proofs.YtpndpmkoegmbkaaDoor

namespace Go.Proofs.YtpndpmkoegmbkaaDoor
open Go.ChangeShapes Go.WideShapes Go.ChangeAt Go.RowKit

set_option maxRecDepth 100000 in
theorem seekOneContract (H : Type) (enc : TypeId × Value → H) (W : World) (base : Nat) (args : Array Value) (ds gs : List (DataW H)) (before : List MemPlace)
    (hval : ∀ (j : Nat) t v, Tryd.f6.params[j]? = some t → args[j]? = some v → Value.okWide Tryd.prog W .any base t v)
    (hW : DataW.Whole enc Tryd.prog Tryd.f6.params.toList Rows.seekOneSpec.vars false W args.toList ds gs before) (hsz0 : (DataW.weightsEach Tryd.prog (Tryd.f6.params.toList ++ (OpenSpec.ofChange Rows.seekOneSpec).bare.plain.varTypes Tryd.prog) (ds ++ gs)).all (· ≤ reachBytes) = true) (hL : laidMetH Tryd.prog Rows.seekOneRow.laid W) :
    Calls Tryd.prog 6 args W fun e W' => ∃ v, e = .returned v ∧ Rows.seekOneSpec.post enc Tryd.prog Tryd.f6 false true false false W args v W' := by
  have hT : Tabs W := tabs_of (laidMet.tail (laidMet.tail hL))
  have hD : TD W := td_of hL
  have hW' := hW
  obtain ⟨p, q, hA0, hV, rfl, hfz, hnd⟩ := hW
  have hA : DataW.TrodAll enc Tryd.prog W 0 (fun _ => true) true Tryd.f6.params.toList args.toList ds p := hA0
  rw [Tryd.params6] at hA hval hsz0
  obtain ⟨v0, vs0, d0, ds0, p0, q0, hargs, rfl, rfl, h0, r0⟩ := trodAll_cons hA
  obtain ⟨v1, vs1, d1, ds1, p1, q1, rfl, rfl, rfl, h1, r1⟩ := trodAll_cons r0
  obtain ⟨v2, vs2, d2, ds2, p2, q2, rfl, rfl, rfl, h2, r2⟩ := trodAll_cons r1
  obtain ⟨v3, vs3, d3, ds3, p3, q3, rfl, rfl, rfl, h3, r3⟩ := trodAll_cons r2
  obtain ⟨v4, vs4, d4, ds4, p4, q4, rfl, rfl, rfl, h4, r4⟩ := trodAll_cons r3
  obtain ⟨rfl, rfl, rfl⟩ := trodAll_nil r4
  obtain rfl : args = #[v0, v1, v2, v3, v4] := by cases args; simp_all
  obtain ⟨rfl, rfl⟩ := trodVars_none hV
  obtain ⟨a0, rfl, rfl, rfl, w0⟩ := open_int Tryd.underlying3 (hval 0 3 v0 rfl rfl) h0
  have k1 := h1
  have lt1 : ∀ x ∈ p1, x.block < W.heap.size := by obtain ⟨m, hm⟩ := k1; exact DataW.trod_lt m _ _ _ hm
  obtain ⟨re1, rt1, rc1, tv1, lv1, kv1, tr1, li1, lk1, rfl, hl1, hm1, hn1⟩ := open_rec (hval 1 25 v1 rfl rfl) h1
  have k2 := h2
  have lt2 : ∀ x ∈ p2, x.block < W.heap.size := by obtain ⟨m, hm⟩ := k2; exact DataW.trod_lt m _ _ _ hm
  obtain ⟨rs2, hl2⟩ := open_recss (hval 2 35 v2 rfl rfl) h2
  have k3 := h3
  have lt3 : ∀ x ∈ p3, x.block < W.heap.size := by obtain ⟨m, hm⟩ := k3; exact DataW.trod_lt m _ _ _ hm
  obtain ⟨rs3, hl3⟩ := open_recss (hval 3 35 v3 rfl rfl) h3
  obtain ⟨a4, rfl, rfl, rfl, w4⟩ := open_int Tryd.underlying3 (hval 4 3 v4 rfl rfl) h4
  clear hA0
  simp only [List.append_nil] at hW'
  refine (ekOneWalk a0 a4 ⟨re1, rt1, rc1, tr1, li1, lk1⟩ _ _ _ v2 v3 rs2 rs3 W hl1 hm1 hn1 hl2 hl3 (td_of hL) hT).mono fun e W' ⟨he, bel⟩ => ?_
  subst he
  exact ⟨_, rfl, _, _, _, [], _, [], hW', trodAll_mk1 (shut_bool Tryd.underlying4 _), (trodAll_cons_mk (shut_int Tryd.underlying3 w0) (trodAll_cons_mk (Below.trod laidOut (by kernel_rfl) (of_decide_eq_true (by kernel_rfl)) k1 bel lt1) (trodAll_cons_mk (Below.trod laidOut (by kernel_rfl) (of_decide_eq_true (by kernel_rfl)) k2 bel lt2) (trodAll_cons_mk (Below.trod laidOut (by kernel_rfl) (of_decide_eq_true (by kernel_rfl)) k3 bel lt3) (trodAll_cons_mk (shut_int Tryd.underlying3 w4) trodAll_mk0))))), rfl, bel.frame _, fun h => by cases h⟩

theorem seekOneMet (os : Os) : laidMet Tryd.prog Rows.seekOneRow.laid (({ World.holding Tryd.prog os ⟨#[], #[], []⟩ with heap := (((((((((World.holding Tryd.prog os ⟨#[], #[], []⟩).heap).modify 0 fun | .cells _ t frozen => .cells tab32Cells t frozen | o => o)).modify 1 fun | .cells _ t frozen => .cells tab64Cells t frozen | o => o)).modify 2 fun | .cells _ t frozen => .cells startCells t frozen | o => o)).modify 3 fun | .cells _ t frozen => .cells roundsCells t frozen | o => o) } : World).forCall (fun _ _ => 0) ⟨#[], #[.int .i64 0, .agg #[.int .i64 0, .int .i64 0, .slice none 0 0, .int .i64 0, .slice none 0 0, .slice none 0 0], .slice none 0 0, .slice none 0 0, .int .i64 0], []⟩).memory :=
  laidMet_of_run' 8 (by kernel_rfl) (by kernel_rfl)
theorem seekOneReads (os : Os) {H : Type} (enc : TypeId × Value → H) : ∃ places, DataW.whole enc Tryd.prog (({ World.holding Tryd.prog os ⟨#[], #[], []⟩ with heap := (((((((((World.holding Tryd.prog os ⟨#[], #[], []⟩).heap).modify 0 fun | .cells _ t frozen => .cells tab32Cells t frozen | o => o)).modify 1 fun | .cells _ t frozen => .cells tab64Cells t frozen | o => o)).modify 2 fun | .cells _ t frozen => .cells startCells t frozen | o => o)).modify 3 fun | .cells _ t frozen => .cells roundsCells t frozen | o => o) } : World).forCall (fun _ _ => 0) ⟨#[], #[.int .i64 0, .agg #[.int .i64 0, .int .i64 0, .slice none 0 0, .int .i64 0, .slice none 0 0, .slice none 0 0], .slice none 0 0, .slice none 0 0, .int .i64 0], []⟩).memory Tryd.f6.params.toList Rows.seekOneSpec.vars false (#[.int .i64 0, .agg #[.int .i64 0, .int .i64 0, .slice none 0 0, .int .i64 0, .slice none 0 0, .slice none 0 0], .slice none 0 0, .slice none 0 0, .int .i64 0] : Array Value).toList 8 = some ([.lit (.int .i64 0), .agg [.lit (.int .i64 0), .lit (.int .i64 0), .nil, .lit (.int .i64 0), .nil, .nil], .nil, .nil, .lit (.int .i64 0)], [], places) :=
  ⟨[], by kernel_rfl⟩

set_option maxRecDepth 100000 in
theorem seekOneLifted (os : Os) (started : os.Started) (H : Type) (enc : TypeId × Value → H) (F : Stop.Interp) :
    ReturnsInHanded {} Tryd.checked os 6 .any ((OpenSpec.ofChange Rows.seekOneSpec).preRow enc Tryd.prog Tryd.f6 Rows.seekOneRow.domain false Rows.seekOneRow.laid) (((OpenSpec.ofChange Rows.seekOneSpec).at F).post enc Tryd.prog Tryd.f6 false true false false) := by
  obtain ⟨places, hx⟩ := seekOneReads os enc
  refine returnsInHanded_of_row (C := Tryd.checked) (s := OpenSpec.ofChange Rows.seekOneSpec) own started (by kernel_rfl) Tryd.func6
    (witness_row_at (enc := enc) (C := Tryd.checked) false ({ World.holding Tryd.prog os ⟨#[], #[], []⟩ with heap := (((((((((World.holding Tryd.prog os ⟨#[], #[], []⟩).heap).modify 0 fun | .cells _ t frozen => .cells tab32Cells t frozen | o => o)).modify 1 fun | .cells _ t frozen => .cells tab64Cells t frozen | o => o)).modify 2 fun | .cells _ t frozen => .cells startCells t frozen | o => o)).modify 3 fun | .cells _ t frozen => .cells roundsCells t frozen | o => o) } : World) #[.int .i64 0, .agg #[.int .i64 0, .int .i64 0, .slice none 0 0, .int .i64 0, .slice none 0 0, .slice none 0 0], .slice none 0 0, .slice none 0 0, .int .i64 0] rfl (by kernel_rfl) (by kernel_rfl) (by kernel_rfl)
      (OpenSpec.preRow_of_cond 8 hx (by kernel_rfl) (fun k hk => by cases hk) (by kernel_rfl) (seekOneMet os))) ?_
  intro W base args ds gs before hval hW _ _ hsz hL _ _
  exact seekOneContract H enc W base args ds gs before hval hW hsz hL

theorem seekOneSaid_holds : Rows.SeekOneSaid :=
  OpenClaim.holds_of_cond 6 Tryd.f6 rfl rfl rfl rfl rfl rfl rfl ⟨rfl, rfl, rfl, rfl, rfl⟩ rfl rfl rfl rfl rfl (by kernel_rfl) Tryd.func6 (by kernel_rfl)
    (of_decide_eq_true (by kernel_rfl)) (by unfold Func.isWrapper; first | (rw [if_pos (by decide +kernel)]; kernel_rfl) | (rw [if_neg (by decide +kernel)]; exact ⟨rfl, rfl⟩))
    (fun os started H enc _ F => by rw [OpenClaim.pre_eq_preRow]; exact seekOneLifted os started H enc F)

theorem seekOnePlain (f : FuncId) (fn : Func) (hf : Tryd.pinned.checked.prog.funcNamed "annals/annalslaw20.SeekOne" = some f) (hfn : Tryd.pinned.checked.prog.funcs[f]? = some fn) :
    false = Tryd.pinned.checked.prog.looks [] ∧ ∀ (j : Nat) t, fn.params[j]? = some t → Tryd.pinned.checked.prog.wantsStandIn t = false := by
  obtain rfl : f = 6 := Option.some.inj ((show Tryd.prog.funcNamed "annals/annalslaw20.SeekOne" = some 6 by kernel_rfl).symm.trans hf) |>.symm
  obtain rfl : fn = Tryd.f6 := (Option.some.inj (Tryd.func6.symm.trans hfn)).symm
  refine ⟨by kernel_rfl, fun j t ht => ?_⟩
  rw [Tryd.params6] at ht
  have hm : t = 3 ∨ t = 25 ∨ t = 35 ∨ t = 35 ∨ t = 3 := by simpa using Array.mem_of_getElem? ht
  rcases hm with rfl | rfl | rfl | rfl | rfl
  · exact (show Tryd.prog.wantsStandIn 3 = false by kernel_rfl)
  · exact (show Tryd.prog.wantsStandIn 25 = false by kernel_rfl)
  · exact (show Tryd.prog.wantsStandIn 35 = false by kernel_rfl)
  · exact (show Tryd.prog.wantsStandIn 35 = false by kernel_rfl)
  · exact (show Tryd.prog.wantsStandIn 3 = false by kernel_rfl)

theorem seekOne_holds : Rows.SeekOneCardSaid :=
  Claim7.holds_tied_plain_at .later [] _ _ _ _ seekOneSaid_holds (fun _ h => by cases h) (by kernel_rfl) (fun _ h => by cases h) seekOne_row_tie rfl ⟨rfl, rfl⟩ (by kernel_rfl) rfl seekOnePlain (by kernel_rfl)

#print axioms seekOne_holds
end Go.Proofs.YtpndpmkoegmbkaaDoor
