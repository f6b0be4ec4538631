/- What this text proves: the walk of annalsref19.Check over this program: OK, where the page is shown, else ErrProof. (By program: held.py, mkfdrcheck.py.) -/
import Derived.Test.YtggficgmjbgmpaaDoorJFe
import Derived.Test.YtggficgmjbgmpaaDoorJFc
import Derived.Test.YtggficgmjbgmpaaDoorJFs
import Derived.Test.YtggficgmjbgmpaaDoorJKt
namespace Go.Proofs.YtggficgmjbgmpaaDoor
open Go.RowKit

/-- How many changes each record tells. -/
def cntK (rs : List Rk) : List Int := rs.map (·.c)
theorem cntK_len (rs : List Rk) : (cntK rs).length = rs.length := by unfold cntK; simp
theorem cntK_take (rs : List Rk) (k : Nat) (r : Rk) (h : rs[k]? = some r) : cntK (rs.take k) ++ [r.c] = cntK (rs.take (k + 1)) := by
  unfold cntK
  rw [List.take_add_one, h]
  simp

theorem good_not {size : Int} {rs : List Rk} {lss : List (List (List UInt8))} {X : List (Nat × Int × Int)} {evs cur : List Ev} {k : Nat} {x : Nat × Int × Int} (hx : X[k]? = some x) (h : RunP size rs lss (X.take k) evs cur) (hs : ¬ Stp size rs lss x cur) : ¬ Good size rs lss X evs := by
  rintro ⟨_, _, _, hg⟩
  have e : X = (X.take k ++ [x]) ++ X.drop (k + 1) := by
    have : X.take (k + 1) = X.take k ++ [x] := by rw [List.take_add_one, hx]; rfl
    rw [← this, List.take_append_drop]
  rw [e] at hg
  obtain ⟨m, hm, _⟩ := (RunP.app _ _ _ _).1 hg
  exact RunP.stop h hs ⟨m, hm⟩

set_option maxRecDepth 100000 in
set_option maxHeartbeats 8000000 in
theorem rcheck19_any (size ix lm : Int) (rv ev lv : Value) (rs : List Rk) (evs : List Ev) (lss : List (List (List UInt8))) (w : World) (hr0 : KA w rv rs) (hev : EA w ev evs) (hls : GA PA w lv lss) (hrn : rs.length ≤ 1000) (hen : evs.length ≤ 1000000) (hrc : ∀ r ∈ rs, -9223372036854775808 ≤ r.c ∧ r.c ≤ 9223372036854775807) (hix : -9223372036854775808 ≤ ix ∧ ix ≤ 9223372036854775807) (hlm : -9223372036854775808 ≤ lm ∧ lm ≤ 9223372036854775807) :
    Calls Tryd.prog 16 #[.int .i64 size, rv, .int .i64 ix, .int .i64 lm, ev, lv] w fun e w' => ∃ z : Int, e = .returned (.int .i64 z) ∧ ((z = 0 ∧ Hid (Good size rs lss (cutsG 0 (cntK rs) ix lm) evs)) ∨ (z = 95 ∧ Hid (¬ Good size rs lss (cutsG 0 (cntK rs) ix lm) evs))) ∧ Below w.heap.size w w' := by
  obtain ⟨p, c, rfl⟩ := hr0.shape
  obtain ⟨pe, ce, rfl⟩ := hev.shape
  obtain ⟨pg, cg, rfl⟩ := hls.shape
  have hgm := hls.len.2
  unfold maxLen at hgm
  obtain ⟨j0, hj0, hy0, hy1, hy2⟩ := info_parts (show (Tryd.prog.info? 3).map (fun i => (i.zero, i.size, i.bytes)) = some (some (.int .i64 0), 1, 8) by kernel_rfl)
  have hwk : ∀ x ∈ cntK rs, -9223372036854775808 ≤ x ∧ x ≤ 9223372036854775807 := fun x hx => by
    unfold cntK at hx
    obtain ⟨r, hr, rfl⟩ := List.mem_map.1 hx
    exact hrc r hr
  have HC : Hid (∀ v W, IZ W v (cntK rs) → Calls Tryd.prog 11 #[v, .int .i64 ix, .int .i64 lm] W fun e w' => ∃ u, e = .returned u ∧ w'.ownsRow W.heap.size 30 2 u (cutsG 0 (cntK rs) ix lm).length (cutCs (cutsG 0 (cntK rs) ix lm)) ∧ Below W.heap.size W w') :=
    fun v W hi => rcuts_any v _ ix lm W hi (by rw [cntK_len]; omega) hix hlm hwk
  have HI : Hid (∀ i x, (cutsG 0 (cntK rs) ix lm)[i]? = some x → x.1 = i ∧ i < rs.length) := fun i x hx => by
    obtain ⟨h1, h2⟩ := cutsG_idx _ _ _ _ i x hx
    rw [cntK_len] at h2
    exact ⟨by omega, h2⟩
  have HRg : Hid (∀ x ∈ cutsG 0 (cntK rs) ix lm, 0 ≤ x.2.1 ∧ x.2.1 < x.2.2 ∧ x.2.2 ≤ 9223372036854775807) := cutsG_range _ _ _ _ fun x hx => (hwk x hx).2
  have hXl : (cutsG 0 (cntK rs) ix lm).length ≤ rs.length := by rw [← cntK_len rs]; exact cutsG_len _ _ _ _
  generalize cutsG 0 (cntK rs) ix lm = X at *
  have HRc : Hid (∀ r ∈ rs, -9223372036854775808 ≤ r.c ∧ r.c ≤ 9223372036854775807) := hrc
  clear hix hlm hrc hwk
  go_enter Tryd.func16, Tryd.ntmps16
  go_wp2
  go_loopw [13, 22] (fun v i wr => ∃ k : Nat, k ≤ rs.length ∧ i = .int .i64 (k : Int) ∧ wr.ownsRow w.heap.size 3 1 v k (izs (cntK (rs.take k))) ∧ Below w.heap.size w wr) (fun _ i _ => rs.length - (intOf i).toNat)
  case atStart => exact ⟨0, Nat.zero_le _, rfl, World.ownsRow_nil _ _ _ _, Below.refl _ _⟩
  case round =>
    obtain ⟨k, hk, rfl, hr, hbe⟩ := hrel
    have hsz := hbe.size
    by_cases hlt : k < rs.length
    · obtain ⟨bl, o, rfl⟩ := hr0.addr (by omega)
      obtain ⟨r, t, tp, tn, tc, lp, lc, kp, kn, kc, hx, hkc⟩ := hr0.get k hlt
      obtain ⟨⟨c0, c1, c2, c3, c4, c5⟩, _⟩ := hkc.later hbe
      have hlt2 : (k : Int) < (rs.length : Int) := by omega
      have HT : Hid (izs (cntK (rs.take k)) ++ [.int .i64 r.c] = izs (cntK (rs.take (k + 1)))) := by
        show _ = _
        rw [← izs_snoc, cntK_take rs k r hx.out]
      obtain ⟨pu, cu, rfl⟩ := owns_shape hr
      obtain ⟨C, hC⟩ : ∃ C, wr.alloc (.cells #[.int .i64 r.e, .int .i64 t, .slice tp tn tc, .int .i64 r.c, .slice lp r.li.length lc, .slice kp kn kc] 41) = C := ⟨_, rfl⟩
      have bC := (Below.refl wr.heap.size wr).alloc (Nat.le_refl _) (.cells #[.int .i64 r.e, .int .i64 t, .slice tp tn tc, .int .i64 r.c, .slice lp r.li.length lc, .slice kp kn kc] 41)
      have gC := heap_alloc_new wr (.cells #[.int .i64 r.e, .int .i64 t, .slice tp tn tc, .int .i64 r.c, .slice lp r.li.length lc, .slice kp kn kc] 41)
      have hbC := hbe.alloc hsz (.cells #[.int .i64 r.e, .int .i64 t, .slice tp tn tc, .int .i64 r.c, .slice lp r.li.length lc, .slice kp kn kc] 41)
      rw [hC] at bC gC hbC
      have f3 : C.cell? ⟨wr.heap.size, 3, none⟩ = some (.int .i64 r.c) := by rw [cell_of_row _ _ _ _ _ _ gC]; rfl
      have bB := (Below.refl C.heap.size C).alloc (Nat.le_refl _) (.cells #[.int .i64 r.c] 3)
      have oB := owns_later (owns_later hr bC) bB
      have sC := hbC.size
      generalize r.c = rc at *
      clear hx hkc hr gC
      go_wp2_with (first | (at_builtin; refine wpList_append_own _ rfl (.tmp 26) (.tmp 29) 22 rfl w.heap.size 3 j0 (.int .i64 0) 1 8 Tryd.underlying22 hj0 hy0 hy1 hy2 rfl (by decide) _ _ _ rfl oB ⟨C.heap.size, 0, none⟩ 1 1 [.int .i64 rc] rfl rfl (cell_one_new _ _ _) ?ub ?uc ?ud ?ue ?_))
      case ub => first | rfl | (intro u hu; simp at hu; subst hu; rfl)
      case uc => unfold maxLen; omega
      case ud => omega
      case ue => first | omega | (simp; omega)
      intro v6 w6 hown6 hgrow6 _
      rw [HT.out] at hown6
      have hb6 : Below w.heap.size w w6 := (hbC.alloc sC _).grown hgrow6 (by simp; omega) (fun k hk => (oB.lt k hk).1)
      clear hgrow6 oB bB HT
      go_wp2
      go_roundw
      case rel => exact ⟨k + 1, by omega, by go_num, hown6, hb6⟩
      case measure => simp [intOf]; omega
    · obtain rfl : k = rs.length := by omega
      rw [List.take_length] at hr
      have hiz := IZ.of_owns hr
      obtain ⟨pu, cu, rfl⟩ := owns_shape hr
      have hC := HC.out _ _ hiz
      clear hr hiz HC
      go_wp2_with fail
      refine hC.mono ?_
      rintro e w1 ⟨u1, rfl, o1, b1'⟩
      have b1 := hbe.trans (b1'.mono hbe.size)
      have hca := CA.of_owns o1
      obtain ⟨p1, c1, rfl⟩ := owns_shape o1
      clear hC o1 b1' hbe
      by_cases z1 : X.length = 0
      · have HN : Hid (¬ Good size rs lss X evs) := fun h => by have := h.2.1; have := h.2.2.1; omega
        have q1 : ((X.length : Int) == 0) = true := by rw [z1]; rfl
        generalize X.length = XL at *
        clear z1 hca HI HRg
        go_wp2
        go_ret
        exact ⟨95, rfl, .inr ⟨rfl, HN⟩, b1⟩
      have q1 : ((X.length : Int) == 0) = false := beq_eq_false_iff_ne.2 (by omega)
      by_cases z2 : X.length = rs.length
      · by_cases z3 : lss.length = rs.length
        · have q2 : ((X.length : Int) != (rs.length : Int)) = false := by simp [z2]
          have q3 : ((X.length : Int) != (lss.length : Int)) = false := by simp [z2, z3]
          have HL : Hid (X.length = rs.length ∧ lss.length = rs.length) := ⟨z2, z3⟩
          have hgl : X.length ≤ lss.length := by omega
          clear z2 z3
          go_wp2
          go_loopw [4, 55] (fun v i wr => ∃ (k : Nat) (cur : List Ev), k ≤ X.length ∧ i = .int .i64 (k : Int) ∧ Hid (RunP size rs lss (X.take k) evs cur) ∧ EA w v cur ∧ cur.length ≤ 1000000 ∧ (Below w.heap.size w wr ∧ Below w1.heap.size w1 wr)) (fun _ i _ => X.length - (intOf i).toNat)
          case atStart => exact ⟨0, evs, Nat.zero_le _, rfl, rfl, hev, hen, b1, Below.refl _ _⟩
          case round =>
            obtain ⟨k, cur, hk, rfl, HR, hE, hcl, hbe, hbe1⟩ := hrel
            obtain ⟨pv, cv, rfl⟩ := hE.shape
            have hsz := hbe.size
            by_cases hlt : k < X.length
            · obtain ⟨x, hx⟩ : ∃ x, X[k]? = some x := ⟨_, List.getElem?_eq_getElem hlt⟩
              obtain ⟨hx1, hx2⟩ := HI.out k x hx
              obtain ⟨y1, y2, y3⟩ := HRg.out x (List.mem_of_getElem? hx)
              obtain ⟨g1, o1, hpa, hq1⟩ := (hca.later hbe1).addr (by simpa using (show 0 < X.length by omega))
              subst hpa
              have hxm : (X.map (·.2))[k]? = some x.2 := by rw [List.getElem?_map, hx]; rfl
              obtain ⟨d1, d2⟩ := hq1 k x.2 hxm
              obtain ⟨bl, o, rfl⟩ := hr0.addr (by omega)
              obtain ⟨r, t, tp, tn, tc, lp, lc, kp, kn, kc, hrx, hkc⟩ := hr0.get k hx2
              obtain ⟨gb, go, rfl⟩ := hls.addr (by omega)
              obtain ⟨ls, ul, hlx, cL, hL⟩ := hls.get k (by omega)
              obtain ⟨pl, cl, rfl⟩ := hL.shape
              have HXk : Hid (X[k]? = some x) := hx
              have HTk : Hid (X.take k ++ [x] = X.take (k + 1)) := by show _ = _; rw [List.take_add_one, hx]; rfl
              have hrd : rs.getD x.1 ⟨0, 0, []⟩ = r := by rw [hx1, List.getD_eq_getElem?_getD, hrx.out]; rfl
              have hld : lss.getD x.1 [] = ls := by rw [hx1, List.getD_eq_getElem?_getD, hlx.out]; rfl
              obtain ⟨n, hn⟩ : ∃ n, cutN x = n := ⟨_, rfl⟩
              have HNn : Hid (cutN x = n) := hn
              have hto : x.2.2 = x.2.1 + (n : Int) := by rw [← hn]; unfold cutN; omega
              have HSt : Hid ((n ≤ cur.length ∧ Sh size r x.2.1 (cur.take n) ls) ↔ Stp size rs lss x cur) := by
                show _ ↔ _
                unfold Stp
                rw [hrd, hld, hn]
              obtain ⟨fr, hfr⟩ : ∃ fr, x.2.1 = fr := ⟨_, rfl⟩
              obtain ⟨to, htt⟩ : ∃ to, x.2.2 = to := ⟨_, rfl⟩
              rw [hfr] at d1 y1 y2 hto HSt
              rw [htt] at d2 y2 y3 hto
              have hlt2 : (k : Int) < (X.length : Int) := by omega
              have hkr : (k : Int) < (rs.length : Int) := by omega
              have hkl : (k : Int) < (lss.length : Int) := by omega
              obtain ⟨C, hC⟩ : ∃ C, wr.alloc (.cells #[.int .i64 fr, .int .i64 to] 30) = C := ⟨_, rfl⟩
              have bC := (Below.refl wr.heap.size wr).alloc (Nat.le_refl _) (.cells #[.int .i64 fr, .int .i64 to] 30)
              have gC := heap_alloc_new wr (.cells #[.int .i64 fr, .int .i64 to] 30)
              have hbC := hbe.alloc hsz (.cells #[.int .i64 fr, .int .i64 to] 30)
              have hbC1 := hbe1.alloc hbe1.size (.cells #[.int .i64 fr, .int .i64 to] 30)
              rw [hC] at bC gC hbC hbC1
              have HEp : Hid (∀ W, Below C.heap.size C W → Calls Tryd.prog 29 #[.int .i64 size, .agg #[.int .i64 r.e, .int .i64 t, .slice tp tn tc, .int .i64 r.c, .slice lp r.li.length lc, .slice kp kn kc], .agg #[.int .i64 fr, .int .i64 to], .slice pv cur.length cv, .slice pl ls.length cl] W fun x w' => ∃ z : Int, x = .returned (.int .i64 z) ∧ ((z = (n : Int) ∧ Hid (n ≤ cur.length ∧ Sh size r fr (cur.take n) ls)) ∨ (z = -1 ∧ Hid (¬ (n ≤ cur.length ∧ Sh size r fr (cur.take n) ls)))) ∧ Below W.heap.size W w') :=
                fun W hW => by
                  have hwW := hbC.trans (hW.mono hbC.size)
                  exact repoch_any size fr to t r tp tn tc lp lc kp kn kc _ _ cur ls n W (hE.later hwW) (hL.later hwW) (hkc.2.later hwW) hcl y1 hto y3
              have ltC : wr.heap.size < C.heap.size := by rw [← hC]; simp
              have hcells : ∀ W, Below C.heap.size C W → W.cell? ⟨bl, o + k * 6, none⟩ = some (.int .i64 r.e) ∧ W.cell? ⟨bl, o + k * 6 + 1, none⟩ = some (.int .i64 t) ∧ W.cell? ⟨bl, o + k * 6 + 2, none⟩ = some (.slice tp tn tc) ∧ W.cell? ⟨bl, o + k * 6 + 3, none⟩ = some (.int .i64 r.c) ∧ W.cell? ⟨bl, o + k * 6 + 4, none⟩ = some (.slice lp r.li.length lc) ∧ W.cell? ⟨bl, o + k * 6 + 5, none⟩ = some (.slice kp kn kc) ∧ W.cell? ⟨wr.heap.size, 0, none⟩ = some (.int .i64 fr) ∧ W.cell? ⟨wr.heap.size, 1, none⟩ = some (.int .i64 to) ∧ W.cell? ⟨gb, go + k, none⟩ = some (.slice pl ls.length cl) := fun W hW => by
                obtain ⟨⟨a0, a1, a2, a3, a4, a5⟩, _⟩ := hkc.later (hbC.trans (hW.mono hbC.size))
                exact ⟨a0, a1, a2, a3, a4, a5, by rw [cell_of_row _ _ _ _ _ _ ((hW.block _ ltC).trans gC)]; rfl, by rw [cell_of_row _ _ _ _ _ _ ((hW.block _ ltC).trans gC)]; rfl, cell_later (hbC.trans (hW.mono hbC.size)) cL⟩
              clear hx hxm hq1 hrd hld hn hfr htt hrx hlx hx1 hL hkc gC HI HRg cL hto
              go_wp2
              have bD : Below C.heap.size C C.drew := (Below.refl _ C).drew
              have hHeld := hcells C.drew bD
              refine wp_region_heldN (by kernel_rfl) (fun W => W.cell? ⟨bl, o + k * 6, none⟩ = some (.int .i64 r.e) ∧ W.cell? ⟨bl, o + k * 6 + 1, none⟩ = some (.int .i64 t) ∧ W.cell? ⟨bl, o + k * 6 + 2, none⟩ = some (.slice tp tn tc) ∧ W.cell? ⟨bl, o + k * 6 + 3, none⟩ = some (.int .i64 r.c) ∧ W.cell? ⟨bl, o + k * 6 + 4, none⟩ = some (.slice lp r.li.length lc) ∧ W.cell? ⟨bl, o + k * 6 + 5, none⟩ = some (.slice kp kn kc) ∧ W.cell? ⟨wr.heap.size, 0, none⟩ = some (.int .i64 fr) ∧ W.cell? ⟨wr.heap.size, 1, none⟩ = some (.int .i64 to) ∧ W.cell? ⟨gb, go + k, none⟩ = some (.slice pl ls.length cl)) 13 rfl ?_
              refine tkY 0 ⟨some 60, .move (.tmp 0), 3, "ref.go:72", #[], none⟩ ?v0z1 hHeld ?y0z1 ?r0z1
              case y0z1 => (intro w hSw; (try dsimp only at hSw); go_simp) <;> with_reducible rfl
              try simp only [Act.put, List.setIfInBounds_toArray, List.set_cons_zero, List.set_cons_succ]
              refine tkY 1 ⟨some 61, .move (.tmp 1), 37, "ref.go:72", #[], none⟩ ?v1z2 hHeld ?y1z2 ?r1z2
              case y1z2 => (intro w hSw; (try dsimp only at hSw); go_simp) <;> with_reducible rfl
              try simp only [Act.put, List.setIfInBounds_toArray, List.set_cons_zero, List.set_cons_succ]
              refine tkY 2 ⟨some 62, .move (.tmp 17), 3, "ref.go:72", #[], none⟩ ?v2z3 hHeld ?y2z3 ?r2z3
              case y2z3 => (intro w hSw; (try dsimp only at hSw); go_simp) <;> with_reducible rfl
              try simp only [Act.put, List.setIfInBounds_toArray, List.set_cons_zero, List.set_cons_succ]
              refine tkY 3 ⟨some 63, .indexAddr 37 (.tmp 61) (.tmp 62), 0, "ref.go:72", #[⟨1, .data⟩, ⟨2, .data⟩], none⟩ ?v3z4 hHeld ?y3z4 ?r3z4
              case y3z4 => (intro w hSw; (try dsimp only at hSw); go_simp) <;> with_reducible rfl
              try simp only [Act.put, List.setIfInBounds_toArray, List.set_cons_zero, List.set_cons_succ]
              refine tkY 4 ⟨some 64, .load 41 (.tmp 63), 41, "ref.go:72", #[⟨3, .data⟩], none⟩ ?v4z5 hHeld ?y4z5 ?r4z5
              case y4z5 => (intro w hSw; (try dsimp only at hSw); go_simp) <;> with_reducible rfl
              try simp only [Act.put, List.setIfInBounds_toArray, List.set_cons_zero, List.set_cons_succ]
              refine tkY 5 ⟨some 65, .load 30 (.tmp 18), 30, "ref.go:72", #[], none⟩ ?v5z6 hHeld ?y5z6 ?r5z6
              case y5z6 => (intro w hSw; (try dsimp only at hSw); go_simp) <;> with_reducible rfl
              try simp only [Act.put, List.setIfInBounds_toArray, List.set_cons_zero, List.set_cons_succ]
              refine tkY 6 ⟨some 66, .move (.tmp 4), 38, "ref.go:72", #[], none⟩ ?v6z7 hHeld ?y6z7 ?r6z7
              case y6z7 => (intro w hSw; (try dsimp only at hSw); go_simp) <;> with_reducible rfl
              try simp only [Act.put, List.setIfInBounds_toArray, List.set_cons_zero, List.set_cons_succ]
              refine tkY 7 ⟨some 67, .move (.tmp 5), 25, "ref.go:72", #[], none⟩ ?v7z8 hHeld ?y7z8 ?r7z8
              case y7z8 => (intro w hSw; (try dsimp only at hSw); go_simp) <;> with_reducible rfl
              try simp only [Act.put, List.setIfInBounds_toArray, List.set_cons_zero, List.set_cons_succ]
              refine tkY 8 ⟨some 68, .move (.tmp 17), 3, "ref.go:72", #[], none⟩ ?v8z9 hHeld ?y8z9 ?r8z9
              case y8z9 => (intro w hSw; (try dsimp only at hSw); go_simp) <;> with_reducible rfl
              try simp only [Act.put, List.setIfInBounds_toArray, List.set_cons_zero, List.set_cons_succ]
              refine tkY 9 ⟨some 69, .indexAddr 25 (.tmp 67) (.tmp 68), 0, "ref.go:72", #[⟨7, .data⟩, ⟨8, .data⟩], none⟩ ?v9z10 hHeld ?y9z10 ?r9z10
              case y9z10 => (intro w hSw; (try dsimp only at hSw); go_simp) <;> with_reducible rfl
              try simp only [Act.put, List.setIfInBounds_toArray, List.set_cons_zero, List.set_cons_succ]
              refine tkY 10 ⟨some 70, .load 33 (.tmp 69), 33, "ref.go:72", #[⟨9, .data⟩], none⟩ ?v10z11 hHeld ?y10z11 ?r10z11
              case y10z11 => (intro w hSw; (try dsimp only at hSw); go_simp) <;> with_reducible rfl
              try simp only [Act.put, List.setIfInBounds_toArray, List.set_cons_zero, List.set_cons_succ]
              refine wpAnyH_ready (rs := [11]) (by kernel_rfl) (by simp) ?_
              refine AllReadyH.cons (o := ⟨some 71, .call { callee := .value (.func 29), args := #[.tmp 60, .tmp 64, .tmp 65, .tmp 66, .tmp 70], argTypes := #[3, 41, 30, 38, 33] }, 3, "ref.go:72", #[⟨0, .data⟩, ⟨4, .data⟩, ⟨5, .data⟩, ⟨6, .data⟩, ⟨10, .data⟩], none⟩) rfl (fun K hK => ?_) AllReadyH.nil
              go_simp
              refine (HEp.out _ bD).mono ?_
              rintro e3 w3 ⟨z, rfl, hz, b3'⟩
              have b3 := bD.trans (b3'.mono bD.size)
              replace hHeld := hcells w3 b3
              refine hK.out _ _ ?_ (fun _ => ?_)
              · exact hHeld
              clear hK K
              try simp only [Act.put, List.setIfInBounds_toArray, List.set_cons_zero, List.set_cons_succ]
              refine tkY 12 ⟨some 19, .assign (.tmp 71), 3, "ref.go:72", #[⟨11, .data⟩, ⟨11, .chain⟩, ⟨0, .phase⟩, ⟨1, .phase⟩, ⟨2, .phase⟩, ⟨3, .phase⟩, ⟨4, .phase⟩, ⟨5, .phase⟩, ⟨6, .phase⟩, ⟨7, .phase⟩, ⟨8, .phase⟩, ⟨9, .phase⟩, ⟨10, .phase⟩, ⟨11, .phase⟩], none⟩ ?v12z12 hHeld ?y12z12 ?r12z12
              case y12z12 => (intro w hSw; (try dsimp only at hSw); go_simp) <;> with_reducible rfl
              try simp only [Act.put, List.setIfInBounds_toArray, List.set_cons_zero, List.set_cons_succ]
              refine wpAnyH_done (by kernel_rfl) ?_ _
              have bw3 := hbC.trans (b3.mono hbC.size)
              have bw13 := hbC1.trans (b3.mono hbC1.size)
              clear hHeld hcells HEp
              rcases hz with ⟨rfl, hg⟩ | ⟨rfl, hg⟩
              · have hge : ¬ ((n : Int) < 0) := by omega
                have hnc : n ≤ cur.length := hg.out.1
                have HR' : Hid (RunP size rs lss (X.take (k + 1)) evs (cur.drop n)) := by
                  have := RunP.snoc HR.out (HSt.out.1 hg.out)
                  rw [HTk.out, HNn.out] at this
                  exact this
                have k1 : ∀ w, (Instr.slice 38 (.slice pv cur.length cv) (some (.int .i64 (n : Int))) none none).run Tryd.prog w = .ok (.slice (cutE pv cv n) (cur.length - n) (cv - n)) w := fun w => run_behind4 (P := Tryd.prog) Tryd.underlying38 s_event pv cur.length cv n hnc w
                have hEd := hE.drop n hnc
                have hcd : (cur.drop n).length ≤ 1000000 := by simp; omega
                clear hg HSt HTk HNn HR
                go_wp2
                go_roundw
                case rel => exact ⟨k + 1, cur.drop n, by omega, by go_num, HR', hEd, hcd, bw3, bw13⟩
                case measure => simp [intOf]; omega
              · have HN : Hid (¬ Good size rs lss X evs) := good_not HXk.out HR.out (fun h => hg.out (HSt.out.2 h))
                clear hg HSt HTk HNn HR
                go_wp2
                go_ret
                exact ⟨95, rfl, .inr ⟨rfl, HN⟩, bw3⟩
            · obtain rfl : k = X.length := by omega
              have HR2 := HR.out
              rw [List.take_length] at HR2
              by_cases ec : cur.length = 0
              · obtain rfl : cur = [] := List.eq_nil_of_length_eq_zero ec
                have HG : Hid (Good size rs lss X evs) := ⟨HL.out.2, HL.out.1, by have := HL.out.1; omega, HR2⟩
                clear HR HR2 hca HI HRg
                go_wp2
                go_ret
                exact ⟨0, rfl, .inl ⟨rfl, HG⟩, hbe⟩
              · have HN : Hid (¬ Good size rs lss X evs) := fun h => ec (by have := RunP.one _ _ _ _ HR2 h.2.2.2; rw [this]; rfl)
                have hpos : 0 < (cur.length : Int) := by omega
                clear HR HR2 hca HI HRg
                go_wp2
                go_ret
                exact ⟨95, rfl, .inr ⟨rfl, HN⟩, hbe⟩
        · have HN : Hid (¬ Good size rs lss X evs) := fun h => z3 h.1
          have q2 : ((X.length : Int) != (rs.length : Int)) = false := by simp [z2]
          have q3 : ((X.length : Int) != (lss.length : Int)) = true := by simp; omega
          generalize X.length = XL at *
          clear z2 z3 hca HI HRg
          go_wp2
          go_ret
          exact ⟨95, rfl, .inr ⟨rfl, HN⟩, b1⟩
      · have HN : Hid (¬ Good size rs lss X evs) := fun h => z2 h.2.1
        have q2 : ((X.length : Int) != (rs.length : Int)) = true := by simp; omega
        generalize X.length = XL at *
        clear z2 hca HI HRg
        go_wp2
        go_ret
        exact ⟨95, rfl, .inr ⟨rfl, HN⟩, b1⟩

end Go.Proofs.YtggficgmjbgmpaaDoor
