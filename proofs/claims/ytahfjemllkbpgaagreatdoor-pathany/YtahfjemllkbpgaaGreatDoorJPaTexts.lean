/- What this text proves: the walk of path.Texts over this program: the texts of a way, the root's first; none of one that may not be. (By program: held.py, mkpatexts.py.) -/
import Derived.Test.YtahfjemllkbpgaaGreatDoorJPaRows
import Derived.Test.YtahfjemllkbpgaaGreatDoorJPaText
import Derived.Test.YtahfjemllkbpgaaGreatDoorJE1
namespace Go.Proofs.YtahfjemllkbpgaaGreatDoor
open Go.RowKit

theorem cutT_any (size : Int) (v : Value) (T : List UInt8) (w : World) (h : HB w v T) (hT : Tabs w) (hl : T.length ≤ 140737488355328) :
    Calls Tryz.prog 15 #[.int .i64 size, v] w fun y w' => ∃ p c, y = .returned (.slice p (cutT size T).length c) ∧ HB w' (.slice p (cutT size T).length c) (cutT size T) ∧ Below w.heap.size w w' ∧ TB w' (.slice p (cutT size T).length c) := by
  have e : (cutT size T).length = cutLen size := by rw [cutT_len]; have := cutLen_le size; omega
  rw [e]
  exact cut_ty size v (sha T) w (sha_length _) (sum_any v T w h hl hT)

theorem textsW_le (size : Int) (id : List UInt8) (hs : List Hp) (x : Pt) (h : chkW size id hs x = true) : ∀ t ∈ upW size (keyF id) x hs, t.length ≤ 1000 := by
  have hz := (chkW_facts h).2.1
  have hs1 := shaped_le (chkW_shaped h) hz
  have hg := (chkW_facts h).2.2.1
  have hk := keyF_le id
  clear h
  have hfork : ∀ (d n : Int) (p a b : List UInt8), p.length ≤ 257 → a.length ≤ 32 → b.length ≤ 32 → (forkT d p n a b).length ≤ 1000 := by
    intro d n p a b h1 h2 h3
    have e1 := firstF_le p d
    have e2 := numB_len d
    have e3 := numB_len n
    simp [forkT, body, part_length]
    omega
  induction hs with
  | nil =>
    intro t ht
    simp only [upW, List.mem_cons, List.not_mem_nil, or_false] at ht
    subst ht
    unfold endT partT
    split
    · simp
    · split
      · have e3 := numB_len x.si
        simp [leafT, body, part_length]
        omega
      · exact hfork _ _ _ _ _ (by omega) (by omega) (by omega)
  | cons g u ih =>
    intro t ht
    simp only [upW, List.mem_cons] at ht
    rcases ht with rfl | ht
    · have hgs := (hg g (by simp)).2.2
      have hc := cutT_le size ((upW size (keyF id) x u).headD [])
      unfold hopT
      split
      · exact hfork _ _ _ _ _ (by omega) (by omega) (by omega)
      · exact hfork _ _ _ _ _ (by omega) (by omega) (by omega)
    · exact ih (fun q hq => hg q (by simp [hq])) t ht

theorem wrap_succ (n : Nat) (h : n ≤ 1000) : wrap64 ((n : Int) + 1) = ((n + 1 : Nat) : Int) := by unfold wrap64; omega

set_option maxRecDepth 100000 in
set_option maxHeartbeats 16000000 in
theorem texts_any17 (size : Int) (iv hv : Value) (id : List UInt8) (hs : List Hp) (x : Pt) (pi pk pp pl pr pq : Option Addr) (ci ck cp cl cr cq : Nat) (w : World) (hid : HB w iv id) (hh : HA w hv hs) (hi : HB w (.slice pi x.id.length ci) x.id) (hke : HB w (.slice pk x.key.length ck) x.key) (hp : HB w (.slice pp x.pre.length cp) x.pre) (hl : HB w (.slice pl x.l.length cl) x.l) (hr : HB w (.slice pr x.r.length cr) x.r)
    (hN : hs.length ≤ 1000) (hT : Tabs w) :
    Calls Tryz.prog 12 #[.int .i64 size, iv, .agg #[hv, .int .i64 x.k, .slice pi x.id.length ci, .slice pk x.key.length ck, .int .i64 x.si, .int .i64 x.d, .slice pp x.pre.length cp, .int .i64 x.nw, .slice pl x.l.length cl, .slice pr x.r.length cr, .slice pq x.kids cq]] w fun e w' => ∃ p c, e = .returned (.slice p (textsW size id hs x).length c) ∧ PA w' (.slice p (textsW size id hs x).length c) (textsW size id hs x) ∧ Below w.heap.size w w' := by
  obtain ⟨pv, cv, rfl⟩ := hid.shape
  obtain ⟨ph, ch, rfl⟩ := hh.shape
  have hC := fun W h1 h2 h3 h4 => check_any17 size (.slice pv id.length cv) (.slice ph hs.length ch) id hs x pi pk pp pl pr pq ci ck cp cl cr cq W h1 h2 h3 h4 hl.len_le hr.len_le
  have bA := (Below.refl w.heap.size w).alloc (Nat.le_refl _) (.cells #[.slice ph hs.length ch, .int .i64 x.k, .slice pi x.id.length ci, .slice pk x.key.length ck, .int .i64 x.si, .int .i64 x.d, .slice pp x.pre.length cp, .int .i64 x.nw, .slice pl x.l.length cl, .slice pr x.r.length cr, .slice pq x.kids cq] 28)
  have gA := heap_alloc_new w (.cells #[.slice ph hs.length ch, .int .i64 x.k, .slice pi x.id.length ci, .slice pk x.key.length ck, .int .i64 x.si, .int .i64 x.d, .slice pp x.pre.length cp, .int .i64 x.nw, .slice pl x.l.length cl, .slice pr x.r.length cr, .slice pq x.kids cq] 28)
  obtain ⟨V, hV⟩ : ∃ V, w.alloc (.cells #[.slice ph hs.length ch, .int .i64 x.k, .slice pi x.id.length ci, .slice pk x.key.length ck, .int .i64 x.si, .int .i64 x.d, .slice pp x.pre.length cp, .int .i64 x.nw, .slice pl x.l.length cl, .slice pr x.r.length cr, .slice pq x.kids cq] 28) = V := ⟨_, rfl⟩
  rw [hV] at bA gA
  have kid := hid.later bA
  have kh := hh.later bA
  have ki := hi.later bA
  have kke := hke.later bA
  have kp := hp.later bA
  have kl := hl.later bA
  have kr := hr.later bA
  have kT := hT.later bA
  have hcells : ∀ W, Below V.heap.size V W → W.heap[w.heap.size]? = some (.cells #[.slice ph hs.length ch, .int .i64 x.k, .slice pi x.id.length ci, .slice pk x.key.length ck, .int .i64 x.si, .int .i64 x.d, .slice pp x.pre.length cp, .int .i64 x.nw, .slice pl x.l.length cl, .slice pr x.r.length cr, .slice pq x.kids cq] 28 (0, 0)) := fun W hb => (hb.block _ (Array.getElem?_eq_some_iff.1 gA).1).trans gA
  have hbV : Below V.heap.size V V := Below.refl _ V
  obtain ⟨q0, q1, q2, q3, q4, q5, q6, q7, q8, q9, q10⟩ := cells11 (hcells V hbV)
  have glt : w.heap.size < V.heap.size := (Array.getElem?_eq_some_iff.1 gA).1
  clear hid hh hi hke hp hl hr hT gA
  cases hchk : chkW size id hs x with
  | false =>
    have e : textsW size id hs x = [] := by unfold textsW; rw [hchk]; rfl
    rw [e]
    simp only [hchk] at hC
    clear e hchk hcells
    obtain ⟨k, xid, key, si, d, pre, nw, l, r, n⟩ := x
    dsimp only at *
    go_enter Tryz.func12, Tryz.ntmps12
    go_wp2_with fail
    refine (hC _ kid kh ki kp).mono ?_
    rintro e w1 ⟨rfl, hb1⟩
    have HW := bA.trans (hb1.mono bA.size)
    simp only [errW]
    clear hC q0 q1 q2 q3 q4 q5 q6 q7 q8 q9 q10 hb1 bA
    go_wp2
    go_ret
    exact ⟨none, 0, rfl, PA.nil _, HW⟩
  | true =>
    have e : textsW size id hs x = upW size (keyF id) x hs := by unfold textsW; rw [hchk]; rfl
    rw [e]
    simp only [hchk] at hC
    have hcf := chkW_facts hchk
    have z1 := hcf.1
    have z2 := hcf.2.1
    have hops := hcf.2.2.1
    clear hcf
    obtain ⟨s1, s2, s3, s4, s5, s6, s7⟩ := shaped_le (chkW_shaped hchk) z2
    have htl := textsW_le size id hs x hchk
    clear e hchk
    have hK := fun W h => key_any (.slice pv id.length cv) id W h
    have hkl := keyF_le id
    have hE := fun W h1 h2 h3 h4 h5 => partText_any x pi pk pp pl pr pq ci ck cp cl cr cq (.slice pl x.l.length cl) (.slice pr x.r.length cr) x.l x.r W h1 h2 h3 h4 h5 (by omega) (by omega) (by omega) (by omega) (by omega) (by omega) (by omega)
    have hLL := upW_len size (keyF id) x hs
    have hlast := upW_last size (keyF id) x hs
    have hat := fun k h hx => upW_at size (keyF id) x hs k h hx
    obtain ⟨sig, hsig⟩ : ∃ sig : Nat → List UInt8, sig = fun j => (upW size (keyF id) x hs).getD j [] := ⟨_, rfl⟩
    have HL : Hid ((List.range (hs.length + 1)).map sig = upW size (keyF id) x hs) := by
      show _ = _
      apply List.ext_getElem
      · simp [hLL]
      · intro i h1 h2
        simp [hsig, List.getD, h2]
    have HSL : Hid (sig hs.length = partT x x.l x.r) := by
      show _ = _
      rw [hsig]
      exact hlast
    have HSA : Hid (∀ (k : Nat) (h : Hp), hs[k]? = some h → sig k = hopT (keyF id) h (cutT size (sig (k + 1)))) := by
      intro k h hx
      rw [hsig]
      exact hat k h hx
    have HSB : Hid (∀ j, (sig j).length ≤ 1000) := by
      intro j
      rw [hsig]
      show ((upW size (keyF id) x hs).getD j []).length ≤ 1000
      rw [List.getD_eq_getElem?_getD]
      cases hj : (upW size (keyF id) x hs)[j]? with
      | none => simp
      | some t => exact htl t (List.mem_of_getElem? hj)
    rw [← HSL.out] at hE
    clear hsig hlast hat HSL htl
    have HLL : Hid ((upW size (keyF id) x hs).length = hs.length + 1) := hLL
    clear hLL
    generalize upW size (keyF id) x hs = L at *
    generalize keyF id = K at *
    have HOP : Hid (∀ g ∈ hs, 0 ≤ g.d ∧ g.d ≤ 2048 ∧ (g.s.length : Int) = size) := hops
    clear hops
    obtain ⟨k, xid, key, si, d, pre, nw, l, r, n⟩ := x
    dsimp only at *
    obtain ⟨i0, hi0, hz0, hz1, hz2⟩ := info_parts i_bytes
    --<B
    go_enter Tryz.func12, Tryz.ntmps12
    go_wp2_with fail
    refine (hC _ kid kh ki kp).mono ?_
    rintro e w1 ⟨rfl, hb1⟩
    clear hC q0 q1 q2 q3 q4 q5 q6 q7 q8 q9 q10 hbV
    obtain ⟨q0, q1, q2, q3, q4, q5, q6, q7, q8, q9, q10⟩ := cells11 (hcells w1 hb1)
    simp only [errW]
    go_wp2_with fail
    refine (hK _ (kid.later hb1)).mono ?_
    rintro e w2 ⟨pK, cK, rfl, kk, hx2⟩
    have hb2 := hb1.trans (hx2.mono hb1.size)
    clear hK q0 q1 q2 q3 q4 q5 q6 q7 q8 q9 q10 hb1 hx2
    have gB := hcells w2 hb2
    obtain ⟨q0, q1, q2, q3, q4, q5, q6, q7, q8, q9, q10⟩ := cells11 gB
    have kh2 := kh.later hb2
    have ki2 := ki.later hb2
    have kke2 := kke.later hb2
    have kp2 := kp.later hb2
    have kl2 := kl.later hb2
    have kr2 := kr.later hb2
    have hTr2 := kT.later hb2
    have bW2 := bA.trans (hb2.mono bA.size)
    have lt2 : w.heap.size < w2.heap.size := Nat.lt_of_lt_of_le glt hb2.size
    clear kid kh ki kke kp kl kr kT bA hcells hb2
    have hc11 : ∀ W, Below w2.heap.size w2 W → W.heap[w.heap.size]? = some (.cells #[.slice ph hs.length ch, .int .i64 k, .slice pi xid.length ci, .slice pk key.length ck, .int .i64 si, .int .i64 d, .slice pp pre.length cp, .int .i64 nw, .slice pl l.length cl, .slice pr r.length cr, .slice pq n cq] 28 (0, 0)) := fun W hb => (hb.block _ lt2).trans gB
    clear gB
    obtain ⟨M, hM⟩ : ∃ M, hs.length + 1 = M := ⟨_, rfl⟩
    have eN := wrap_succ hs.length hN
    have hM1 := Nat.succ_le_succ hN
    rw [Nat.succ_eq_add_one] at hM1
    rw [hM] at HL HLL eN hM1
    have HM : Hid (hs.length + 1 = M) := hM
    clear hM
    --<C
    go_wp2_with (first | (at_make; refine wpList_make_full _ rfl _ _ 38 rfl w2.heap.size 22 i0 (.slice none 0 0) 1 Tryz.underlying38 hi0 hz0 hz1 .i64 .i64 _ _ M rfl rfl ?_ ?_ ?_ ?_ ?_ ?_))
    all_goals (clear eN z1 s1 s2 s3 s4 s5 s6 s7)
    all_goals (try (first | omega | (unfold maxLen; omega) | (rw [hz2]; omega) | (have := HM.out; omega)))
    --<E
    intro w3 hown3 hgrow3
    have hb3 : Below w2.heap.size w2 w3 := (Below.refl _ w2).grown hgrow3 (Nat.le_refl _) (by intro k hk; cases hk)
    have hrt3 : RT w3 w2.heap.size w2.heap.size M M sig := ⟨_, hown3, fun j u hj hu => by
      have h1 := (List.getElem?_eq_some_iff.1 hu).1
      have h2 := hown3.1
      omega⟩
    clear hown3 hgrow3 q0 q1 q2 q3 q4 q5 q6 q7 q8 q9 q10
    obtain ⟨q0, q1, q2, q3, q4, q5, q6, q7, q8, q9, q10⟩ := cells11 (hc11 w3 hb3)
    go_wp2_with fail
    refine (hE _ (ki2.later hb3) (kke2.later hb3) (kp2.later hb3) (kl2.later hb3) (kr2.later hb3)).mono ?_
    rintro e w4 ⟨p4, c4, rfl, k4, hx4, t4⟩
    have hb4 := hb3.trans (hx4.mono hb3.size)
    have hrt4 := hrt3.later hx4
    rw [← HM.out] at hrt4
    have hrt5 := hrt4.put _ k4 t4
    rw [HM.out] at hrt4 hrt5
    obtain ⟨y5, c5, f5⟩ := hrt4.cell hs.length (by have := HM.out; omega)
    have hb5 : Below w2.heap.size w2 (w4.setCell ⟨w2.heap.size, hs.length, none⟩ (.slice p4 (sig hs.length).length c4)) := hb4.setCell (Nat.le_refl _) _
    have hlM : hs.length < M := by have := HM.out; omega
    clear hE ki2 kke2 kp2 kl2 kr2 hb3 hx4 hb4 hrt3 hrt4 k4 t4 q0 q1 q2 q3 q4 q5 q6 q7 q8 q9 q10
    --<D
    go_wp2
    go_loopw [10] (fun i wr => ∃ j : Nat, j ≤ hs.length ∧ RT wr w2.heap.size w2.heap.size M j sig ∧ i = .int .i64 ((j : Int) - 1) ∧ Below w2.heap.size w2 wr) (fun i _ => (intOf i + 1).toNat)
    case atStart => exact ⟨hs.length, Nat.le_refl _, hrt5, by go_num, hb5⟩
    case round =>
      clear hrt5 hb5 c5 f5
      obtain ⟨j, hj, hrt, rfl, hbw⟩ := hrel
      obtain ⟨q0, q1, q2, q3, q4, q5, q6, q7, q8, q9, q10⟩ := cells11 (hc11 wr hbw)
      cases j with
      | zero =>
        have hpa := hrt.rq.rs.pa
        rw [HL.out] at hpa
        have HW := bW2.trans (hbw.mono bW2.size)
        have d0 : decide ((0 : Int) ≤ -1) = false := by decide
        rw [← HLL.out] at hpa
        clear HSA HSB HOP hrt hbw bW2 hc11
        have eL := HLL.out
        have HP : Hid (PA wr (.slice (some ⟨w2.heap.size, 0, none⟩) L.length L.length) L) := hpa
        clear hpa eL
        go_wp2
        go_ret
        rw [← HLL.out]
        exact ⟨_, _, rfl, HP.out, HW⟩
      | succ mm =>
        have ei : ((mm + 1 : Nat) : Int) - 1 = (mm : Int) := by omega
        rw [ei]
        clear ei
        have hm := (kh2.later hbw).len
        obtain ⟨b, o, rfl⟩ := kh2.addr (by omega)
        obtain ⟨h, qs, cs, hx, e0, e1, e2, ks⟩ := (kh2.later hbw).get mm (by omega)
        have hop := HOP.out h (List.mem_of_getElem? hx.out)
        have hd0 := hop.1
        have hd1 := hop.2.1
        have HZL : Hid ((h.s.length : Int) = size) := hop.2.2
        clear hop
        have HSM : Hid (sig mm = hopT K h (cutT size (sig (mm + 1)))) := HSA.out mm h hx.out
        clear hx hm
        obtain ⟨hd, hn, hsl⟩ := h
        dsimp only at *
        obtain ⟨pu, cu, u0, ku⟩ := hrt.get (mm + 1) (by have := HM.out; omega) (Nat.le_refl _)
        have htu := HSB.out (mm + 1)
        generalize sig (mm + 1) = T at *
        have hTr := hTr2.later hbw
        have bU : Below wr.heap.size wr (wr.alloc (.cells #[.int .i64 hd, .int .i64 hn, .slice qs hsl.length cs] 57)) := (Below.refl _ wr).alloc (Nat.le_refl _) _
        have gU := heap_alloc_new wr (.cells #[.int .i64 hd, .int .i64 hn, .slice qs hsl.length cs] 57)
        have sU : (wr.alloc (.cells #[.int .i64 hd, .int .i64 hn, .slice qs hsl.length cs] 57)).heap.size = wr.heap.size + 1 := by simp
        obtain ⟨U, hU⟩ : ∃ U, wr.alloc (.cells #[.int .i64 hd, .int .i64 hn, .slice qs hsl.length cs] 57) = U := ⟨_, rfl⟩
        rw [hU] at bU gU sU
        have bUk : Below U.heap.size U (U.alloc (.cells #[.slice none 0 0, .slice none 0 0] 60)) := (Below.refl _ U).alloc (Nat.le_refl _) _
        have gK := heap_alloc_new U (.cells #[.slice none 0 0, .slice none 0 0] 60)
        have sK : (U.alloc (.cells #[.slice none 0 0, .slice none 0 0] 60)).heap.size = U.heap.size + 1 := by simp
        obtain ⟨U2, hU2⟩ : ∃ U2, U.alloc (.cells #[.slice none 0 0, .slice none 0 0] 60) = U2 := ⟨_, rfl⟩
        rw [hU2] at bUk gK sK
        have bU2 := bU.trans (bUk.mono bU.size)
        have lt2 : U.heap.size < U2.heap.size := by omega
        have bD : Below U2.heap.size U2 U2.drew := (Below.refl _ U2).drew
        have hgw : w2.heap.size < wr.heap.size := cell_lt u0
        have hc2 : ∀ W, Below U.heap.size U W → W.cell? ⟨w2.heap.size, mm + 1, none⟩ = some (.slice pu T.length cu) ∧ W.cell? ⟨wr.heap.size, 2, none⟩ = some (.slice qs hsl.length cs) := by
          intro W hb
          have g := (hb.block wr.heap.size (by omega)).trans gU
          exact ⟨cell_later (bU.trans (hb.mono bU.size)) u0, by rw [cell_of_row _ _ _ _ _ _ g]; rfl⟩
        have hc3 : ∀ W, Below U.heap.size U W → W.cell? ⟨wr.heap.size, 0, none⟩ = some (.int .i64 hd) ∧ W.cell? ⟨wr.heap.size, 1, none⟩ = some (.int .i64 hn) := by
          intro W hb
          have g := (hb.block wr.heap.size (by omega)).trans gU
          exact ⟨by rw [cell_of_row _ _ _ _ _ _ g]; rfl, by rw [cell_of_row _ _ _ _ _ _ g]; rfl⟩
        obtain ⟨t0, t1⟩ := hc3 U (Below.refl _ U)
        have ltU : wr.heap.size < U.heap.size := by omega
        clear sU sK
        have hHeld := hc2 U2.drew (bUk.trans (bD.mono bUk.size))
        have hSide := side_any17 (.slice pK K.length cK) K hd U ((kk.later hbw).later bU) (by omega) (by omega)
        have hCT := fun W h1 h2 => cutT_any size (.slice pu T.length cu) T W h1 h2 (by omega)
        have ewm : IntKind.i64.wrap ((mm : Int) + 1) = ((mm + 1 : Nat) : Int) := by rw [IntKind.wrap_i64]; omega
        have ew0 : IntKind.i64.wrap 1 = 1 := by decide
        have ew1 : IntKind.i64.wrap 0 = 0 := by decide
        have dm : decide ((0 : Int) ≤ (mm : Int)) = true := by simp
        clear HL HLL HSA HSB HOP hc11 gU
        have hmM : mm < M := by have := HM.out; omega
        have hmM1 : mm + 1 < M := by have := HM.out; omega
        have hmN : mm < hs.length := by omega
        have hzA : (0 : Int) ≤ (mm : Int) + 1 := by omega
        have hzB : (mm : Int) + 1 < (M : Int) := by omega
        --<A
        by_cases hbit : bitF K hd = 0
        · have HST : Hid (forkT hd K hn (cutT size T) hsl = sig mm) := by
            show _ = _
            rw [HSM.out]
            unfold hopT
            rw [if_pos hbit]
          have hSd : ownF K hd = 0 := by
            unfold ownF
            rw [if_pos hbit]
          rw [hSd] at hSide
          clear HSM hSd hbit
          go_wp2_with fail
          refine hSide.mono ?_
          rintro z w4 ⟨rfl, hw⟩
          rw [hw]
          clear hSide hw w4
          go_wp2
          refine wp_region_heldN (by kernel_rfl) (fun W => W.cell? ⟨w2.heap.size, mm + 1, none⟩ = some (.slice pu T.length cu) ∧ W.cell? ⟨wr.heap.size, 2, none⟩ = some (.slice qs hsl.length cs)) 16 rfl ?_
          refine tkY 0 ⟨some 55, .move (.tmp 12), 3, "path.go:100", #[], none⟩ ?v0z1 hHeld ?y0z1 ?r0z1
          case y0z1 => (intro w hSw; (try dsimp only at hSw); go_simp) <;> with_reducible rfl
          try simp only [Act.put, List.setIfInBounds_toArray, List.set_cons_zero, List.set_cons_succ]
          refine tkY 1 ⟨some 56, .move (.tmp 12), 3, "path.go:100", #[{ on := 13, ground := .gcOnly .lateStores }], none⟩ ?v1z2 hHeld ?y1z2 ?r1z2
          case y1z2 => (intro w hSw; (try dsimp only at hSw); go_simp) <;> with_reducible rfl
          try simp only [Act.put, List.setIfInBounds_toArray, List.set_cons_zero, List.set_cons_succ]
          refine tkY 2 ⟨some 57, .binOp .sub 3 (.const (.int .i64 1)) (.tmp 56) 3, 3, "path.go:100", #[⟨1, .data⟩, { on := 13, ground := .gcOnly .lateStores }], none⟩ ?v2z3 hHeld ?y2z3 ?r2z3
          case y2z3 => (intro w hSw; (try dsimp only at hSw); go_simp) <;> with_reducible rfl
          try simp only [Act.put, List.setIfInBounds_toArray, List.set_cons_zero, List.set_cons_succ]
          refine tkY 3 ⟨some 58, .move (.tmp 0), 3, "path.go:100", #[], none⟩ ?v3z4 hHeld ?y3z4 ?r3z4
          case y3z4 => (intro w hSw; (try dsimp only at hSw); go_simp) <;> with_reducible rfl
          try simp only [Act.put, List.setIfInBounds_toArray, List.set_cons_zero, List.set_cons_succ]
          refine tkY 4 ⟨some 59, .move (.tmp 9), 38, "path.go:100", #[], none⟩ ?v4z5 hHeld ?y4z5 ?r4z5
          case y4z5 => (intro w hSw; (try dsimp only at hSw); go_simp) <;> with_reducible rfl
          try simp only [Act.put, List.setIfInBounds_toArray, List.set_cons_zero, List.set_cons_succ]
          refine tkY 5 ⟨some 60, .move (.tmp 10), 3, "path.go:100", #[], none⟩ ?v5z6 hHeld ?y5z6 ?r5z6
          case y5z6 => (intro w hSw; (try dsimp only at hSw); go_simp) <;> with_reducible rfl
          try simp only [Act.put, List.setIfInBounds_toArray, List.set_cons_zero, List.set_cons_succ]
          refine tkY 6 ⟨some 61, .binOp .add 3 (.tmp 60) (.const (.int .i64 1)) 3, 3, "path.go:100", #[⟨5, .data⟩], none⟩ ?v6z7 hHeld ?y6z7 ?r6z7
          case y6z7 => (intro w hSw; (try dsimp only at hSw); go_simp) <;> with_reducible rfl
          try simp only [Act.put, List.setIfInBounds_toArray, List.set_cons_zero, List.set_cons_succ]
          refine tkY 7 ⟨some 62, .indexAddr 38 (.tmp 59) (.tmp 61), 0, "path.go:100", #[⟨4, .data⟩, ⟨6, .data⟩], none⟩ ?v7z8 hHeld ?y7z8 ?r7z8
          case y7z8 => (intro w hSw; (try dsimp only at hSw); go_simp) <;> with_reducible rfl
          try simp only [Act.put, List.setIfInBounds_toArray, List.set_cons_zero, List.set_cons_succ]
          refine tkY 8 ⟨some 63, .load 22 (.tmp 62), 22, "path.go:100", #[⟨7, .data⟩], none⟩ ?v8z9 hHeld ?y8z9 ?r8z9
          case y8z9 => (intro w hSw; (try dsimp only at hSw); go_simp) <;> with_reducible rfl
          try simp only [Act.put, List.setIfInBounds_toArray, List.set_cons_zero, List.set_cons_succ]
          refine tkY 10 ⟨some 65, .fieldAddr 57 (.tmp 11) 2, 0, "path.go:100", #[{ on := 13, ground := .gcOnly .lateStores }], none⟩ ?v10z10 hHeld ?y10z10 ?r10z10
          case y10z10 => (intro w hSw; (try dsimp only at hSw); go_simp) <;> with_reducible rfl
          try simp only [Act.put, List.setIfInBounds_toArray, List.set_cons_zero, List.set_cons_succ]
          refine tkY 11 ⟨some 66, .load 22 (.tmp 65), 22, "path.go:100", #[⟨10, .data⟩, { on := 13, ground := .gcOnly .lateStores }], none⟩ ?v11z11 hHeld ?y11z11 ?r11z11
          case y11z11 => (intro w hSw; (try dsimp only at hSw); go_simp) <;> with_reducible rfl
          try simp only [Act.put, List.setIfInBounds_toArray, List.set_cons_zero, List.set_cons_succ]
          refine wpAnyH_ready (rs := [9]) (by kernel_rfl) (by simp) ?_
          refine AllReadyH.cons (o := ⟨some 64, .call { callee := .value (.func 15), args := #[.tmp 58, .tmp 63], argTypes := #[3, 22] }, 22, "path.go:100", #[⟨3, .data⟩, ⟨8, .data⟩], none⟩) rfl (fun K hK => ?_) AllReadyH.nil
          go_simp
          refine (hCT _ (ku.later (bU2.trans (bD.mono bU2.size))) ((hTr.later bU2).later bD)).mono ?_
          rintro z w5 ⟨p5, c5, rfl, k5, hb5', t5⟩
          have hb5 := bD.trans (hb5'.mono bD.size)
          have hb5U := bUk.trans (hb5.mono bUk.size)
          replace hHeld := hc2 w5 hb5U
          have g5 := (hb5.block _ lt2).trans gK
          have y1 : w5.cell? ⟨U.heap.size, 0, none⟩ = some (.slice none 0 0) := by rw [cell_of_row _ _ _ _ _ _ g5]; rfl
          have f1 : w5.frozen? ⟨U.heap.size, 0, none⟩ = false := frozen_of_row _ _ _ _ _ g5
          refine hK.out _ _ ?_ (fun _ => ?_)
          · exact hHeld
          clear hK K
          try simp only [Act.put, List.setIfInBounds_toArray, List.set_cons_zero, List.set_cons_succ]
          refine tkY 12 ⟨some 67, .indexAddr 60 (.tmp 13) (.tmp 55), 0, "path.go:100", #[⟨0, .data⟩, ⟨0, .phase⟩, { on := 1, ground := .textOnly .lateStores }, { on := 2, ground := .textOnly .lateStores }, ⟨3, .phase⟩, ⟨4, .phase⟩, ⟨5, .phase⟩, ⟨6, .phase⟩, ⟨7, .phase⟩, ⟨8, .phase⟩, ⟨9, .phase⟩, { on := 10, ground := .textOnly .lateStores }, { on := 11, ground := .textOnly .lateStores }], none⟩ ?v12z12 hHeld ?y12z12 ?r12z12
          case y12z12 => (intro w hSw; (try dsimp only at hSw); go_simp) <;> with_reducible rfl
          try simp only [Act.put, List.setIfInBounds_toArray, List.set_cons_zero, List.set_cons_succ]
          refine wpAnyH_ready (rs := [13]) (by kernel_rfl) (by simp) ?_
          refine AllReadyH.cons (o := ⟨none, .store 22 (.tmp 67) (.tmp 64), 0, "path.go:100", #[⟨12, .data⟩, ⟨9, .data⟩, ⟨9, .chain⟩, ⟨0, .phase⟩, { on := 1, ground := .textOnly .lateStores }, { on := 2, ground := .textOnly .lateStores }, ⟨3, .phase⟩, ⟨4, .phase⟩, ⟨5, .phase⟩, ⟨6, .phase⟩, ⟨7, .phase⟩, ⟨8, .phase⟩, ⟨9, .phase⟩, { on := 10, ground := .textOnly .lateStores }, { on := 11, ground := .textOnly .lateStores }], none⟩) rfl (fun K hK => ?_) AllReadyH.nil
          go_simp
          have g6 := heap_setCell_same w5 U.heap.size 0 _ _ (.slice p5 (cutT size T).length c5) g5
          have y2 : (w5.setCell ⟨U.heap.size, 0, none⟩ (.slice p5 (cutT size T).length c5)).cell? ⟨U.heap.size, 1, none⟩ = some (.slice none 0 0) := by rw [cell_of_row _ _ _ _ _ _ g6]; rfl
          have f2 : (w5.setCell ⟨U.heap.size, 0, none⟩ (.slice p5 (cutT size T).length c5)).frozen? ⟨U.heap.size, 1, none⟩ = false := frozen_of_row _ _ _ _ _ g6
          have b6U : Below U.heap.size U (w5.setCell ⟨U.heap.size, 0, none⟩ (.slice p5 (cutT size T).length c5)) := hb5U.setCell (Nat.le_refl _) _
          replace hHeld := hc2 _ b6U
          refine hK.out _ _ ?_ (fun _ => ?_)
          · exact hHeld
          clear hK K
          try simp only [Act.put, List.setIfInBounds_toArray, List.set_cons_zero, List.set_cons_succ]
          refine tkY 14 ⟨some 68, .indexAddr 60 (.tmp 13) (.tmp 57), 0, "path.go:100", #[⟨2, .data⟩, ⟨0, .phase⟩, ⟨1, .phase⟩, ⟨2, .phase⟩, ⟨3, .phase⟩, ⟨4, .phase⟩, ⟨5, .phase⟩, ⟨6, .phase⟩, ⟨7, .phase⟩, ⟨8, .phase⟩, ⟨9, .phase⟩, ⟨10, .phase⟩, ⟨11, .phase⟩, ⟨12, .phase⟩, ⟨13, .phase⟩], none⟩ ?v14z13 hHeld ?y14z13 ?r14z13
          case y14z13 => (intro w hSw; (try dsimp only at hSw); go_simp) <;> with_reducible rfl
          try simp only [Act.put, List.setIfInBounds_toArray, List.set_cons_zero, List.set_cons_succ]
          refine wpAnyH_ready (rs := [15]) (by kernel_rfl) (by simp) ?_
          refine AllReadyH.cons (o := ⟨none, .store 22 (.tmp 68) (.tmp 66), 0, "path.go:100", #[⟨14, .data⟩, ⟨11, .data⟩, ⟨13, .chain⟩, ⟨0, .phase⟩, ⟨1, .phase⟩, ⟨2, .phase⟩, ⟨3, .phase⟩, ⟨4, .phase⟩, ⟨5, .phase⟩, ⟨6, .phase⟩, ⟨7, .phase⟩, ⟨8, .phase⟩, ⟨9, .phase⟩, ⟨10, .phase⟩, ⟨11, .phase⟩, ⟨12, .phase⟩, ⟨13, .phase⟩], none⟩) rfl (fun K hK => ?_) AllReadyH.nil
          go_simp
          have g7 := heap_setCell_same _ U.heap.size 1 _ _ (.slice qs hsl.length cs) g6
          have b7U : Below U.heap.size U ((w5.setCell ⟨U.heap.size, 0, none⟩ (.slice p5 (cutT size T).length c5)).setCell ⟨U.heap.size, 1, none⟩ (.slice qs hsl.length cs)) := b6U.setCell (Nat.le_refl _) _
          replace hHeld := hc2 _ b7U
          refine hK.out _ _ ?_ (fun _ => ?_)
          · exact hHeld
          clear hK K
          try simp only [Act.put, List.setIfInBounds_toArray, List.set_cons_zero, List.set_cons_succ]
          refine wpAnyH_done (by kernel_rfl) ?_ _
          have ho7 : Only U.heap.size w5 ((w5.setCell ⟨U.heap.size, 0, none⟩ (.slice p5 (cutT size T).length c5)).setCell ⟨U.heap.size, 1, none⟩ (.slice qs hsl.length cs)) := ((Only.refl _ w5).setCell 0 _).setCell 1 _
          have k7 := k5.aside t5 g5 (by decide) ho7
          obtain ⟨W7, hW7⟩ : ∃ W7, (w5.setCell ⟨U.heap.size, 0, none⟩ (.slice p5 (cutT size T).length c5)).setCell ⟨U.heap.size, 1, none⟩ (.slice qs hsl.length cs) = W7 := ⟨_, rfl⟩
          rw [hW7] at k7 b7U g7
          have z0 : W7.cell? ⟨U.heap.size, 0, none⟩ = some (.slice p5 (cutT size T).length c5) := by rw [cell_of_row _ _ _ _ _ _ g7]; rfl
          have z1 : W7.cell? ⟨U.heap.size, 1, none⟩ = some (.slice qs hsl.length cs) := by rw [cell_of_row _ _ _ _ _ _ g7]; rfl
          obtain ⟨hh0, hh1⟩ := hc3 W7 b7U
          have b7 := bU.trans (b7U.mono bU.size)
          have ks7 := ks.later b7
          have hF := forkText_any hd hn (.slice pK K.length cK) _ _ K (cutT size T) hsl W7 ((kk.later hbw).later b7) k7 ks7 (by omega) (by omega) (by omega) (by have := cutT_le size T; have := HZL.out; omega) (by have := cutT_le size T; have := HZL.out; omega)
          rw [HST.out] at hF
          have rt7 := hrt.later b7
          clear hHeld hc2 hc3 g5 g6 g7 y1 f1 y2 f2 hb5 hb5' hb5U b6U k5 t5 ho7 bD hCT ku
          go_wp2_with fail
          refine hF.mono ?_
          rintro z w8 ⟨p8, c8, rfl, k8, hb8', t8⟩
          have hb8 := b7.trans (hb8'.mono b7.size)
          have rt8 := rt7.later hb8'
          have rt9 := rt8.put _ k8 t8
          obtain ⟨y9, c9, f9⟩ := rt8.cell mm (by have := HM.out; omega)
          have hb9 : Below w2.heap.size w2 (w8.setCell ⟨w2.heap.size, mm, none⟩ (.slice p8 (sig mm).length c8)) := (hbw.trans (hb8.mono hbw.size)).setCell (Nat.le_refl _) _
          clear hF rt7 rt8 hb8' b7 b7U k8 t8 z0 z1 hh0 hh1 k7 ks7
          go_wp2
          go_roundw
          case rel => first | exact ⟨mm, by omega, rt9, by go_num, hb9⟩ | ((repeat apply Exists.intro); exact ⟨⟨mm, by omega, rt9, by go_num, hb9⟩, rfl⟩)
          case measure => first | (simp [intOf]; done) | (simp [intOf]; omega)
        · have HST : Hid (forkT hd K hn hsl (cutT size T) = sig mm) := by
            show _ = _
            rw [HSM.out]
            unfold hopT
            rw [if_neg hbit]
          have hSd : ownF K hd = 1 := by
            unfold ownF
            rw [if_neg hbit]
          rw [hSd] at hSide
          clear HSM hSd hbit
          go_wp2_with fail
          refine hSide.mono ?_
          rintro z w4 ⟨rfl, hw⟩
          rw [hw]
          clear hSide hw w4
          go_wp2
          refine wp_region_heldN (by kernel_rfl) (fun W => W.cell? ⟨w2.heap.size, mm + 1, none⟩ = some (.slice pu T.length cu) ∧ W.cell? ⟨wr.heap.size, 2, none⟩ = some (.slice qs hsl.length cs)) 16 rfl ?_
          refine tkY 0 ⟨some 55, .move (.tmp 12), 3, "path.go:100", #[], none⟩ ?v0z14 hHeld ?y0z14 ?r0z14
          case y0z14 => (intro w hSw; (try dsimp only at hSw); go_simp) <;> with_reducible rfl
          try simp only [Act.put, List.setIfInBounds_toArray, List.set_cons_zero, List.set_cons_succ]
          refine tkY 1 ⟨some 56, .move (.tmp 12), 3, "path.go:100", #[{ on := 13, ground := .gcOnly .lateStores }], none⟩ ?v1z15 hHeld ?y1z15 ?r1z15
          case y1z15 => (intro w hSw; (try dsimp only at hSw); go_simp) <;> with_reducible rfl
          try simp only [Act.put, List.setIfInBounds_toArray, List.set_cons_zero, List.set_cons_succ]
          refine tkY 2 ⟨some 57, .binOp .sub 3 (.const (.int .i64 1)) (.tmp 56) 3, 3, "path.go:100", #[⟨1, .data⟩, { on := 13, ground := .gcOnly .lateStores }], none⟩ ?v2z16 hHeld ?y2z16 ?r2z16
          case y2z16 => (intro w hSw; (try dsimp only at hSw); go_simp) <;> with_reducible rfl
          try simp only [Act.put, List.setIfInBounds_toArray, List.set_cons_zero, List.set_cons_succ]
          refine tkY 3 ⟨some 58, .move (.tmp 0), 3, "path.go:100", #[], none⟩ ?v3z17 hHeld ?y3z17 ?r3z17
          case y3z17 => (intro w hSw; (try dsimp only at hSw); go_simp) <;> with_reducible rfl
          try simp only [Act.put, List.setIfInBounds_toArray, List.set_cons_zero, List.set_cons_succ]
          refine tkY 4 ⟨some 59, .move (.tmp 9), 38, "path.go:100", #[], none⟩ ?v4z18 hHeld ?y4z18 ?r4z18
          case y4z18 => (intro w hSw; (try dsimp only at hSw); go_simp) <;> with_reducible rfl
          try simp only [Act.put, List.setIfInBounds_toArray, List.set_cons_zero, List.set_cons_succ]
          refine tkY 5 ⟨some 60, .move (.tmp 10), 3, "path.go:100", #[], none⟩ ?v5z19 hHeld ?y5z19 ?r5z19
          case y5z19 => (intro w hSw; (try dsimp only at hSw); go_simp) <;> with_reducible rfl
          try simp only [Act.put, List.setIfInBounds_toArray, List.set_cons_zero, List.set_cons_succ]
          refine tkY 6 ⟨some 61, .binOp .add 3 (.tmp 60) (.const (.int .i64 1)) 3, 3, "path.go:100", #[⟨5, .data⟩], none⟩ ?v6z20 hHeld ?y6z20 ?r6z20
          case y6z20 => (intro w hSw; (try dsimp only at hSw); go_simp) <;> with_reducible rfl
          try simp only [Act.put, List.setIfInBounds_toArray, List.set_cons_zero, List.set_cons_succ]
          refine tkY 7 ⟨some 62, .indexAddr 38 (.tmp 59) (.tmp 61), 0, "path.go:100", #[⟨4, .data⟩, ⟨6, .data⟩], none⟩ ?v7z21 hHeld ?y7z21 ?r7z21
          case y7z21 => (intro w hSw; (try dsimp only at hSw); go_simp) <;> with_reducible rfl
          try simp only [Act.put, List.setIfInBounds_toArray, List.set_cons_zero, List.set_cons_succ]
          refine tkY 8 ⟨some 63, .load 22 (.tmp 62), 22, "path.go:100", #[⟨7, .data⟩], none⟩ ?v8z22 hHeld ?y8z22 ?r8z22
          case y8z22 => (intro w hSw; (try dsimp only at hSw); go_simp) <;> with_reducible rfl
          try simp only [Act.put, List.setIfInBounds_toArray, List.set_cons_zero, List.set_cons_succ]
          refine tkY 10 ⟨some 65, .fieldAddr 57 (.tmp 11) 2, 0, "path.go:100", #[{ on := 13, ground := .gcOnly .lateStores }], none⟩ ?v10z23 hHeld ?y10z23 ?r10z23
          case y10z23 => (intro w hSw; (try dsimp only at hSw); go_simp) <;> with_reducible rfl
          try simp only [Act.put, List.setIfInBounds_toArray, List.set_cons_zero, List.set_cons_succ]
          refine tkY 11 ⟨some 66, .load 22 (.tmp 65), 22, "path.go:100", #[⟨10, .data⟩, { on := 13, ground := .gcOnly .lateStores }], none⟩ ?v11z24 hHeld ?y11z24 ?r11z24
          case y11z24 => (intro w hSw; (try dsimp only at hSw); go_simp) <;> with_reducible rfl
          try simp only [Act.put, List.setIfInBounds_toArray, List.set_cons_zero, List.set_cons_succ]
          refine wpAnyH_ready (rs := [9]) (by kernel_rfl) (by simp) ?_
          refine AllReadyH.cons (o := ⟨some 64, .call { callee := .value (.func 15), args := #[.tmp 58, .tmp 63], argTypes := #[3, 22] }, 22, "path.go:100", #[⟨3, .data⟩, ⟨8, .data⟩], none⟩) rfl (fun K hK => ?_) AllReadyH.nil
          go_simp
          refine (hCT _ (ku.later (bU2.trans (bD.mono bU2.size))) ((hTr.later bU2).later bD)).mono ?_
          rintro z w5 ⟨p5, c5, rfl, k5, hb5', t5⟩
          have hb5 := bD.trans (hb5'.mono bD.size)
          have hb5U := bUk.trans (hb5.mono bUk.size)
          replace hHeld := hc2 w5 hb5U
          have g5 := (hb5.block _ lt2).trans gK
          have y1 : w5.cell? ⟨U.heap.size, 1, none⟩ = some (.slice none 0 0) := by rw [cell_of_row _ _ _ _ _ _ g5]; rfl
          have f1 : w5.frozen? ⟨U.heap.size, 1, none⟩ = false := frozen_of_row _ _ _ _ _ g5
          refine hK.out _ _ ?_ (fun _ => ?_)
          · exact hHeld
          clear hK K
          try simp only [Act.put, List.setIfInBounds_toArray, List.set_cons_zero, List.set_cons_succ]
          refine tkY 12 ⟨some 67, .indexAddr 60 (.tmp 13) (.tmp 55), 0, "path.go:100", #[⟨0, .data⟩, ⟨0, .phase⟩, { on := 1, ground := .textOnly .lateStores }, { on := 2, ground := .textOnly .lateStores }, ⟨3, .phase⟩, ⟨4, .phase⟩, ⟨5, .phase⟩, ⟨6, .phase⟩, ⟨7, .phase⟩, ⟨8, .phase⟩, ⟨9, .phase⟩, { on := 10, ground := .textOnly .lateStores }, { on := 11, ground := .textOnly .lateStores }], none⟩ ?v12z25 hHeld ?y12z25 ?r12z25
          case y12z25 => (intro w hSw; (try dsimp only at hSw); go_simp) <;> with_reducible rfl
          try simp only [Act.put, List.setIfInBounds_toArray, List.set_cons_zero, List.set_cons_succ]
          refine wpAnyH_ready (rs := [13]) (by kernel_rfl) (by simp) ?_
          refine AllReadyH.cons (o := ⟨none, .store 22 (.tmp 67) (.tmp 64), 0, "path.go:100", #[⟨12, .data⟩, ⟨9, .data⟩, ⟨9, .chain⟩, ⟨0, .phase⟩, { on := 1, ground := .textOnly .lateStores }, { on := 2, ground := .textOnly .lateStores }, ⟨3, .phase⟩, ⟨4, .phase⟩, ⟨5, .phase⟩, ⟨6, .phase⟩, ⟨7, .phase⟩, ⟨8, .phase⟩, ⟨9, .phase⟩, { on := 10, ground := .textOnly .lateStores }, { on := 11, ground := .textOnly .lateStores }], none⟩) rfl (fun K hK => ?_) AllReadyH.nil
          go_simp
          have g6 := heap_setCell_same w5 U.heap.size 1 _ _ (.slice p5 (cutT size T).length c5) g5
          have y2 : (w5.setCell ⟨U.heap.size, 1, none⟩ (.slice p5 (cutT size T).length c5)).cell? ⟨U.heap.size, 0, none⟩ = some (.slice none 0 0) := by rw [cell_of_row _ _ _ _ _ _ g6]; rfl
          have f2 : (w5.setCell ⟨U.heap.size, 1, none⟩ (.slice p5 (cutT size T).length c5)).frozen? ⟨U.heap.size, 0, none⟩ = false := frozen_of_row _ _ _ _ _ g6
          have b6U : Below U.heap.size U (w5.setCell ⟨U.heap.size, 1, none⟩ (.slice p5 (cutT size T).length c5)) := hb5U.setCell (Nat.le_refl _) _
          replace hHeld := hc2 _ b6U
          refine hK.out _ _ ?_ (fun _ => ?_)
          · exact hHeld
          clear hK K
          try simp only [Act.put, List.setIfInBounds_toArray, List.set_cons_zero, List.set_cons_succ]
          refine tkY 14 ⟨some 68, .indexAddr 60 (.tmp 13) (.tmp 57), 0, "path.go:100", #[⟨2, .data⟩, ⟨0, .phase⟩, ⟨1, .phase⟩, ⟨2, .phase⟩, ⟨3, .phase⟩, ⟨4, .phase⟩, ⟨5, .phase⟩, ⟨6, .phase⟩, ⟨7, .phase⟩, ⟨8, .phase⟩, ⟨9, .phase⟩, ⟨10, .phase⟩, ⟨11, .phase⟩, ⟨12, .phase⟩, ⟨13, .phase⟩], none⟩ ?v14z26 hHeld ?y14z26 ?r14z26
          case y14z26 => (intro w hSw; (try dsimp only at hSw); go_simp) <;> with_reducible rfl
          try simp only [Act.put, List.setIfInBounds_toArray, List.set_cons_zero, List.set_cons_succ]
          refine wpAnyH_ready (rs := [15]) (by kernel_rfl) (by simp) ?_
          refine AllReadyH.cons (o := ⟨none, .store 22 (.tmp 68) (.tmp 66), 0, "path.go:100", #[⟨14, .data⟩, ⟨11, .data⟩, ⟨13, .chain⟩, ⟨0, .phase⟩, ⟨1, .phase⟩, ⟨2, .phase⟩, ⟨3, .phase⟩, ⟨4, .phase⟩, ⟨5, .phase⟩, ⟨6, .phase⟩, ⟨7, .phase⟩, ⟨8, .phase⟩, ⟨9, .phase⟩, ⟨10, .phase⟩, ⟨11, .phase⟩, ⟨12, .phase⟩, ⟨13, .phase⟩], none⟩) rfl (fun K hK => ?_) AllReadyH.nil
          go_simp
          have g7 := heap_setCell_same _ U.heap.size 0 _ _ (.slice qs hsl.length cs) g6
          have b7U : Below U.heap.size U ((w5.setCell ⟨U.heap.size, 1, none⟩ (.slice p5 (cutT size T).length c5)).setCell ⟨U.heap.size, 0, none⟩ (.slice qs hsl.length cs)) := b6U.setCell (Nat.le_refl _) _
          replace hHeld := hc2 _ b7U
          refine hK.out _ _ ?_ (fun _ => ?_)
          · exact hHeld
          clear hK K
          try simp only [Act.put, List.setIfInBounds_toArray, List.set_cons_zero, List.set_cons_succ]
          refine wpAnyH_done (by kernel_rfl) ?_ _
          have ho7 : Only U.heap.size w5 ((w5.setCell ⟨U.heap.size, 1, none⟩ (.slice p5 (cutT size T).length c5)).setCell ⟨U.heap.size, 0, none⟩ (.slice qs hsl.length cs)) := ((Only.refl _ w5).setCell 1 _).setCell 0 _
          have k7 := k5.aside t5 g5 (by decide) ho7
          obtain ⟨W7, hW7⟩ : ∃ W7, (w5.setCell ⟨U.heap.size, 1, none⟩ (.slice p5 (cutT size T).length c5)).setCell ⟨U.heap.size, 0, none⟩ (.slice qs hsl.length cs) = W7 := ⟨_, rfl⟩
          rw [hW7] at k7 b7U g7
          have z0 : W7.cell? ⟨U.heap.size, 0, none⟩ = some (.slice qs hsl.length cs) := by rw [cell_of_row _ _ _ _ _ _ g7]; rfl
          have z1 : W7.cell? ⟨U.heap.size, 1, none⟩ = some (.slice p5 (cutT size T).length c5) := by rw [cell_of_row _ _ _ _ _ _ g7]; rfl
          obtain ⟨hh0, hh1⟩ := hc3 W7 b7U
          have b7 := bU.trans (b7U.mono bU.size)
          have ks7 := ks.later b7
          have hF := forkText_any hd hn (.slice pK K.length cK) _ _ K hsl (cutT size T) W7 ((kk.later hbw).later b7) ks7 k7 (by omega) (by omega) (by omega) (by have := cutT_le size T; have := HZL.out; omega) (by have := cutT_le size T; have := HZL.out; omega)
          rw [HST.out] at hF
          have rt7 := hrt.later b7
          clear hHeld hc2 hc3 g5 g6 g7 y1 f1 y2 f2 hb5 hb5' hb5U b6U k5 t5 ho7 bD hCT ku
          go_wp2_with fail
          refine hF.mono ?_
          rintro z w8 ⟨p8, c8, rfl, k8, hb8', t8⟩
          have hb8 := b7.trans (hb8'.mono b7.size)
          have rt8 := rt7.later hb8'
          have rt9 := rt8.put _ k8 t8
          obtain ⟨y9, c9, f9⟩ := rt8.cell mm (by have := HM.out; omega)
          have hb9 : Below w2.heap.size w2 (w8.setCell ⟨w2.heap.size, mm, none⟩ (.slice p8 (sig mm).length c8)) := (hbw.trans (hb8.mono hbw.size)).setCell (Nat.le_refl _) _
          clear hF rt7 rt8 hb8' b7 b7U k8 t8 z0 z1 hh0 hh1 k7 ks7
          go_wp2
          go_roundw
          case rel => first | exact ⟨mm, by omega, rt9, by go_num, hb9⟩ | ((repeat apply Exists.intro); exact ⟨⟨mm, by omega, rt9, by go_num, hb9⟩, rfl⟩)
          case measure => first | (simp [intOf]; done) | (simp [intOf]; omega)
--A>
--D>
--E>
--C>
--B>

end Go.Proofs.YtahfjemllkbpgaaGreatDoor
