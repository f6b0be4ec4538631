/- What this text proves: the walk of the document's Texts (annalsref17) over this program: the texts of a way, the root's first; none of one that may not be. (By program: held.py, mkrpatexts.py.) -/
import Derived.Test.YtahfjemllkbpgaaGreatDoorJPaTexts
import Derived.Test.YtahfjemllkbpgaaGreatDoorJRPaTextT
import Derived.Test.YtahfjemllkbpgaaGreatDoorJR1
import Derived.Test.YtahfjemllkbpgaaGreatDoorJR2
namespace Go.Proofs.YtahfjemllkbpgaaGreatDoor
open Go.RowKit

theorem rcutT_any (size : Int) (v : Value) (T : List UInt8) (w : World) (h : HB w v T) (hl : T.length ≤ 140737488351232) :
    Calls Tryz.prog 19 #[.int .i64 size, v] w fun y w' => ∃ p c, y = .returned (.slice p (cutT size T).length c) ∧ HB w' (.slice p (cutT size T).length c) (cutT size T) ∧ Below w.heap.size w w' ∧ TB w' (.slice p (cutT size T).length c) := by
  have e : (cutT size T).length = cutLen size := by rw [cutT_len]; have := cutLen_le size; omega
  rw [e]
  exact rcut_ty size v (sha T) w (sha_length _) (rsum_any v T w h hl)

theorem hops_bit {size : Int} {id : List UInt8} {hs : List Hp} {x : Pt} (h : chkW size id hs x = true) : ∀ g ∈ hs, 0 ≤ g.d ∧ g.d ≤ 2048 ∧ (g.s.length : Int) = size ∧ (bitF (keyF id) g.d = 0 ∨ bitF (keyF id) g.d = 1) := by
  have hf := (chkW_facts h).2.2.1
  unfold chkW wayB at h
  simp only [Bool.and_eq_true, decide_eq_true_eq] at h
  obtain ⟨_, _, _, h4⟩ := h
  split at h4
  · cases h4
  · rename_i s' hd
    intro g hg
    obtain ⟨a, b, c⟩ := downF_hops hs 0 s' (by omega) hd g hg
    refine ⟨(hf g hg).1, (hf g hg).2.1, (hf g hg).2.2, ?_⟩
    obtain ⟨D, hD⟩ : ∃ D : Nat, g.d = D := ⟨g.d.toNat, by omega⟩
    rw [hD] at b ⊢
    rw [bitF_nat]
    have h1 := bitN_nonneg (l := keyF id) (n := D)
    have h2 : D < 8 * (keyF id).length := by omega
    have h3 := h1.2 h2
    rcases bitN_range (keyF id) D with q | q | q
    · omega
    · exact Or.inl q
    · exact Or.inr q

theorem upW_dropk (size : Int) (row : List UInt8) (x : Pt) : ∀ (hs : List Hp) (k : Nat) (h : Hp), hs[k]? = some h → (upW size row x hs).drop k = hopT row h (cutT size (((upW size row x hs).drop (k + 1)).headD [])) :: (upW size row x hs).drop (k + 1) := by
  intro hs
  induction hs with
  | nil => intro k h hx; simp at hx
  | cons g t ih =>
    intro k h hx
    cases k with
    | zero =>
      simp at hx
      subst hx
      simp [upW]
    | succ k =>
      simp at hx
      have := ih k h hx
      simpa [upW] using this

theorem upW_dropl (size : Int) (row : List UInt8) (x : Pt) : ∀ (hs : List Hp), (upW size row x hs).drop hs.length = [endT x] := by
  intro hs
  induction hs with
  | nil => rfl
  | cons g t ih => simpa [upW] using ih

set_option maxRecDepth 100000 in
set_option maxHeartbeats 32000000 in
theorem rtexts_any17 (size : Int) (iv hv : Value) (id : List UInt8) (hs : List Hp) (x : Pt) (pi pk pp pl pr pq : Option Addr) (ci ck cp cl cr cq : Nat) (w : World) (hid : HB w iv id) (hh : HA w hv hs) (hi : HB w (.slice pi x.id.length ci) x.id) (hke : HB w (.slice pk x.key.length ck) x.key) (hp : HB w (.slice pp x.pre.length cp) x.pre) (hl : HB w (.slice pl x.l.length cl) x.l) (hr : HB w (.slice pr x.r.length cr) x.r)
    (hN : hs.length ≤ 1000) :
    Calls Tryz.prog 13 #[.int .i64 size, iv, .agg #[hv, .int .i64 x.k, .slice pi x.id.length ci, .slice pk x.key.length ck, .int .i64 x.si, .int .i64 x.d, .slice pp x.pre.length cp, .int .i64 x.nw, .slice pl x.l.length cl, .slice pr x.r.length cr, .slice pq x.kids cq]] w fun e w' => ∃ p c, e = .returned (.slice p (textsW size id hs x).length c) ∧ PA w' (.slice p (textsW size id hs x).length c) (textsW size id hs x) ∧ Below w.heap.size w w' := by
  obtain ⟨pv, cv, rfl⟩ := hid.shape
  obtain ⟨ph, ch, rfl⟩ := hh.shape
  have hC := fun W h1 h2 h3 h4 => rcheck_any17 size (.slice pv id.length cv) (.slice ph hs.length ch) id hs x pi pk pp pl pr pq ci ck cp cl cr cq W h1 h2 h3 h4
  have bA := (Below.refl w.heap.size w).alloc (Nat.le_refl _) (.cells #[.slice ph hs.length ch, .int .i64 x.k, .slice pi x.id.length ci, .slice pk x.key.length ck, .int .i64 x.si, .int .i64 x.d, .slice pp x.pre.length cp, .int .i64 x.nw, .slice pl x.l.length cl, .slice pr x.r.length cr, .slice pq x.kids cq] 28)
  have gA := heap_alloc_new w (.cells #[.slice ph hs.length ch, .int .i64 x.k, .slice pi x.id.length ci, .slice pk x.key.length ck, .int .i64 x.si, .int .i64 x.d, .slice pp x.pre.length cp, .int .i64 x.nw, .slice pl x.l.length cl, .slice pr x.r.length cr, .slice pq x.kids cq] 28)
  obtain ⟨V, hV⟩ : ∃ V, w.alloc (.cells #[.slice ph hs.length ch, .int .i64 x.k, .slice pi x.id.length ci, .slice pk x.key.length ck, .int .i64 x.si, .int .i64 x.d, .slice pp x.pre.length cp, .int .i64 x.nw, .slice pl x.l.length cl, .slice pr x.r.length cr, .slice pq x.kids cq] 28) = V := ⟨_, rfl⟩
  rw [hV] at bA gA
  have kid := hid.later bA
  have kh := hh.later bA
  have ki := hi.later bA
  have kke := hke.later bA
  have kp := hp.later bA
  have kl := hl.later bA
  have kr := hr.later bA
  have hcells : ∀ W, Below V.heap.size V W → W.heap[w.heap.size]? = some (.cells #[.slice ph hs.length ch, .int .i64 x.k, .slice pi x.id.length ci, .slice pk x.key.length ck, .int .i64 x.si, .int .i64 x.d, .slice pp x.pre.length cp, .int .i64 x.nw, .slice pl x.l.length cl, .slice pr x.r.length cr, .slice pq x.kids cq] 28 (0, 0)) := fun W hb => (hb.block _ (Array.getElem?_eq_some_iff.1 gA).1).trans gA
  have hbV : Below V.heap.size V V := Below.refl _ V
  obtain ⟨q0, q1, q2, q3, q4, q5, q6, q7, q8, q9, q10⟩ := cells11 (hcells V hbV)
  have glt : w.heap.size < V.heap.size := (Array.getElem?_eq_some_iff.1 gA).1
  clear hid hh hi hke hp hl hr gA
  cases hchk : chkW size id hs x with
  | false =>
    have e : textsW size id hs x = [] := by unfold textsW; rw [hchk]; rfl
    rw [e]
    simp only [hchk] at hC
    clear e hchk hcells
    obtain ⟨k, xid, key, si, d, pre, nw, l, r, n⟩ := x
    dsimp only at *
    go_enter Tryz.func13, Tryz.ntmps13
    go_wp2_with fail
    refine (hC _ kid kh ki kp).mono ?_
    rintro e w1 ⟨rfl, hb1⟩
    have HW := bA.trans (hb1.mono bA.size)
    simp only [errW]
    clear hC q0 q1 q2 q3 q4 q5 q6 q7 q8 q9 q10 hb1 bA
    go_wp2
    go_ret
    exact ⟨none, 0, rfl, PA.nil _, HW⟩
  | true =>
    have e : textsW size id hs x = upW size (keyF id) x hs := by unfold textsW; rw [hchk]; rfl
    rw [e]
    simp only [hchk] at hC
    have hcf := chkW_facts hchk
    have z2 := hcf.2.1
    have hkinds := hcf.2.2.2
    clear hcf
    have hops := hops_bit hchk
    obtain ⟨s1, s2, s3, s4, s5, s6, s7⟩ := shaped_le (chkW_shaped hchk) z2
    have htl := textsW_le size id hs x hchk
    clear e hchk
    have hK := fun W h => rkey_any (.slice pv id.length cv) id W h
    have hkl := keyF_le id
    have HLE : Hid ((upW size (keyF id) x hs).drop hs.length = [endT x]) := upW_dropl size (keyF id) x hs
    have HSA : Hid (∀ (k : Nat) (h : Hp), hs[k]? = some h → (upW size (keyF id) x hs).drop k = hopT (keyF id) h (cutT size (((upW size (keyF id) x hs).drop (k + 1)).headD [])) :: (upW size (keyF id) x hs).drop (k + 1)) := upW_dropk size (keyF id) x hs
    have HSB : Hid (∀ t ∈ upW size (keyF id) x hs, t.length ≤ 1000) := htl
    have HEL : (endT x).length ≤ 1000 := htl _ (List.mem_of_mem_drop (i := hs.length) (by rw [HLE.out]; simp))
    clear htl
    generalize upW size (keyF id) x hs = L at *
    generalize keyF id = K at *
    have HOP : Hid (∀ g ∈ hs, 0 ≤ g.d ∧ g.d ≤ 2048 ∧ (g.s.length : Int) = size ∧ (bitF K g.d = 0 ∨ bitF K g.d = 1)) := hops
    clear hops
    have hEnd0 : x.k = 0 → endT x = [0] := fun h => by simp [endT, partT, h]
    have hEnd1 : x.k = 1 → endT x = leafT x.id x.key x.si := fun h => by simp [endT, partT, h]
    have hEnd2 : x.k = 2 → endT x = forkT x.d x.pre x.nw x.l x.r := fun h => by simp [endT, partT, h]
    have hkc : x.k = 0 ∨ x.k = 1 ∨ x.k = 2 := by
      rcases hkinds with h | h | h
      · exact Or.inl h
      · exact Or.inr (Or.inl h.1)
      · exact Or.inr (Or.inr h.1)
    clear hkinds
    obtain ⟨k, xid, key, si, d, pre, nw, l, r, n⟩ := x
    dsimp only at *
    generalize endT ⟨k, xid, key, si, d, pre, nw, l, r, n⟩ = E at *
    --<B
    rcases hkc with hk | hk | hk
    · subst hk
      have HEx : Hid (E = [0]) := hEnd0 rfl
      clear hEnd0 hEnd1 hEnd2
      go_enter Tryz.func13, Tryz.ntmps13
      go_wp2_with fail
      refine (hC _ kid kh ki kp).mono ?_
      rintro e w1 ⟨rfl, hb1⟩
      clear hC q0 q1 q2 q3 q4 q5 q6 q7 q8 q9 q10 hbV
      obtain ⟨q0, q1, q2, q3, q4, q5, q6, q7, q8, q9, q10⟩ := cells11 (hcells w1 hb1)
      simp only [errW]
      go_wp2_with fail
      refine (hK _ (kid.later hb1)).mono ?_
      rintro e w2 ⟨pK, cK, rfl, kk, hx2⟩
      have hb2 := hb1.trans (hx2.mono hb1.size)
      clear hK q0 q1 q2 q3 q4 q5 q6 q7 q8 q9 q10 hb1 hx2
      have gB := hcells w2 hb2
      obtain ⟨q0, q1, q2, q3, q4, q5, q6, q7, q8, q9, q10⟩ := cells11 gB
      have kh2 := kh.later hb2
      have ki2 := ki.later hb2
      have kke2 := kke.later hb2
      have kp2 := kp.later hb2
      have kl2 := kl.later hb2
      have kr2 := kr.later hb2
      have bW2 := bA.trans (hb2.mono bA.size)
      have lt2 : w.heap.size < w2.heap.size := Nat.lt_of_lt_of_le glt hb2.size
      clear kid kh ki kke kp kl kr bA hcells hb2
      have hc11 : ∀ W, Below w2.heap.size w2 W → W.heap[w.heap.size]? = some (.cells #[.slice ph hs.length ch, .int .i64 0, .slice pi xid.length ci, .slice pk key.length ck, .int .i64 si, .int .i64 d, .slice pp pre.length cp, .int .i64 nw, .slice pl l.length cl, .slice pr r.length cr, .slice pq n cq] 28 (0, 0)) := fun W hb => (hb.block _ lt2).trans gB
      clear gB q0 q1 q2 q3 q4 q5 q6 q7 q8 q9 q10
      go_wp2_with fail
      refine (rempty_any _).mono ?_
      rintro e w3 ⟨p3, c3, rfl, k3, hb3, t3⟩
      obtain ⟨q0, q1, q2, q3, q4, q5, q6, q7, q8, q9, q10⟩ := cells11 (hc11 w3 hb3)
      rw [← HEx.out] at k3 t3
      rw [← HEx.out]
      clear HEx ki2 kke2 kp2 kl2 kr2
      have oOne := RL.one w3 w2.heap.size hb3.size _ _ k3 t3
      have bOne : Below w3.heap.size w3 (w3.alloc (.cells #[.slice p3 E.length c3] 22)) := (Below.refl _ w3).alloc (Nat.le_refl _) _
      have bO := hb3.trans (bOne.mono hb3.size)
      have k3' := k3.later bOne
      have t3' := t3.later bOne
      obtain ⟨q0, q1, q2, q3, q4, q5, q6, q7, q8, q9, q10⟩ := cells11 (hc11 _ bO)
      clear k3 t3 bOne hb3
      have eL : wrap64 ((hs.length : Int) - 1) = (hs.length : Int) - 1 := by unfold wrap64; omega
      have eL' : IntKind.i64.wrap ((hs.length : Int) - 1) = (hs.length : Int) - 1 := by rw [IntKind.wrap_i64]; omega
      go_wp2
      go_loopw [8, 9, 10] (fun v u i wr => ∃ (j : Nat) (T : List UInt8) (Tl : List (List UInt8)) (pT : Option Addr) (cT : Nat), j ≤ hs.length ∧ i = .int .i64 ((j : Int) - 1) ∧ v = .slice pT T.length cT ∧ HB wr (.slice pT T.length cT) T ∧ TB wr (.slice pT T.length cT) ∧ RL wr w2.heap.size u (T :: Tl) ∧ Hid (L.drop j = T :: Tl) ∧ Hid (Tl.length + j = hs.length) ∧ T.length ≤ 1000 ∧ Below w2.heap.size w2 wr) (fun _ _ i _ => (intOf i + 1).toNat)
      case atStart => exact ⟨hs.length, E, [], p3, c3, Nat.le_refl _, by go_num, rfl, k3', t3', oOne, HLE, by show _ = _; simp, HEL, bO⟩
      case round =>
        clear k3' t3' oOne bO q0 q1 q2 q3 q4 q5 q6 q7 q8 q9 q10
        obtain ⟨j, T, Tl, pT, cT, hj, rfl, rfl, hT8, tT8, hR9, HLD, HLN, hTL, hbw⟩ := hrel
        obtain ⟨p9, c9, hv9⟩ := hR9.shape
        subst hv9
        obtain ⟨q0, q1, q2, q3, q4, q5, q6, q7, q8, q9, q10⟩ := cells11 (hc11 wr hbw)
        cases j with
        | zero =>
          have HW := bW2.trans (hbw.mono bW2.size)
          have hpa := hR9.pa
          have eLL : L = T :: Tl := by have := HLD.out; simpa using this
          rw [← eLL] at hpa
          have eN : (T :: Tl).length = L.length := by rw [eLL]
          have HP : Hid (PA wr (.slice p9 L.length c9) L) := hpa
          have HN : Hid ((T :: Tl).length = L.length) := eN
          have d0 : decide ((0 : Int) ≤ -1) = false := by decide
          clear hpa eLL eN HSA hR9 hT8 tT8 HLD HLN hc11
          generalize (T :: Tl).length = N9 at *
          go_wp2
          go_ret
          rw [HN.out]
          exact ⟨_, _, rfl, HP.out, HW⟩
        | succ mm =>
          have ei : ((mm + 1 : Nat) : Int) - 1 = (mm : Int) := by omega
          rw [ei]
          clear ei
          have hm := (kh2.later hbw).len
          obtain ⟨b, o, rfl⟩ := kh2.addr (by omega)
          obtain ⟨h, qs, cs, hx, e0, e1, e2, ks⟩ := (kh2.later hbw).get mm (by omega)
          have hop := HOP.out h (List.mem_of_getElem? hx.out)
          have hd0 := hop.1
          have hd1 := hop.2.1
          have HZL : Hid ((h.s.length : Int) = size) := hop.2.2.1
          have hbt := hop.2.2.2
          clear hop
          have HLD' : Hid (L.drop mm = hopT K h (cutT size T) :: T :: Tl) := by
            have e := HSA.out mm h hx.out
            rw [HLD.out] at e
            exact e
          have HFL : (hopT K h (cutT size T)).length ≤ 1000 := by
            refine HSB.out _ (List.mem_of_mem_drop (i := mm) ?_)
            rw [HLD'.out]
            simp
          obtain ⟨F, hF⟩ : ∃ F, F = hopT K h (cutT size T) := ⟨_, rfl⟩
          rw [← hF] at HLD' HFL
          have HSM : Hid (F = hopT K h (cutT size T)) := hF
          clear hx hm hF HLD
          obtain ⟨hd, hn, hsl⟩ := h
          dsimp only at *
          obtain ⟨vs9, o9, q9x⟩ := hR9
          have q9 : ∀ (j : Nat) u, vs9[j]? = some u → HB wr u ((T :: Tl).getD j []) ∧ TB wr u := q9x
          clear q9x
          have bU : Below wr.heap.size wr (wr.alloc (.cells #[.int .i64 hd, .int .i64 hn, .slice qs hsl.length cs] 57)) := (Below.refl _ wr).alloc (Nat.le_refl _) _
          have gU := heap_alloc_new wr (.cells #[.int .i64 hd, .int .i64 hn, .slice qs hsl.length cs] 57)
          have sU : (wr.alloc (.cells #[.int .i64 hd, .int .i64 hn, .slice qs hsl.length cs] 57)).heap.size = wr.heap.size + 1 := by simp
          obtain ⟨U, hU⟩ : ∃ U, wr.alloc (.cells #[.int .i64 hd, .int .i64 hn, .slice qs hsl.length cs] 57) = U := ⟨_, rfl⟩
          rw [hU] at bU gU sU
          have bD : Below U.heap.size U U.drew := (Below.refl _ U).drew
          have hc2 : ∀ W, Below U.heap.size U W → W.cell? ⟨wr.heap.size, 2, none⟩ = some (.slice qs hsl.length cs) := by
            intro W hb
            have g := (hb.block wr.heap.size (by omega)).trans gU
            rw [cell_of_row _ _ _ _ _ _ g]
            rfl
          have hc3 : ∀ W, Below U.heap.size U W → W.cell? ⟨wr.heap.size, 0, none⟩ = some (.int .i64 hd) ∧ W.cell? ⟨wr.heap.size, 1, none⟩ = some (.int .i64 hn) := by
            intro W hb
            have g := (hb.block wr.heap.size (by omega)).trans gU
            exact ⟨by rw [cell_of_row _ _ _ _ _ _ g]; rfl, by rw [cell_of_row _ _ _ _ _ _ g]; rfl⟩
          have hHeld := hc2 _ bD
          have hCT := fun W h1 => rcutT_any size (.slice pT T.length cT) T W h1 (by omega)
          have dm : decide ((0 : Int) ≤ (mm : Int)) = true := by simp
          have hmN : mm < hs.length := by omega
          clear HSA HSB HOP hc11 gU sU tT8
          --<W
          go_wp2
          refine wp_region_heldN (by kernel_rfl) (fun W => W.cell? ⟨wr.heap.size, 2, none⟩ = some (.slice qs hsl.length cs)) 7 rfl ?_
          refine tkY 0 ⟨some 70, .move (.tmp 0), 3, "ref.go:131", #[], none⟩ ?v0z1k0 hHeld ?y0z1k0 ?r0z1k0
          case y0z1k0 => (intro w hSw; (try dsimp only at hSw); go_simp) <;> with_reducible rfl
          try simp only [Act.put, List.setIfInBounds_toArray, List.set_cons_zero, List.set_cons_succ]
          refine tkY 1 ⟨some 71, .move (.tmp 8), 22, "ref.go:131", #[], none⟩ ?v1z2k0 hHeld ?y1z2k0 ?r1z2k0
          case y1z2k0 => (intro w hSw; (try dsimp only at hSw); go_simp) <;> with_reducible rfl
          try simp only [Act.put, List.setIfInBounds_toArray, List.set_cons_zero, List.set_cons_succ]
          refine tkY 3 ⟨some 73, .fieldAddr 57 (.tmp 11) 2, 0, "ref.go:131", #[{ on := 5, ground := .gcOnly .lateStores }], none⟩ ?v3z3k0 hHeld ?y3z3k0 ?r3z3k0
          case y3z3k0 => (intro w hSw; (try dsimp only at hSw); go_simp) <;> with_reducible rfl
          try simp only [Act.put, List.setIfInBounds_toArray, List.set_cons_zero, List.set_cons_succ]
          refine tkY 4 ⟨some 74, .load 22 (.tmp 73), 22, "ref.go:131", #[⟨3, .data⟩, { on := 5, ground := .gcOnly .lateStores }], none⟩ ?v4z4k0 hHeld ?y4z4k0 ?r4z4k0
          case y4z4k0 => (intro w hSw; (try dsimp only at hSw); go_simp) <;> with_reducible rfl
          try simp only [Act.put, List.setIfInBounds_toArray, List.set_cons_zero, List.set_cons_succ]
          refine wpAnyH_ready (rs := [2]) (by kernel_rfl) (by simp) ?_
          refine AllReadyH.cons (o := ⟨some 72, .call { callee := .value (.func 19), args := #[.tmp 70, .tmp 71], argTypes := #[3, 22] }, 22, "ref.go:131", #[⟨0, .data⟩, ⟨1, .data⟩], none⟩) rfl (fun K hK => ?_) AllReadyH.nil
          go_simp
          refine (hCT _ (hT8.later (bU.trans (bD.mono bU.size)))).mono ?_
          rintro z w5 ⟨p5, c5, rfl, k5, hb5', t5⟩
          have hb5 := bD.trans (hb5'.mono bD.size)
          replace hHeld := hc2 w5 hb5
          refine hK.out _ _ ?_ (fun _ => ?_)
          · exact hHeld
          clear hK K
          try simp only [Act.put, List.setIfInBounds_toArray, List.set_cons_zero, List.set_cons_succ]
          refine tkY 5 ⟨some 12, .assign (.tmp 72), 22, "ref.go:131", #[⟨2, .data⟩, ⟨2, .chain⟩, ⟨0, .phase⟩, ⟨1, .phase⟩, ⟨2, .phase⟩, { on := 3, ground := .textOnly .lateStores }, { on := 4, ground := .textOnly .lateStores }], none⟩ ?v5z5k0 hHeld ?y5z5k0 ?r5z5k0
          case y5z5k0 => (intro w hSw; (try dsimp only at hSw); go_simp) <;> with_reducible rfl
          try simp only [Act.put, List.setIfInBounds_toArray, List.set_cons_zero, List.set_cons_succ]
          refine tkY 6 ⟨some 13, .assign (.tmp 74), 22, "ref.go:131", #[⟨4, .data⟩, ⟨5, .chain⟩, ⟨0, .phase⟩, ⟨1, .phase⟩, ⟨2, .phase⟩, ⟨3, .phase⟩, ⟨4, .phase⟩, ⟨5, .phase⟩], none⟩ ?v6z6k0 hHeld ?y6z6k0 ?r6z6k0
          case y6z6k0 => (intro w hSw; (try dsimp only at hSw); go_simp) <;> with_reducible rfl
          try simp only [Act.put, List.setIfInBounds_toArray, List.set_cons_zero, List.set_cons_succ]
          refine wpAnyH_done (by kernel_rfl) ?_ _
          have b5 := bU.trans (hb5.mono bU.size)
          obtain ⟨e0', e1'⟩ := hc3 w5 hb5
          have hBit := rbit_any (.slice pK K.length cK) K hd w5 ((kk.later hbw).later b5) (by omega) (by omega)
          have ks5 := ks.later b5
          by_cases hbit : bitF K hd = 0
          · have HST : Hid (forkT hd K hn (cutT size T) hsl = F) := by
              show _ = _
              rw [HSM.out]
              unfold hopT
              rw [if_pos hbit]
            rw [hbit] at hBit
            clear HSM hbit
            go_wp2_with fail
            refine hBit.mono ?_
            rintro z w6 ⟨rfl, hw⟩
            subst w6
            have hF := rforkText_any hd hn (.slice pK K.length cK) _ _ K (cutT size T) hsl w5 ((kk.later hbw).later b5) k5 ks5 (by omega) (by omega) (by omega) (by have := cutT_le size T; have := HZL.out; omega) (by have := cutT_le size T; have := HZL.out; omega)
            rw [HST.out] at hF
            clear hCT hBit hc2 hHeld bD hb5 hb5' k5 ks5 t5
            go_wp2_with fail
            refine hF.mono ?_
            rintro z w8 ⟨p8, c8, rfl, k8, hb8', t8⟩
            have b8 := b5.trans (hb8'.mono b5.size)
            have hsz8 : w2.heap.size ≤ w8.heap.size := (hbw.trans (b8.mono hbw.size)).size
            have b9 : Below w8.heap.size w8 (w8.alloc (.cells #[.slice p8 F.length c8] 22)) := (Below.refl _ w8).alloc (Nat.le_refl _) _
            obtain ⟨o1, q1⟩ := RL.one w8 w2.heap.size hsz8 _ _ k8 t8
            obtain ⟨q1, q1'⟩ := q1
            have oR := owns_later o9 (b8.trans (b9.mono b8.size))
            have qR : ∀ (j : Nat) u, vs9[j]? = some u → HB (w8.alloc (.cells #[.slice p8 F.length c8] 22)) u ((T :: Tl).getD j []) ∧ TB (w8.alloc (.cells #[.slice p8 F.length c8] 22)) u := fun j u hu => ⟨((q9 j u hu).1.later b8).later b9, ((q9 j u hu).2.later b8).later b9⟩
            have k8' := k8.later b9
            have t8' := t8.later b9
            have bX : Below w2.heap.size w2 (w8.alloc (.cells #[.slice p8 F.length c8] 22)) := hbw.trans ((b8.trans (b9.mono b8.size)).mono hbw.size)
            clear hF k8 t8 b8 b9 b5 hb8' o9 q9
            go_wp2_with (first | (at_builtin; refine wpList_append_rows rfl (.tmp 91) (.tmp 92) 38 rfl w2.heap.size w2.heap.size 22 Tryz.underlying38 i_bytes _ 1 o1 vs9 rfl q1 _ _ rfl oR (RL.cells1 qR) ?ua ?ub ?_))
            case ua => have := HLN.out; simp only [List.length_cons]; omega
            case ub => exact bX.size
            intro v10 w10 hown10 hgrow10
            have r10 : RL w10 w2.heap.size v10 (F :: T :: Tl) := RL.join (ls := [F]) (ms := T :: Tl) q1 q1' qR hgrow10 hown10
            have b10 : Below w2.heap.size w2 w10 := bX.grown hgrow10 bX.size (fun k hk => (q1.lt k hk).1)
            obtain ⟨k10, t10⟩ := hb_grown q1 hgrow10 k8' t8'
            clear hown10 hgrow10 q1 q1' oR qR k8' t8' bX
            have ej : IntKind.i64.wrap ((mm : Int) - 1) = (mm : Int) - 1 := by rw [IntKind.wrap_i64]; omega
            have ej' : wrap64 ((mm : Int) - 1) = (mm : Int) - 1 := by unfold wrap64; omega
            have HLN' : Hid ((T :: Tl).length + mm = hs.length) := by show _ = _; have := HLN.out; simp only [List.length_cons]; omega
            go_wp2
            go_roundw
            case rel => first | exact ⟨mm, F, T :: Tl, p8, c8, by omega, rfl, rfl, k10, t10, r10, HLD', HLN', HFL, b10⟩ | ((repeat apply Exists.intro); exact ⟨⟨mm, F, T :: Tl, p8, c8, by omega, rfl, rfl, k10, t10, r10, HLD', HLN', HFL, b10⟩, rfl⟩)
            case measure => first | (simp [intOf]; done) | (simp [intOf]; omega)
          · have HST : Hid (forkT hd K hn hsl (cutT size T) = F) := by
              show _ = _
              rw [HSM.out]
              unfold hopT
              rw [if_neg hbit]
            have hbit1 : bitF K hd = 1 := hbt.resolve_left hbit
            rw [hbit1] at hBit
            clear HSM hbit hbit1
            go_wp2_with fail
            refine hBit.mono ?_
            rintro z w6 ⟨rfl, hw⟩
            subst w6
            have hF := rforkText_any hd hn (.slice pK K.length cK) _ _ K hsl (cutT size T) w5 ((kk.later hbw).later b5) ks5 k5 (by omega) (by omega) (by omega) (by have := cutT_le size T; have := HZL.out; omega) (by have := cutT_le size T; have := HZL.out; omega)
            rw [HST.out] at hF
            clear hCT hBit hc2 hHeld bD hb5 hb5' k5 ks5 t5
            go_wp2_with fail
            refine hF.mono ?_
            rintro z w8 ⟨p8, c8, rfl, k8, hb8', t8⟩
            have b8 := b5.trans (hb8'.mono b5.size)
            have hsz8 : w2.heap.size ≤ w8.heap.size := (hbw.trans (b8.mono hbw.size)).size
            have b9 : Below w8.heap.size w8 (w8.alloc (.cells #[.slice p8 F.length c8] 22)) := (Below.refl _ w8).alloc (Nat.le_refl _) _
            obtain ⟨o1, q1⟩ := RL.one w8 w2.heap.size hsz8 _ _ k8 t8
            obtain ⟨q1, q1'⟩ := q1
            have oR := owns_later o9 (b8.trans (b9.mono b8.size))
            have qR : ∀ (j : Nat) u, vs9[j]? = some u → HB (w8.alloc (.cells #[.slice p8 F.length c8] 22)) u ((T :: Tl).getD j []) ∧ TB (w8.alloc (.cells #[.slice p8 F.length c8] 22)) u := fun j u hu => ⟨((q9 j u hu).1.later b8).later b9, ((q9 j u hu).2.later b8).later b9⟩
            have k8' := k8.later b9
            have t8' := t8.later b9
            have bX : Below w2.heap.size w2 (w8.alloc (.cells #[.slice p8 F.length c8] 22)) := hbw.trans ((b8.trans (b9.mono b8.size)).mono hbw.size)
            clear hF k8 t8 b8 b9 b5 hb8' o9 q9
            go_wp2_with (first | (at_builtin; refine wpList_append_rows rfl (.tmp 91) (.tmp 92) 38 rfl w2.heap.size w2.heap.size 22 Tryz.underlying38 i_bytes _ 1 o1 vs9 rfl q1 _ _ rfl oR (RL.cells1 qR) ?ua ?ub ?_))
            case ua => have := HLN.out; simp only [List.length_cons]; omega
            case ub => exact bX.size
            intro v10 w10 hown10 hgrow10
            have r10 : RL w10 w2.heap.size v10 (F :: T :: Tl) := RL.join (ls := [F]) (ms := T :: Tl) q1 q1' qR hgrow10 hown10
            have b10 : Below w2.heap.size w2 w10 := bX.grown hgrow10 bX.size (fun k hk => (q1.lt k hk).1)
            obtain ⟨k10, t10⟩ := hb_grown q1 hgrow10 k8' t8'
            clear hown10 hgrow10 q1 q1' oR qR k8' t8' bX
            have ej : IntKind.i64.wrap ((mm : Int) - 1) = (mm : Int) - 1 := by rw [IntKind.wrap_i64]; omega
            have ej' : wrap64 ((mm : Int) - 1) = (mm : Int) - 1 := by unfold wrap64; omega
            have HLN' : Hid ((T :: Tl).length + mm = hs.length) := by show _ = _; have := HLN.out; simp only [List.length_cons]; omega
            go_wp2
            go_roundw
            case rel => first | exact ⟨mm, F, T :: Tl, p8, c8, by omega, rfl, rfl, k10, t10, r10, HLD', HLN', HFL, b10⟩ | ((repeat apply Exists.intro); exact ⟨⟨mm, F, T :: Tl, p8, c8, by omega, rfl, rfl, k10, t10, r10, HLD', HLN', HFL, b10⟩, rfl⟩)
            case measure => first | (simp [intOf]; done) | (simp [intOf]; omega)
          --W>
    · subst hk
      have HEx : Hid (E = leafT xid key si) := hEnd1 rfl
      clear hEnd0 hEnd1 hEnd2
      go_enter Tryz.func13, Tryz.ntmps13
      go_wp2_with fail
      refine (hC _ kid kh ki kp).mono ?_
      rintro e w1 ⟨rfl, hb1⟩
      clear hC q0 q1 q2 q3 q4 q5 q6 q7 q8 q9 q10 hbV
      obtain ⟨q0, q1, q2, q3, q4, q5, q6, q7, q8, q9, q10⟩ := cells11 (hcells w1 hb1)
      simp only [errW]
      go_wp2_with fail
      refine (hK _ (kid.later hb1)).mono ?_
      rintro e w2 ⟨pK, cK, rfl, kk, hx2⟩
      have hb2 := hb1.trans (hx2.mono hb1.size)
      clear hK q0 q1 q2 q3 q4 q5 q6 q7 q8 q9 q10 hb1 hx2
      have gB := hcells w2 hb2
      obtain ⟨q0, q1, q2, q3, q4, q5, q6, q7, q8, q9, q10⟩ := cells11 gB
      have kh2 := kh.later hb2
      have ki2 := ki.later hb2
      have kke2 := kke.later hb2
      have kp2 := kp.later hb2
      have kl2 := kl.later hb2
      have kr2 := kr.later hb2
      have bW2 := bA.trans (hb2.mono bA.size)
      have lt2 : w.heap.size < w2.heap.size := Nat.lt_of_lt_of_le glt hb2.size
      clear kid kh ki kke kp kl kr bA hcells hb2
      have hc11 : ∀ W, Below w2.heap.size w2 W → W.heap[w.heap.size]? = some (.cells #[.slice ph hs.length ch, .int .i64 1, .slice pi xid.length ci, .slice pk key.length ck, .int .i64 si, .int .i64 d, .slice pp pre.length cp, .int .i64 nw, .slice pl l.length cl, .slice pr r.length cr, .slice pq n cq] 28 (0, 0)) := fun W hb => (hb.block _ lt2).trans gB
      clear gB q0 q1 q2 q3 q4 q5 q6 q7 q8 q9 q10
      go_wp2_with fail
      refine (rempty_any _).mono ?_
      rintro e w3 ⟨p3, c3, rfl, k3, hb3, t3⟩
      obtain ⟨q0, q1, q2, q3, q4, q5, q6, q7, q8, q9, q10⟩ := cells11 (hc11 w3 hb3)
      have hTx := rleafText_any (.slice pi xid.length ci) (.slice pk key.length ck) xid key si w3 (ki2.later hb3) (kke2.later hb3) (by omega) (by omega)
      rw [← HEx.out] at hTx
      clear HEx ki2 kke2 kp2 kl2 kr2 k3 t3
      go_wp2_with fail
      refine hTx.mono ?_
      rintro e w4 ⟨p4, c4, rfl, k4, hx4, t4⟩
      have hb4 := hb3.trans (hx4.mono hb3.size)
      clear hTx hb3 hx4 q0 q1 q2 q3 q4 q5 q6 q7 q8 q9 q10
      have oOne := RL.one w4 w2.heap.size hb4.size _ _ k4 t4
      have bOne : Below w4.heap.size w4 (w4.alloc (.cells #[.slice p4 E.length c4] 22)) := (Below.refl _ w4).alloc (Nat.le_refl _) _
      have bO := hb4.trans (bOne.mono hb4.size)
      have k4' := k4.later bOne
      have t4' := t4.later bOne
      obtain ⟨q0, q1, q2, q3, q4, q5, q6, q7, q8, q9, q10⟩ := cells11 (hc11 _ bO)
      clear k4 t4 bOne hb4
      have eL : wrap64 ((hs.length : Int) - 1) = (hs.length : Int) - 1 := by unfold wrap64; omega
      have eL' : IntKind.i64.wrap ((hs.length : Int) - 1) = (hs.length : Int) - 1 := by rw [IntKind.wrap_i64]; omega
      go_wp2
      go_loopw [8, 9, 10] (fun v u i wr => ∃ (j : Nat) (T : List UInt8) (Tl : List (List UInt8)) (pT : Option Addr) (cT : Nat), j ≤ hs.length ∧ i = .int .i64 ((j : Int) - 1) ∧ v = .slice pT T.length cT ∧ HB wr (.slice pT T.length cT) T ∧ TB wr (.slice pT T.length cT) ∧ RL wr w2.heap.size u (T :: Tl) ∧ Hid (L.drop j = T :: Tl) ∧ Hid (Tl.length + j = hs.length) ∧ T.length ≤ 1000 ∧ Below w2.heap.size w2 wr) (fun _ _ i _ => (intOf i + 1).toNat)
      case atStart => exact ⟨hs.length, E, [], p4, c4, Nat.le_refl _, by go_num, rfl, k4', t4', oOne, HLE, by show _ = _; simp, HEL, bO⟩
      case round =>
        clear k4' t4' oOne bO q0 q1 q2 q3 q4 q5 q6 q7 q8 q9 q10
        obtain ⟨j, T, Tl, pT, cT, hj, rfl, rfl, hT8, tT8, hR9, HLD, HLN, hTL, hbw⟩ := hrel
        obtain ⟨p9, c9, hv9⟩ := hR9.shape
        subst hv9
        obtain ⟨q0, q1, q2, q3, q4, q5, q6, q7, q8, q9, q10⟩ := cells11 (hc11 wr hbw)
        cases j with
        | zero =>
          have HW := bW2.trans (hbw.mono bW2.size)
          have hpa := hR9.pa
          have eLL : L = T :: Tl := by have := HLD.out; simpa using this
          rw [← eLL] at hpa
          have eN : (T :: Tl).length = L.length := by rw [eLL]
          have HP : Hid (PA wr (.slice p9 L.length c9) L) := hpa
          have HN : Hid ((T :: Tl).length = L.length) := eN
          have d0 : decide ((0 : Int) ≤ -1) = false := by decide
          clear hpa eLL eN HSA hR9 hT8 tT8 HLD HLN hc11
          generalize (T :: Tl).length = N9 at *
          go_wp2
          go_ret
          rw [HN.out]
          exact ⟨_, _, rfl, HP.out, HW⟩
        | succ mm =>
          have ei : ((mm + 1 : Nat) : Int) - 1 = (mm : Int) := by omega
          rw [ei]
          clear ei
          have hm := (kh2.later hbw).len
          obtain ⟨b, o, rfl⟩ := kh2.addr (by omega)
          obtain ⟨h, qs, cs, hx, e0, e1, e2, ks⟩ := (kh2.later hbw).get mm (by omega)
          have hop := HOP.out h (List.mem_of_getElem? hx.out)
          have hd0 := hop.1
          have hd1 := hop.2.1
          have HZL : Hid ((h.s.length : Int) = size) := hop.2.2.1
          have hbt := hop.2.2.2
          clear hop
          have HLD' : Hid (L.drop mm = hopT K h (cutT size T) :: T :: Tl) := by
            have e := HSA.out mm h hx.out
            rw [HLD.out] at e
            exact e
          have HFL : (hopT K h (cutT size T)).length ≤ 1000 := by
            refine HSB.out _ (List.mem_of_mem_drop (i := mm) ?_)
            rw [HLD'.out]
            simp
          obtain ⟨F, hF⟩ : ∃ F, F = hopT K h (cutT size T) := ⟨_, rfl⟩
          rw [← hF] at HLD' HFL
          have HSM : Hid (F = hopT K h (cutT size T)) := hF
          clear hx hm hF HLD
          obtain ⟨hd, hn, hsl⟩ := h
          dsimp only at *
          obtain ⟨vs9, o9, q9x⟩ := hR9
          have q9 : ∀ (j : Nat) u, vs9[j]? = some u → HB wr u ((T :: Tl).getD j []) ∧ TB wr u := q9x
          clear q9x
          have bU : Below wr.heap.size wr (wr.alloc (.cells #[.int .i64 hd, .int .i64 hn, .slice qs hsl.length cs] 57)) := (Below.refl _ wr).alloc (Nat.le_refl _) _
          have gU := heap_alloc_new wr (.cells #[.int .i64 hd, .int .i64 hn, .slice qs hsl.length cs] 57)
          have sU : (wr.alloc (.cells #[.int .i64 hd, .int .i64 hn, .slice qs hsl.length cs] 57)).heap.size = wr.heap.size + 1 := by simp
          obtain ⟨U, hU⟩ : ∃ U, wr.alloc (.cells #[.int .i64 hd, .int .i64 hn, .slice qs hsl.length cs] 57) = U := ⟨_, rfl⟩
          rw [hU] at bU gU sU
          have bD : Below U.heap.size U U.drew := (Below.refl _ U).drew
          have hc2 : ∀ W, Below U.heap.size U W → W.cell? ⟨wr.heap.size, 2, none⟩ = some (.slice qs hsl.length cs) := by
            intro W hb
            have g := (hb.block wr.heap.size (by omega)).trans gU
            rw [cell_of_row _ _ _ _ _ _ g]
            rfl
          have hc3 : ∀ W, Below U.heap.size U W → W.cell? ⟨wr.heap.size, 0, none⟩ = some (.int .i64 hd) ∧ W.cell? ⟨wr.heap.size, 1, none⟩ = some (.int .i64 hn) := by
            intro W hb
            have g := (hb.block wr.heap.size (by omega)).trans gU
            exact ⟨by rw [cell_of_row _ _ _ _ _ _ g]; rfl, by rw [cell_of_row _ _ _ _ _ _ g]; rfl⟩
          have hHeld := hc2 _ bD
          have hCT := fun W h1 => rcutT_any size (.slice pT T.length cT) T W h1 (by omega)
          have dm : decide ((0 : Int) ≤ (mm : Int)) = true := by simp
          have hmN : mm < hs.length := by omega
          clear HSA HSB HOP hc11 gU sU tT8
          --<W
          go_wp2
          refine wp_region_heldN (by kernel_rfl) (fun W => W.cell? ⟨wr.heap.size, 2, none⟩ = some (.slice qs hsl.length cs)) 7 rfl ?_
          refine tkY 0 ⟨some 70, .move (.tmp 0), 3, "ref.go:131", #[], none⟩ ?v0z1k1 hHeld ?y0z1k1 ?r0z1k1
          case y0z1k1 => (intro w hSw; (try dsimp only at hSw); go_simp) <;> with_reducible rfl
          try simp only [Act.put, List.setIfInBounds_toArray, List.set_cons_zero, List.set_cons_succ]
          refine tkY 1 ⟨some 71, .move (.tmp 8), 22, "ref.go:131", #[], none⟩ ?v1z2k1 hHeld ?y1z2k1 ?r1z2k1
          case y1z2k1 => (intro w hSw; (try dsimp only at hSw); go_simp) <;> with_reducible rfl
          try simp only [Act.put, List.setIfInBounds_toArray, List.set_cons_zero, List.set_cons_succ]
          refine tkY 3 ⟨some 73, .fieldAddr 57 (.tmp 11) 2, 0, "ref.go:131", #[{ on := 5, ground := .gcOnly .lateStores }], none⟩ ?v3z3k1 hHeld ?y3z3k1 ?r3z3k1
          case y3z3k1 => (intro w hSw; (try dsimp only at hSw); go_simp) <;> with_reducible rfl
          try simp only [Act.put, List.setIfInBounds_toArray, List.set_cons_zero, List.set_cons_succ]
          refine tkY 4 ⟨some 74, .load 22 (.tmp 73), 22, "ref.go:131", #[⟨3, .data⟩, { on := 5, ground := .gcOnly .lateStores }], none⟩ ?v4z4k1 hHeld ?y4z4k1 ?r4z4k1
          case y4z4k1 => (intro w hSw; (try dsimp only at hSw); go_simp) <;> with_reducible rfl
          try simp only [Act.put, List.setIfInBounds_toArray, List.set_cons_zero, List.set_cons_succ]
          refine wpAnyH_ready (rs := [2]) (by kernel_rfl) (by simp) ?_
          refine AllReadyH.cons (o := ⟨some 72, .call { callee := .value (.func 19), args := #[.tmp 70, .tmp 71], argTypes := #[3, 22] }, 22, "ref.go:131", #[⟨0, .data⟩, ⟨1, .data⟩], none⟩) rfl (fun K hK => ?_) AllReadyH.nil
          go_simp
          refine (hCT _ (hT8.later (bU.trans (bD.mono bU.size)))).mono ?_
          rintro z w5 ⟨p5, c5, rfl, k5, hb5', t5⟩
          have hb5 := bD.trans (hb5'.mono bD.size)
          replace hHeld := hc2 w5 hb5
          refine hK.out _ _ ?_ (fun _ => ?_)
          · exact hHeld
          clear hK K
          try simp only [Act.put, List.setIfInBounds_toArray, List.set_cons_zero, List.set_cons_succ]
          refine tkY 5 ⟨some 12, .assign (.tmp 72), 22, "ref.go:131", #[⟨2, .data⟩, ⟨2, .chain⟩, ⟨0, .phase⟩, ⟨1, .phase⟩, ⟨2, .phase⟩, { on := 3, ground := .textOnly .lateStores }, { on := 4, ground := .textOnly .lateStores }], none⟩ ?v5z5k1 hHeld ?y5z5k1 ?r5z5k1
          case y5z5k1 => (intro w hSw; (try dsimp only at hSw); go_simp) <;> with_reducible rfl
          try simp only [Act.put, List.setIfInBounds_toArray, List.set_cons_zero, List.set_cons_succ]
          refine tkY 6 ⟨some 13, .assign (.tmp 74), 22, "ref.go:131", #[⟨4, .data⟩, ⟨5, .chain⟩, ⟨0, .phase⟩, ⟨1, .phase⟩, ⟨2, .phase⟩, ⟨3, .phase⟩, ⟨4, .phase⟩, ⟨5, .phase⟩], none⟩ ?v6z6k1 hHeld ?y6z6k1 ?r6z6k1
          case y6z6k1 => (intro w hSw; (try dsimp only at hSw); go_simp) <;> with_reducible rfl
          try simp only [Act.put, List.setIfInBounds_toArray, List.set_cons_zero, List.set_cons_succ]
          refine wpAnyH_done (by kernel_rfl) ?_ _
          have b5 := bU.trans (hb5.mono bU.size)
          obtain ⟨e0', e1'⟩ := hc3 w5 hb5
          have hBit := rbit_any (.slice pK K.length cK) K hd w5 ((kk.later hbw).later b5) (by omega) (by omega)
          have ks5 := ks.later b5
          by_cases hbit : bitF K hd = 0
          · have HST : Hid (forkT hd K hn (cutT size T) hsl = F) := by
              show _ = _
              rw [HSM.out]
              unfold hopT
              rw [if_pos hbit]
            rw [hbit] at hBit
            clear HSM hbit
            go_wp2_with fail
            refine hBit.mono ?_
            rintro z w6 ⟨rfl, hw⟩
            subst w6
            have hF := rforkText_any hd hn (.slice pK K.length cK) _ _ K (cutT size T) hsl w5 ((kk.later hbw).later b5) k5 ks5 (by omega) (by omega) (by omega) (by have := cutT_le size T; have := HZL.out; omega) (by have := cutT_le size T; have := HZL.out; omega)
            rw [HST.out] at hF
            clear hCT hBit hc2 hHeld bD hb5 hb5' k5 ks5 t5
            go_wp2_with fail
            refine hF.mono ?_
            rintro z w8 ⟨p8, c8, rfl, k8, hb8', t8⟩
            have b8 := b5.trans (hb8'.mono b5.size)
            have hsz8 : w2.heap.size ≤ w8.heap.size := (hbw.trans (b8.mono hbw.size)).size
            have b9 : Below w8.heap.size w8 (w8.alloc (.cells #[.slice p8 F.length c8] 22)) := (Below.refl _ w8).alloc (Nat.le_refl _) _
            obtain ⟨o1, q1⟩ := RL.one w8 w2.heap.size hsz8 _ _ k8 t8
            obtain ⟨q1, q1'⟩ := q1
            have oR := owns_later o9 (b8.trans (b9.mono b8.size))
            have qR : ∀ (j : Nat) u, vs9[j]? = some u → HB (w8.alloc (.cells #[.slice p8 F.length c8] 22)) u ((T :: Tl).getD j []) ∧ TB (w8.alloc (.cells #[.slice p8 F.length c8] 22)) u := fun j u hu => ⟨((q9 j u hu).1.later b8).later b9, ((q9 j u hu).2.later b8).later b9⟩
            have k8' := k8.later b9
            have t8' := t8.later b9
            have bX : Below w2.heap.size w2 (w8.alloc (.cells #[.slice p8 F.length c8] 22)) := hbw.trans ((b8.trans (b9.mono b8.size)).mono hbw.size)
            clear hF k8 t8 b8 b9 b5 hb8' o9 q9
            go_wp2_with (first | (at_builtin; refine wpList_append_rows rfl (.tmp 91) (.tmp 92) 38 rfl w2.heap.size w2.heap.size 22 Tryz.underlying38 i_bytes _ 1 o1 vs9 rfl q1 _ _ rfl oR (RL.cells1 qR) ?ua ?ub ?_))
            case ua => have := HLN.out; simp only [List.length_cons]; omega
            case ub => exact bX.size
            intro v10 w10 hown10 hgrow10
            have r10 : RL w10 w2.heap.size v10 (F :: T :: Tl) := RL.join (ls := [F]) (ms := T :: Tl) q1 q1' qR hgrow10 hown10
            have b10 : Below w2.heap.size w2 w10 := bX.grown hgrow10 bX.size (fun k hk => (q1.lt k hk).1)
            obtain ⟨k10, t10⟩ := hb_grown q1 hgrow10 k8' t8'
            clear hown10 hgrow10 q1 q1' oR qR k8' t8' bX
            have ej : IntKind.i64.wrap ((mm : Int) - 1) = (mm : Int) - 1 := by rw [IntKind.wrap_i64]; omega
            have ej' : wrap64 ((mm : Int) - 1) = (mm : Int) - 1 := by unfold wrap64; omega
            have HLN' : Hid ((T :: Tl).length + mm = hs.length) := by show _ = _; have := HLN.out; simp only [List.length_cons]; omega
            go_wp2
            go_roundw
            case rel => first | exact ⟨mm, F, T :: Tl, p8, c8, by omega, rfl, rfl, k10, t10, r10, HLD', HLN', HFL, b10⟩ | ((repeat apply Exists.intro); exact ⟨⟨mm, F, T :: Tl, p8, c8, by omega, rfl, rfl, k10, t10, r10, HLD', HLN', HFL, b10⟩, rfl⟩)
            case measure => first | (simp [intOf]; done) | (simp [intOf]; omega)
          · have HST : Hid (forkT hd K hn hsl (cutT size T) = F) := by
              show _ = _
              rw [HSM.out]
              unfold hopT
              rw [if_neg hbit]
            have hbit1 : bitF K hd = 1 := hbt.resolve_left hbit
            rw [hbit1] at hBit
            clear HSM hbit hbit1
            go_wp2_with fail
            refine hBit.mono ?_
            rintro z w6 ⟨rfl, hw⟩
            subst w6
            have hF := rforkText_any hd hn (.slice pK K.length cK) _ _ K hsl (cutT size T) w5 ((kk.later hbw).later b5) ks5 k5 (by omega) (by omega) (by omega) (by have := cutT_le size T; have := HZL.out; omega) (by have := cutT_le size T; have := HZL.out; omega)
            rw [HST.out] at hF
            clear hCT hBit hc2 hHeld bD hb5 hb5' k5 ks5 t5
            go_wp2_with fail
            refine hF.mono ?_
            rintro z w8 ⟨p8, c8, rfl, k8, hb8', t8⟩
            have b8 := b5.trans (hb8'.mono b5.size)
            have hsz8 : w2.heap.size ≤ w8.heap.size := (hbw.trans (b8.mono hbw.size)).size
            have b9 : Below w8.heap.size w8 (w8.alloc (.cells #[.slice p8 F.length c8] 22)) := (Below.refl _ w8).alloc (Nat.le_refl _) _
            obtain ⟨o1, q1⟩ := RL.one w8 w2.heap.size hsz8 _ _ k8 t8
            obtain ⟨q1, q1'⟩ := q1
            have oR := owns_later o9 (b8.trans (b9.mono b8.size))
            have qR : ∀ (j : Nat) u, vs9[j]? = some u → HB (w8.alloc (.cells #[.slice p8 F.length c8] 22)) u ((T :: Tl).getD j []) ∧ TB (w8.alloc (.cells #[.slice p8 F.length c8] 22)) u := fun j u hu => ⟨((q9 j u hu).1.later b8).later b9, ((q9 j u hu).2.later b8).later b9⟩
            have k8' := k8.later b9
            have t8' := t8.later b9
            have bX : Below w2.heap.size w2 (w8.alloc (.cells #[.slice p8 F.length c8] 22)) := hbw.trans ((b8.trans (b9.mono b8.size)).mono hbw.size)
            clear hF k8 t8 b8 b9 b5 hb8' o9 q9
            go_wp2_with (first | (at_builtin; refine wpList_append_rows rfl (.tmp 91) (.tmp 92) 38 rfl w2.heap.size w2.heap.size 22 Tryz.underlying38 i_bytes _ 1 o1 vs9 rfl q1 _ _ rfl oR (RL.cells1 qR) ?ua ?ub ?_))
            case ua => have := HLN.out; simp only [List.length_cons]; omega
            case ub => exact bX.size
            intro v10 w10 hown10 hgrow10
            have r10 : RL w10 w2.heap.size v10 (F :: T :: Tl) := RL.join (ls := [F]) (ms := T :: Tl) q1 q1' qR hgrow10 hown10
            have b10 : Below w2.heap.size w2 w10 := bX.grown hgrow10 bX.size (fun k hk => (q1.lt k hk).1)
            obtain ⟨k10, t10⟩ := hb_grown q1 hgrow10 k8' t8'
            clear hown10 hgrow10 q1 q1' oR qR k8' t8' bX
            have ej : IntKind.i64.wrap ((mm : Int) - 1) = (mm : Int) - 1 := by rw [IntKind.wrap_i64]; omega
            have ej' : wrap64 ((mm : Int) - 1) = (mm : Int) - 1 := by unfold wrap64; omega
            have HLN' : Hid ((T :: Tl).length + mm = hs.length) := by show _ = _; have := HLN.out; simp only [List.length_cons]; omega
            go_wp2
            go_roundw
            case rel => first | exact ⟨mm, F, T :: Tl, p8, c8, by omega, rfl, rfl, k10, t10, r10, HLD', HLN', HFL, b10⟩ | ((repeat apply Exists.intro); exact ⟨⟨mm, F, T :: Tl, p8, c8, by omega, rfl, rfl, k10, t10, r10, HLD', HLN', HFL, b10⟩, rfl⟩)
            case measure => first | (simp [intOf]; done) | (simp [intOf]; omega)
          --W>
    · subst hk
      have HEx : Hid (E = forkT d pre nw l r) := hEnd2 rfl
      clear hEnd0 hEnd1 hEnd2
      go_enter Tryz.func13, Tryz.ntmps13
      go_wp2_with fail
      refine (hC _ kid kh ki kp).mono ?_
      rintro e w1 ⟨rfl, hb1⟩
      clear hC q0 q1 q2 q3 q4 q5 q6 q7 q8 q9 q10 hbV
      obtain ⟨q0, q1, q2, q3, q4, q5, q6, q7, q8, q9, q10⟩ := cells11 (hcells w1 hb1)
      simp only [errW]
      go_wp2_with fail
      refine (hK _ (kid.later hb1)).mono ?_
      rintro e w2 ⟨pK, cK, rfl, kk, hx2⟩
      have hb2 := hb1.trans (hx2.mono hb1.size)
      clear hK q0 q1 q2 q3 q4 q5 q6 q7 q8 q9 q10 hb1 hx2
      have gB := hcells w2 hb2
      obtain ⟨q0, q1, q2, q3, q4, q5, q6, q7, q8, q9, q10⟩ := cells11 gB
      have kh2 := kh.later hb2
      have ki2 := ki.later hb2
      have kke2 := kke.later hb2
      have kp2 := kp.later hb2
      have kl2 := kl.later hb2
      have kr2 := kr.later hb2
      have bW2 := bA.trans (hb2.mono bA.size)
      have lt2 : w.heap.size < w2.heap.size := Nat.lt_of_lt_of_le glt hb2.size
      clear kid kh ki kke kp kl kr bA hcells hb2
      have hc11 : ∀ W, Below w2.heap.size w2 W → W.heap[w.heap.size]? = some (.cells #[.slice ph hs.length ch, .int .i64 2, .slice pi xid.length ci, .slice pk key.length ck, .int .i64 si, .int .i64 d, .slice pp pre.length cp, .int .i64 nw, .slice pl l.length cl, .slice pr r.length cr, .slice pq n cq] 28 (0, 0)) := fun W hb => (hb.block _ lt2).trans gB
      clear gB q0 q1 q2 q3 q4 q5 q6 q7 q8 q9 q10
      go_wp2_with fail
      refine (rempty_any _).mono ?_
      rintro e w3 ⟨p3, c3, rfl, k3, hb3, t3⟩
      obtain ⟨q0, q1, q2, q3, q4, q5, q6, q7, q8, q9, q10⟩ := cells11 (hc11 w3 hb3)
      have hTx := rforkText_any d nw (.slice pp pre.length cp) (.slice pl l.length cl) (.slice pr r.length cr) pre l r w3 (kp2.later hb3) (kl2.later hb3) (kr2.later hb3) (by omega) (by omega) (by omega) (by omega) (by omega)
      rw [← HEx.out] at hTx
      clear HEx ki2 kke2 kp2 kl2 kr2 k3 t3
      go_wp2_with fail
      refine hTx.mono ?_
      rintro e w4 ⟨p4, c4, rfl, k4, hx4, t4⟩
      have hb4 := hb3.trans (hx4.mono hb3.size)
      clear hTx hb3 hx4 q0 q1 q2 q3 q4 q5 q6 q7 q8 q9 q10
      have oOne := RL.one w4 w2.heap.size hb4.size _ _ k4 t4
      have bOne : Below w4.heap.size w4 (w4.alloc (.cells #[.slice p4 E.length c4] 22)) := (Below.refl _ w4).alloc (Nat.le_refl _) _
      have bO := hb4.trans (bOne.mono hb4.size)
      have k4' := k4.later bOne
      have t4' := t4.later bOne
      obtain ⟨q0, q1, q2, q3, q4, q5, q6, q7, q8, q9, q10⟩ := cells11 (hc11 _ bO)
      clear k4 t4 bOne hb4
      have eL : wrap64 ((hs.length : Int) - 1) = (hs.length : Int) - 1 := by unfold wrap64; omega
      have eL' : IntKind.i64.wrap ((hs.length : Int) - 1) = (hs.length : Int) - 1 := by rw [IntKind.wrap_i64]; omega
      go_wp2
      go_loopw [8, 9, 10] (fun v u i wr => ∃ (j : Nat) (T : List UInt8) (Tl : List (List UInt8)) (pT : Option Addr) (cT : Nat), j ≤ hs.length ∧ i = .int .i64 ((j : Int) - 1) ∧ v = .slice pT T.length cT ∧ HB wr (.slice pT T.length cT) T ∧ TB wr (.slice pT T.length cT) ∧ RL wr w2.heap.size u (T :: Tl) ∧ Hid (L.drop j = T :: Tl) ∧ Hid (Tl.length + j = hs.length) ∧ T.length ≤ 1000 ∧ Below w2.heap.size w2 wr) (fun _ _ i _ => (intOf i + 1).toNat)
      case atStart => exact ⟨hs.length, E, [], p4, c4, Nat.le_refl _, by go_num, rfl, k4', t4', oOne, HLE, by show _ = _; simp, HEL, bO⟩
      case round =>
        clear k4' t4' oOne bO q0 q1 q2 q3 q4 q5 q6 q7 q8 q9 q10
        obtain ⟨j, T, Tl, pT, cT, hj, rfl, rfl, hT8, tT8, hR9, HLD, HLN, hTL, hbw⟩ := hrel
        obtain ⟨p9, c9, hv9⟩ := hR9.shape
        subst hv9
        obtain ⟨q0, q1, q2, q3, q4, q5, q6, q7, q8, q9, q10⟩ := cells11 (hc11 wr hbw)
        cases j with
        | zero =>
          have HW := bW2.trans (hbw.mono bW2.size)
          have hpa := hR9.pa
          have eLL : L = T :: Tl := by have := HLD.out; simpa using this
          rw [← eLL] at hpa
          have eN : (T :: Tl).length = L.length := by rw [eLL]
          have HP : Hid (PA wr (.slice p9 L.length c9) L) := hpa
          have HN : Hid ((T :: Tl).length = L.length) := eN
          have d0 : decide ((0 : Int) ≤ -1) = false := by decide
          clear hpa eLL eN HSA hR9 hT8 tT8 HLD HLN hc11
          generalize (T :: Tl).length = N9 at *
          go_wp2
          go_ret
          rw [HN.out]
          exact ⟨_, _, rfl, HP.out, HW⟩
        | succ mm =>
          have ei : ((mm + 1 : Nat) : Int) - 1 = (mm : Int) := by omega
          rw [ei]
          clear ei
          have hm := (kh2.later hbw).len
          obtain ⟨b, o, rfl⟩ := kh2.addr (by omega)
          obtain ⟨h, qs, cs, hx, e0, e1, e2, ks⟩ := (kh2.later hbw).get mm (by omega)
          have hop := HOP.out h (List.mem_of_getElem? hx.out)
          have hd0 := hop.1
          have hd1 := hop.2.1
          have HZL : Hid ((h.s.length : Int) = size) := hop.2.2.1
          have hbt := hop.2.2.2
          clear hop
          have HLD' : Hid (L.drop mm = hopT K h (cutT size T) :: T :: Tl) := by
            have e := HSA.out mm h hx.out
            rw [HLD.out] at e
            exact e
          have HFL : (hopT K h (cutT size T)).length ≤ 1000 := by
            refine HSB.out _ (List.mem_of_mem_drop (i := mm) ?_)
            rw [HLD'.out]
            simp
          obtain ⟨F, hF⟩ : ∃ F, F = hopT K h (cutT size T) := ⟨_, rfl⟩
          rw [← hF] at HLD' HFL
          have HSM : Hid (F = hopT K h (cutT size T)) := hF
          clear hx hm hF HLD
          obtain ⟨hd, hn, hsl⟩ := h
          dsimp only at *
          obtain ⟨vs9, o9, q9x⟩ := hR9
          have q9 : ∀ (j : Nat) u, vs9[j]? = some u → HB wr u ((T :: Tl).getD j []) ∧ TB wr u := q9x
          clear q9x
          have bU : Below wr.heap.size wr (wr.alloc (.cells #[.int .i64 hd, .int .i64 hn, .slice qs hsl.length cs] 57)) := (Below.refl _ wr).alloc (Nat.le_refl _) _
          have gU := heap_alloc_new wr (.cells #[.int .i64 hd, .int .i64 hn, .slice qs hsl.length cs] 57)
          have sU : (wr.alloc (.cells #[.int .i64 hd, .int .i64 hn, .slice qs hsl.length cs] 57)).heap.size = wr.heap.size + 1 := by simp
          obtain ⟨U, hU⟩ : ∃ U, wr.alloc (.cells #[.int .i64 hd, .int .i64 hn, .slice qs hsl.length cs] 57) = U := ⟨_, rfl⟩
          rw [hU] at bU gU sU
          have bD : Below U.heap.size U U.drew := (Below.refl _ U).drew
          have hc2 : ∀ W, Below U.heap.size U W → W.cell? ⟨wr.heap.size, 2, none⟩ = some (.slice qs hsl.length cs) := by
            intro W hb
            have g := (hb.block wr.heap.size (by omega)).trans gU
            rw [cell_of_row _ _ _ _ _ _ g]
            rfl
          have hc3 : ∀ W, Below U.heap.size U W → W.cell? ⟨wr.heap.size, 0, none⟩ = some (.int .i64 hd) ∧ W.cell? ⟨wr.heap.size, 1, none⟩ = some (.int .i64 hn) := by
            intro W hb
            have g := (hb.block wr.heap.size (by omega)).trans gU
            exact ⟨by rw [cell_of_row _ _ _ _ _ _ g]; rfl, by rw [cell_of_row _ _ _ _ _ _ g]; rfl⟩
          have hHeld := hc2 _ bD
          have hCT := fun W h1 => rcutT_any size (.slice pT T.length cT) T W h1 (by omega)
          have dm : decide ((0 : Int) ≤ (mm : Int)) = true := by simp
          have hmN : mm < hs.length := by omega
          clear HSA HSB HOP hc11 gU sU tT8
          --<W
          go_wp2
          refine wp_region_heldN (by kernel_rfl) (fun W => W.cell? ⟨wr.heap.size, 2, none⟩ = some (.slice qs hsl.length cs)) 7 rfl ?_
          refine tkY 0 ⟨some 70, .move (.tmp 0), 3, "ref.go:131", #[], none⟩ ?v0z1k2 hHeld ?y0z1k2 ?r0z1k2
          case y0z1k2 => (intro w hSw; (try dsimp only at hSw); go_simp) <;> with_reducible rfl
          try simp only [Act.put, List.setIfInBounds_toArray, List.set_cons_zero, List.set_cons_succ]
          refine tkY 1 ⟨some 71, .move (.tmp 8), 22, "ref.go:131", #[], none⟩ ?v1z2k2 hHeld ?y1z2k2 ?r1z2k2
          case y1z2k2 => (intro w hSw; (try dsimp only at hSw); go_simp) <;> with_reducible rfl
          try simp only [Act.put, List.setIfInBounds_toArray, List.set_cons_zero, List.set_cons_succ]
          refine tkY 3 ⟨some 73, .fieldAddr 57 (.tmp 11) 2, 0, "ref.go:131", #[{ on := 5, ground := .gcOnly .lateStores }], none⟩ ?v3z3k2 hHeld ?y3z3k2 ?r3z3k2
          case y3z3k2 => (intro w hSw; (try dsimp only at hSw); go_simp) <;> with_reducible rfl
          try simp only [Act.put, List.setIfInBounds_toArray, List.set_cons_zero, List.set_cons_succ]
          refine tkY 4 ⟨some 74, .load 22 (.tmp 73), 22, "ref.go:131", #[⟨3, .data⟩, { on := 5, ground := .gcOnly .lateStores }], none⟩ ?v4z4k2 hHeld ?y4z4k2 ?r4z4k2
          case y4z4k2 => (intro w hSw; (try dsimp only at hSw); go_simp) <;> with_reducible rfl
          try simp only [Act.put, List.setIfInBounds_toArray, List.set_cons_zero, List.set_cons_succ]
          refine wpAnyH_ready (rs := [2]) (by kernel_rfl) (by simp) ?_
          refine AllReadyH.cons (o := ⟨some 72, .call { callee := .value (.func 19), args := #[.tmp 70, .tmp 71], argTypes := #[3, 22] }, 22, "ref.go:131", #[⟨0, .data⟩, ⟨1, .data⟩], none⟩) rfl (fun K hK => ?_) AllReadyH.nil
          go_simp
          refine (hCT _ (hT8.later (bU.trans (bD.mono bU.size)))).mono ?_
          rintro z w5 ⟨p5, c5, rfl, k5, hb5', t5⟩
          have hb5 := bD.trans (hb5'.mono bD.size)
          replace hHeld := hc2 w5 hb5
          refine hK.out _ _ ?_ (fun _ => ?_)
          · exact hHeld
          clear hK K
          try simp only [Act.put, List.setIfInBounds_toArray, List.set_cons_zero, List.set_cons_succ]
          refine tkY 5 ⟨some 12, .assign (.tmp 72), 22, "ref.go:131", #[⟨2, .data⟩, ⟨2, .chain⟩, ⟨0, .phase⟩, ⟨1, .phase⟩, ⟨2, .phase⟩, { on := 3, ground := .textOnly .lateStores }, { on := 4, ground := .textOnly .lateStores }], none⟩ ?v5z5k2 hHeld ?y5z5k2 ?r5z5k2
          case y5z5k2 => (intro w hSw; (try dsimp only at hSw); go_simp) <;> with_reducible rfl
          try simp only [Act.put, List.setIfInBounds_toArray, List.set_cons_zero, List.set_cons_succ]
          refine tkY 6 ⟨some 13, .assign (.tmp 74), 22, "ref.go:131", #[⟨4, .data⟩, ⟨5, .chain⟩, ⟨0, .phase⟩, ⟨1, .phase⟩, ⟨2, .phase⟩, ⟨3, .phase⟩, ⟨4, .phase⟩, ⟨5, .phase⟩], none⟩ ?v6z6k2 hHeld ?y6z6k2 ?r6z6k2
          case y6z6k2 => (intro w hSw; (try dsimp only at hSw); go_simp) <;> with_reducible rfl
          try simp only [Act.put, List.setIfInBounds_toArray, List.set_cons_zero, List.set_cons_succ]
          refine wpAnyH_done (by kernel_rfl) ?_ _
          have b5 := bU.trans (hb5.mono bU.size)
          obtain ⟨e0', e1'⟩ := hc3 w5 hb5
          have hBit := rbit_any (.slice pK K.length cK) K hd w5 ((kk.later hbw).later b5) (by omega) (by omega)
          have ks5 := ks.later b5
          by_cases hbit : bitF K hd = 0
          · have HST : Hid (forkT hd K hn (cutT size T) hsl = F) := by
              show _ = _
              rw [HSM.out]
              unfold hopT
              rw [if_pos hbit]
            rw [hbit] at hBit
            clear HSM hbit
            go_wp2_with fail
            refine hBit.mono ?_
            rintro z w6 ⟨rfl, hw⟩
            subst w6
            have hF := rforkText_any hd hn (.slice pK K.length cK) _ _ K (cutT size T) hsl w5 ((kk.later hbw).later b5) k5 ks5 (by omega) (by omega) (by omega) (by have := cutT_le size T; have := HZL.out; omega) (by have := cutT_le size T; have := HZL.out; omega)
            rw [HST.out] at hF
            clear hCT hBit hc2 hHeld bD hb5 hb5' k5 ks5 t5
            go_wp2_with fail
            refine hF.mono ?_
            rintro z w8 ⟨p8, c8, rfl, k8, hb8', t8⟩
            have b8 := b5.trans (hb8'.mono b5.size)
            have hsz8 : w2.heap.size ≤ w8.heap.size := (hbw.trans (b8.mono hbw.size)).size
            have b9 : Below w8.heap.size w8 (w8.alloc (.cells #[.slice p8 F.length c8] 22)) := (Below.refl _ w8).alloc (Nat.le_refl _) _
            obtain ⟨o1, q1⟩ := RL.one w8 w2.heap.size hsz8 _ _ k8 t8
            obtain ⟨q1, q1'⟩ := q1
            have oR := owns_later o9 (b8.trans (b9.mono b8.size))
            have qR : ∀ (j : Nat) u, vs9[j]? = some u → HB (w8.alloc (.cells #[.slice p8 F.length c8] 22)) u ((T :: Tl).getD j []) ∧ TB (w8.alloc (.cells #[.slice p8 F.length c8] 22)) u := fun j u hu => ⟨((q9 j u hu).1.later b8).later b9, ((q9 j u hu).2.later b8).later b9⟩
            have k8' := k8.later b9
            have t8' := t8.later b9
            have bX : Below w2.heap.size w2 (w8.alloc (.cells #[.slice p8 F.length c8] 22)) := hbw.trans ((b8.trans (b9.mono b8.size)).mono hbw.size)
            clear hF k8 t8 b8 b9 b5 hb8' o9 q9
            go_wp2_with (first | (at_builtin; refine wpList_append_rows rfl (.tmp 91) (.tmp 92) 38 rfl w2.heap.size w2.heap.size 22 Tryz.underlying38 i_bytes _ 1 o1 vs9 rfl q1 _ _ rfl oR (RL.cells1 qR) ?ua ?ub ?_))
            case ua => have := HLN.out; simp only [List.length_cons]; omega
            case ub => exact bX.size
            intro v10 w10 hown10 hgrow10
            have r10 : RL w10 w2.heap.size v10 (F :: T :: Tl) := RL.join (ls := [F]) (ms := T :: Tl) q1 q1' qR hgrow10 hown10
            have b10 : Below w2.heap.size w2 w10 := bX.grown hgrow10 bX.size (fun k hk => (q1.lt k hk).1)
            obtain ⟨k10, t10⟩ := hb_grown q1 hgrow10 k8' t8'
            clear hown10 hgrow10 q1 q1' oR qR k8' t8' bX
            have ej : IntKind.i64.wrap ((mm : Int) - 1) = (mm : Int) - 1 := by rw [IntKind.wrap_i64]; omega
            have ej' : wrap64 ((mm : Int) - 1) = (mm : Int) - 1 := by unfold wrap64; omega
            have HLN' : Hid ((T :: Tl).length + mm = hs.length) := by show _ = _; have := HLN.out; simp only [List.length_cons]; omega
            go_wp2
            go_roundw
            case rel => first | exact ⟨mm, F, T :: Tl, p8, c8, by omega, rfl, rfl, k10, t10, r10, HLD', HLN', HFL, b10⟩ | ((repeat apply Exists.intro); exact ⟨⟨mm, F, T :: Tl, p8, c8, by omega, rfl, rfl, k10, t10, r10, HLD', HLN', HFL, b10⟩, rfl⟩)
            case measure => first | (simp [intOf]; done) | (simp [intOf]; omega)
          · have HST : Hid (forkT hd K hn hsl (cutT size T) = F) := by
              show _ = _
              rw [HSM.out]
              unfold hopT
              rw [if_neg hbit]
            have hbit1 : bitF K hd = 1 := hbt.resolve_left hbit
            rw [hbit1] at hBit
            clear HSM hbit hbit1
            go_wp2_with fail
            refine hBit.mono ?_
            rintro z w6 ⟨rfl, hw⟩
            subst w6
            have hF := rforkText_any hd hn (.slice pK K.length cK) _ _ K hsl (cutT size T) w5 ((kk.later hbw).later b5) ks5 k5 (by omega) (by omega) (by omega) (by have := cutT_le size T; have := HZL.out; omega) (by have := cutT_le size T; have := HZL.out; omega)
            rw [HST.out] at hF
            clear hCT hBit hc2 hHeld bD hb5 hb5' k5 ks5 t5
            go_wp2_with fail
            refine hF.mono ?_
            rintro z w8 ⟨p8, c8, rfl, k8, hb8', t8⟩
            have b8 := b5.trans (hb8'.mono b5.size)
            have hsz8 : w2.heap.size ≤ w8.heap.size := (hbw.trans (b8.mono hbw.size)).size
            have b9 : Below w8.heap.size w8 (w8.alloc (.cells #[.slice p8 F.length c8] 22)) := (Below.refl _ w8).alloc (Nat.le_refl _) _
            obtain ⟨o1, q1⟩ := RL.one w8 w2.heap.size hsz8 _ _ k8 t8
            obtain ⟨q1, q1'⟩ := q1
            have oR := owns_later o9 (b8.trans (b9.mono b8.size))
            have qR : ∀ (j : Nat) u, vs9[j]? = some u → HB (w8.alloc (.cells #[.slice p8 F.length c8] 22)) u ((T :: Tl).getD j []) ∧ TB (w8.alloc (.cells #[.slice p8 F.length c8] 22)) u := fun j u hu => ⟨((q9 j u hu).1.later b8).later b9, ((q9 j u hu).2.later b8).later b9⟩
            have k8' := k8.later b9
            have t8' := t8.later b9
            have bX : Below w2.heap.size w2 (w8.alloc (.cells #[.slice p8 F.length c8] 22)) := hbw.trans ((b8.trans (b9.mono b8.size)).mono hbw.size)
            clear hF k8 t8 b8 b9 b5 hb8' o9 q9
            go_wp2_with (first | (at_builtin; refine wpList_append_rows rfl (.tmp 91) (.tmp 92) 38 rfl w2.heap.size w2.heap.size 22 Tryz.underlying38 i_bytes _ 1 o1 vs9 rfl q1 _ _ rfl oR (RL.cells1 qR) ?ua ?ub ?_))
            case ua => have := HLN.out; simp only [List.length_cons]; omega
            case ub => exact bX.size
            intro v10 w10 hown10 hgrow10
            have r10 : RL w10 w2.heap.size v10 (F :: T :: Tl) := RL.join (ls := [F]) (ms := T :: Tl) q1 q1' qR hgrow10 hown10
            have b10 : Below w2.heap.size w2 w10 := bX.grown hgrow10 bX.size (fun k hk => (q1.lt k hk).1)
            obtain ⟨k10, t10⟩ := hb_grown q1 hgrow10 k8' t8'
            clear hown10 hgrow10 q1 q1' oR qR k8' t8' bX
            have ej : IntKind.i64.wrap ((mm : Int) - 1) = (mm : Int) - 1 := by rw [IntKind.wrap_i64]; omega
            have ej' : wrap64 ((mm : Int) - 1) = (mm : Int) - 1 := by unfold wrap64; omega
            have HLN' : Hid ((T :: Tl).length + mm = hs.length) := by show _ = _; have := HLN.out; simp only [List.length_cons]; omega
            go_wp2
            go_roundw
            case rel => first | exact ⟨mm, F, T :: Tl, p8, c8, by omega, rfl, rfl, k10, t10, r10, HLD', HLN', HFL, b10⟩ | ((repeat apply Exists.intro); exact ⟨⟨mm, F, T :: Tl, p8, c8, by omega, rfl, rfl, k10, t10, r10, HLD', HLN', HFL, b10⟩, rfl⟩)
            case measure => first | (simp [intOf]; done) | (simp [intOf]; omega)
          --W>
--B>

end Go.Proofs.YtahfjemllkbpgaaGreatDoor
