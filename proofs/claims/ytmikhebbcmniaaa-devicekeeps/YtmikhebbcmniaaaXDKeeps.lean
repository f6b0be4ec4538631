/- What this text proves: the walk of annalslaw07.DeviceKeeps over this program: it answers true. -/
import Derived.Test.YtmikhebbcmniaaaXDDevs
import Derived.Test.YtmikhebbcmniaaaDAwake
namespace Go.Proofs.Ytmikhebbcmniaaa
open Go.RowKit

/-- A device all of whose blocks lie from base on. -/
structure One (w : World) (base bd bn bm : Nat) (t : DevS) : Prop where
  d : Dev w bd bn bm t
  b1 : base ≤ bd
  b2 : base ≤ bn
  b3 : base ≤ bm
theorem One.later {w w' : World} {base bd bn bm : Nat} {t : DevS} (h : One w base bd bn bm t) (hb : Below w.heap.size w w') : One w' base bd bn bm t := ⟨h.d.later hb, h.b1, h.b2, h.b3⟩
theorem One.lts {w : World} {base bd bn bm : Nat} {t : DevS} (h : One w base bd bn bm t) : bd < w.heap.size ∧ bn < w.heap.size ∧ bm < w.heap.size := ⟨h.d.db.lt, h.d.sr.lt, h.d.dm.lt⟩
theorem One.base {w : World} {base bd bn bm : Nat} {t : DevS} (h : One w base bd bn bm t) : base ≤ w.heap.size := Nat.le_trans h.b1 (Nat.le_of_lt h.lts.1)

theorem IMG.get {W : World} {base g n : Nat} {now : Nat → List UInt8} (h : IMG W base g n n now) (hl : ∀ j, j < n → (now j).length = 64) (j : Nat) (hj : j < n) : ∃ b, W.cell? ⟨g, j, none⟩ = some (.slice (some ⟨b, 0, none⟩) 64 64) ∧ HB W (.slice (some ⟨b, 0, none⟩) 64 64) (now j) := by
  obtain ⟨vs, h1, h2⟩ := h
  have hv := h1.1
  rw [Nat.mul_one] at hv
  have hc := h1.cellAt j (by omega)
  rw [List.getElem?_eq_getElem (by omega)] at hc
  obtain ⟨b, e1, e2, e3⟩ := h2 j _ hj (List.getElem?_eq_getElem (by omega))
  rw [e1] at hc
  have hb := HB.block e3 (by rw [hl j hj]; unfold maxLen; omega)
  rw [hl j hj] at hb
  exact ⟨b, hc, hb⟩

theorem mod8 (x : Int) : ∃ i : Nat, i < 8 ∧ wrap64 ((IntKind.u64.wrap x).tmod 8) = (i : Int) := by
  have e : IntKind.u64.wrap x = x % 18446744073709551616 := by simp [IntKind.wrap, IntKind.signed, IntKind.bits]
  have h0 : 0 ≤ x % 18446744073709551616 := Int.emod_nonneg _ (by decide)
  have h1 : (x % 18446744073709551616).tmod 8 = (x % 18446744073709551616) % 8 := Int.tmod_eq_emod_of_nonneg h0
  refine ⟨((x % 18446744073709551616) % 8).toNat, by omega, ?_⟩
  rw [e, h1]
  unfold wrap64
  omega

/-- A crash with what is kept from elsewhere. -/
theorem crash_one {w : World} {base bd bn bm : Nat} {t : DevS} (h : One w base bd bn bm t) (vk : Value) (keep : List UInt8) (hv : HB w vk keep) (hb : keep ≠ [] → ∀ a n c, vk = .slice (some a) n c → a.block ≠ bn) :
    Calls Try.prog 25 #[.pointer (some ⟨bd, 0, none⟩), vk] w fun e w' => e = .returned (.int .i64 0) ∧ ∃ bm', One w' base bd bn bm' (t.crash keep) ∧ w.heap.size ≤ bm' ∧ Part (fun k => k = bd ∨ k = bn) w w' := by
  refine (crash_any h.d vk keep hv hb).mono ?_
  rintro e w' ⟨rfl, bm', hd, hm, hp⟩
  have := h.base
  exact ⟨rfl, bm', ⟨hd, h.b1, h.b2, by omega⟩, hm, hp⟩

set_option maxRecDepth 100000 in
set_option maxHeartbeats 3200000 in
theorem keepsWalk (v0 v1 : Value) (ss : List (Int × Int × List UInt8)) (kp : List UInt8) (w : World) (h0 : SA w v0 ss) (h1 : HB w v1 kp) :
    Calls Try.prog 6 #[v0, v1] w fun e w' => e = .returned (.bool true) ∧ Below w.heap.size w w' := by
  obtain ⟨p0, c0, rfl⟩ := h0.shape
  obtain ⟨p1, c1, rfl⟩ := h1.shape
  have hsl := h0.len_le
  unfold maxLen at hsl
  have hkb : kp ≠ [] → ∀ a n c, Value.slice p1 kp.length c1 = .slice (some a) n c → a.block < w.heap.size := fun hl => h1.blk hl
  have hDv := devices_any 8 (by omega) (by omega) _ ss w h0
  have hnil : ∀ W : World, HB W (.slice none 0 0) [] := fun W => HB.empty W none 0 (Nat.zero_le _) (fun _ => rfl)
  go_enter Try.func6, Try.ntmps6
  go_wp2_with (first
    | (go_at_call 26; refine hDv.mono ?_; rintro e w1 ⟨bd, bn, bm, bx, bl, bk, bw, cl, ck, cw, t, rfl, h2, hch, hln, b1⟩; have hC := crash_one ⟨h2.d, h2.b1, h2.b2, h2.b3⟩ _ [] (hnil w1) (fun h => absurd rfl h))
    | (go_at_call 25; refine hC.mono ?_; rintro e w2 ⟨rfl, bm2, h3, hbm2, p2⟩; have p2' : Part (dS bd bn bm) w1 w2 := p2.of_eq (fun k e => by rcases e with e | e; exact .inl e; exact .inr (.inl e)); have hx2 := h2.x.dev h2.d p2'; have hY := rcrash_any hx2 _ [] (hnil w2) (fun h => absurd rfl h))
    | (go_at_call 27; refine hY.mono ?_; rintro e w3 ⟨rfl, hx3, p3⟩; have h4 : One w3 w.heap.size bd bn bm2 (t.crash []) := ⟨h3.d.xdev hx2 p3, h3.b1, h3.b2, h3.b3⟩; have hIm := image_any h4.d)
    | (go_at_call 16; refine hIm.mono ?_; rintro e w4 ⟨gs, rfl, hIs, b4⟩))
  have hok := h2.d.ok
  have hk1 := KI.first hok hln []
  have hl8 := hk1.len
  have hok1 := h3.d.ok
  have hch1 : (t.crash []).ch ≤ 40 := hch
  have hrow1 := fun j (hj : j < 8) => (nowF_row hok1 j (by rw [hl8]; exact hj)).2
  have b12 : Below w.heap.size w1 w2 := p2'.below b1.size (by rintro k (rfl | rfl | rfl); exact h2.b1; exact h2.b2; exact h2.b3)
  have b13 : Below w.heap.size w w2 := b1.trans b12
  have b23 : Below w.heap.size w2 w3 := p3.below b13.size (by rintro k (rfl | rfl | rfl | rfl); exact h2.b4; exact h2.b5; exact h2.b6; exact h2.b7)
  have b03 : Below w.heap.size w w3 := b13.trans b23
  have b04 : Below w.heap.size w w4 := b03.trans (b4.mono b03.size)
  have h5 := h4.later b4
  have hlt3 := h4.lts
  rw [hl8] at hIs ⊢
  clear hDv hC hY hIm h2 h3 hx2 hx3 p2 p2' p3 b1 b12 b13 b23 hbm2 hok hok1 h4 hch hln
  generalize t.crash [] = T1 at *
  have hs34 : w3.heap.size ≤ w4.heap.size := b4.size
  clear b4 b03
  go_loopw [34] (fun i wr => ∃ (k : Nat) (t : DevS), k ≤ ss.length ∧ i = .int .i64 k ∧ One wr w.heap.size bd bn bm2 t ∧ KI t (nowF T1) ∧ t.ch ≤ 50 ∧ t.ch ≤ 40 + k ∧ IMG wr w3.heap.size gs 8 8 (nowF T1) ∧ Below w.heap.size w wr ∧ w3.heap.size ≤ wr.heap.size) (fun i _ => ss.length - (RowKit.intOf i).toNat)
  case atStart => exact ⟨0, T1, Nat.zero_le _, rfl, h5, hk1, by omega, by omega, hIs, b04, hs34⟩
  case round =>
    obtain ⟨k, t, hk, rfl, h6, hki, hc1, hc2, hI, hbe, hsz⟩ := hrel
    clear h5 hk1 hIs b04
    by_cases hlt : k < ss.length
    · obtain ⟨x, hx⟩ : ∃ x, ss[k]? = some x := ⟨_, List.getElem?_eq_getElem hlt⟩
      obtain ⟨b, o, rfl, hcs⟩ := (h0.later hbe).addr (by omega)
      obtain ⟨q1, q2, q3, q4, u, q5, q6⟩ := hcs k x hx
      obtain ⟨op, I, lb⟩ := x
      simp only at q1 q2 q3 q4 q6
      obtain ⟨pu, cu, rfl⟩ := q6.shape
      clear hcs hx
      have hlt2 : (k : Int) < (ss.length : Int) := by omega
      have bA := (Below.refl wr.heap.size wr).alloc (Nat.le_refl _) (.cells #[.int .i64 op, .int .i64 I, .slice pu lb.length cu] 33)
      have gA := heap_alloc_new wr (.cells #[.int .i64 op, .int .i64 I, .slice pu lb.length cu] 33)
      have hbA : Below w.heap.size w (wr.alloc (.cells #[.int .i64 op, .int .i64 I, .slice pu lb.length cu] 33)) := hbe.trans (bA.mono hbe.size)
      have h6A := h6.later bA
      have hIA := hI.later bA
      have hsA : w3.heap.size ≤ (wr.alloc (.cells #[.int .i64 op, .int .i64 I, .slice pu lb.length cu] 33)).heap.size := Nat.le_trans hsz bA.size
      by_cases hk10 : k < 10
      · have hk2 : (k : Int) < 10 := by omega
        obtain ⟨i, hi8, hmod⟩ := mod8 I
        have hmod2 : IntKind.i64.wrap ((IntKind.u64.wrap I).tmod 8) = (i : Int) := by rw [IntKind.wrap_i64]; unfold wrap64 at hmod; omega
        have a0 := cell_of_row _ _ 0 _ _ _ gA
        have a1 := cell_of_row _ _ 1 _ _ _ gA
        have a2 := cell_of_row _ _ 2 _ _ _ gA
        have hlt6 := h6.lts
        generalize hWA : wr.alloc (.cells #[.int .i64 op, .int .i64 I, .slice pu lb.length cu] 33) = WA at *
        have bD : Below WA.heap.size WA WA.drew := (Below.refl _ _).drew
        have hF5 := full_any WA.drew op I _ lb ((q6.later bA).later bD)
        have hS0 : (fun W : World => (W.cell? ⟨wr.heap.size, 0, none⟩ = some (.int .i64 op) ∧ W.cell? ⟨wr.heap.size, 1, none⟩ = some (.int .i64 I) ∧ W.cell? ⟨wr.heap.size, 2, none⟩ = some (.slice pu lb.length cu))) WA.drew := ⟨a0, a1, a2⟩
        have cI0 : WA.cell? ⟨wr.heap.size, 0, none⟩ = some (.int .i64 op) := a0
        have cI1 : WA.cell? ⟨wr.heap.size, 1, none⟩ = some (.int .i64 I) := a1
        have cI2 : WA.cell? ⟨wr.heap.size, 2, none⟩ = some (.slice pu lb.length cu) := a2
        have hst : ∀ w5 g5, HB w5 (.slice (some ⟨g5, 0, none⟩) 64 64) (fullL lb) → WA.drew.heap.size ≤ g5 → Below WA.drew.heap.size WA.drew w5 → (fun W : World => (W.cell? ⟨wr.heap.size, 0, none⟩ = some (.int .i64 op) ∧ W.cell? ⟨wr.heap.size, 1, none⟩ = some (.int .i64 I) ∧ W.cell? ⟨wr.heap.size, 2, none⟩ = some (.slice pu lb.length cu))) w5 ∧ Calls Try.prog 23 #[.pointer (some ⟨bd, 0, none⟩), .int .i64 (i : Int), .slice (some ⟨g5, 0, none⟩) 64 64] w5 fun e w6 => (∃ n, e = .returned (.int .i64 n)) ∧ (fun W : World => (W.cell? ⟨wr.heap.size, 0, none⟩ = some (.int .i64 op) ∧ W.cell? ⟨wr.heap.size, 1, none⟩ = some (.int .i64 I) ∧ W.cell? ⟨wr.heap.size, 2, none⟩ = some (.slice pu lb.length cu))) w6 ∧ One w6 w.heap.size bd bn bm2 (t.write i (fullL lb)) ∧ IMG w6 w3.heap.size gs 8 8 (nowF T1) ∧ Below w.heap.size w w6 ∧ w3.heap.size ≤ w6.heap.size := by
          intro w5 g5 hb5 hg5 b5
          have hS5 : (fun W : World => (W.cell? ⟨wr.heap.size, 0, none⟩ = some (.int .i64 op) ∧ W.cell? ⟨wr.heap.size, 1, none⟩ = some (.int .i64 I) ∧ W.cell? ⟨wr.heap.size, 2, none⟩ = some (.slice pu lb.length cu))) w5 := ⟨cell_later b5 hS0.1, cell_later b5 hS0.2.1, cell_later b5 hS0.2.2⟩
          have b05 : Below WA.heap.size WA w5 := bD.trans b5
          have hd5 := h6A.later b05
          have hlA := h6A.lts
          have hgW : WA.heap.size ≤ g5 := hg5
          refine ⟨hS5, (write_any hd5.d i _ _ hb5 (by rw [hki.len]; exact hi8) (fullL_len lb) (by omega) (by rintro a n c e; cases e; constructor <;> simp only <;> omega)).mono ?_⟩
          rintro e w6 ⟨rfl, hd6, p6⟩
          have hnS : ¬ (wr.heap.size = bd ∨ wr.heap.size = bn ∨ wr.heap.size = bm2) := by omega
          have hI5 := hIA.later b05
          have b5w : Below w.heap.size w w5 := hbA.trans (b05.mono hbA.size)
          exact ⟨⟨_, rfl⟩, ⟨cell_part p6 hS5.1 hnS, cell_part p6 hS5.2.1 hnS, cell_part p6 hS5.2.2 hnS⟩, ⟨hd6, h6.b1, h6.b2, h6.b3⟩, hI5.kept (fun q hq hq2 => p6.2 q hq2 (by omega)), b5w.trans (p6.below b5w.size (by rintro q (rfl | rfl | rfl); exact h6.b1; exact h6.b2; exact h6.b3)), by have := b05.size; have := p6.size; omega⟩
        have hkw := hki.write i hi8 (fullL lb)
        have hcw := write_ch t i (fullL lb)
        generalize t.write i (fullL lb) = TW at *
        clear h6 q6 bA hI h6A hIA a0 a1 a2 gA
        go_wp2
        go_region_held3 (fun W => (W.cell? ⟨wr.heap.size, 0, none⟩ = some (.int .i64 op) ∧ W.cell? ⟨wr.heap.size, 1, none⟩ = some (.int .i64 I) ∧ W.cell? ⟨wr.heap.size, 2, none⟩ = some (.slice pu lb.length cu))) (first | with_reducible exact hS0 | with_reducible exact hS5 | with_reducible exact hS6 | fail) (first
          | (go_at_call 22; refine hF5.mono ?_; rintro e w5 ⟨g5, rfl, hb5, hg5, b5⟩; obtain ⟨hS5, hG⟩ := hst w5 g5 hb5 hg5 b5)
          | (go_at_call 23; refine hG.mono ?_; rintro e w6 ⟨⟨n6, rfl⟩, hS6, h7, hI7, b7, s7⟩))
        clear hF5 hst hG hS0 hS5 hS6
        go_wp2
        go_roundw
        case rel => first | exact ⟨k + 1, TW, by omega, by go_num, h7, hkw, by omega, by omega, hI7, b7, s7⟩ | ((repeat apply Exists.intro); exact ⟨⟨k + 1, TW, by omega, by go_num, h7, hkw, by omega, by omega, hI7, b7, s7⟩, rfl⟩)
        case measure => simp [RowKit.intOf]; omega
      · have hk2 : ¬ (k : Int) < 10 := by omega
        clear h6 q6 bA hI gA
        go_wp2
        go_roundw
        case rel => first | exact ⟨k + 1, t, by omega, by go_num, h6A, hki, by omega, by omega, hIA, hbA, hsA⟩ | ((repeat apply Exists.intro); exact ⟨⟨k + 1, t, by omega, by go_num, h6A, hki, by omega, by omega, hIA, hbA, hsA⟩, rfl⟩)
        case measure => simp [RowKit.intOf]; omega
    · have hIm := image_any h6.d
      have hok6 := h6.d.ok
      rw [hki.len] at hIm
      have hlt6 := h6.lts
      have hrowt := fun j (hj : j < 8) => (nowF_row hok6 j (by rw [hki.len]; exact hj)).2
      have hM9 := mul9
      clear h0
      go_wp2_with (first
        | (go_at_call 16; refine hIm.mono ?_; rintro e wa ⟨gN, rfl, hIN, ba⟩; have h6a := h6.later ba; have hCp := copy_any h6a.d)
        | (go_at_call 19; refine hCp.mono ?_; rintro e wb ⟨gd, gn, gm, cp, rfl, hcb, e1, e2, e3, bb⟩; have bC := (Below.refl wb.heap.size wb).alloc (Nat.le_refl _) (.cells #[.int .u8 1] 5); have gC := heap_alloc_new wb (.cells #[.int .u8 1] 5); have hRp := repeat_any 9 (by omega) (by omega) 1 wb.heap.size 0 1 (wb.alloc (.cells #[.int .u8 1] 5)) (by rw [cell_of_row _ _ 0 _ _ _ gC]; rfl) hM9)
        | (go_at_call 28; refine hRp.mono ?_; rintro e wd ⟨rfl, hbr, bd'⟩; have hcd := (hcb.later bC).later bd'; have hCc := crash_any hcd _ _ hbr (fun _ a n c e => by cases e; have := hcb.sr.lt; simp; omega)))
      rw [World.size_alloc] at hCc
      refine hCc.mono ?_
      rintro e we ⟨rfl, gm2, hce, hgm2, pe⟩
      have sa : wr.heap.size ≤ wa.heap.size := ba.size
      have sb : wa.heap.size ≤ wb.heap.size := bb.size
      have sd : wb.heap.size + 1 ≤ wd.heap.size := by have := bd'.size; simpa using this
      have se : wd.heap.size ≤ we.heap.size := pe.size
      have hlc := hcb.sr.lt
      have hlc2 := hcb.db.lt
      have h6d : One wd w.heap.size bd bn bm2 t := ((h6a.later bb).later bC).later bd'
      have h6e : One we w.heap.size bd bn bm2 t := ⟨h6d.d.part pe ⟨by omega, by omega, by omega⟩, h6d.b1, h6d.b2, h6d.b3⟩
      have bre : Below wr.heap.size wr we := (((ba.trans (bb.mono sa)).trans (bC.mono (by omega))).trans (bd'.mono (by simp; omega))).trans (pe.below (by omega) (by rintro q (rfl | rfl) <;> omega))
      have bwe : Below w.heap.size w we := hbe.trans (bre.mono hbe.size)
      have hCd := crash_one h6e _ kp (h1.later bwe) (fun hl a n c e => by have := hkb hl a n c e; have := h6.b2; omega)
      have hNe : Span wr.heap.size wa.heap.size wa we := (((Span.of_below bb (Nat.le_refl _)).trans (Span.of_below bC sb)).trans (Span.of_below bd' (by simp; omega))).trans (Span.of_part pe (by omega) (by rintro q (rfl | rfl) <;> omega))
      have hIe : Span w3.heap.size wr.heap.size wr we := Span.of_below bre (Nat.le_refl _)
      have hDe : ∀ wf, Part (fun k => k = bd ∨ k = bn) we wf → Dev wf gd gn gm2 ((t.room cp).crash (List.replicate 9 1)) ∧ Span wr.heap.size wa.heap.size wa wf ∧ Span w3.heap.size wr.heap.size wr wf ∧ Below w.heap.size w wf := fun wf pf => ⟨hce.part pf ⟨by omega, by omega, by omega⟩, hNe.trans (Span.of_part pf (by omega) (by rintro q (rfl | rfl) <;> omega)), hIe.trans (Span.of_part pf (by omega) (by rintro q (rfl | rfl) <;> omega)), bwe.trans (pf.below bwe.size (by rintro q (rfl | rfl); exact h6.b1; exact h6.b2))⟩
      have hk4 := hki.left hok6 kp
      have hk5 := hki.all hok6 cp
      have hl4 : (t.crash kp).now.length = 8 := by rw [crash_len hok6]; exact hki.len
      have hl5 : ((t.room cp).crash (List.replicate 9 1)).now.length = 8 := by rw [crash_len (room_ok hok6 cp)]; exact hki.len
      have hw4 : (t.crash kp).waits = [] := by
        unfold DevS.waits
        rw [List.filter_eq_nil_iff]
        intro a _
        simp [DevS.crash]
      clear hIm hCp hRp hCc hM9 bC gC bb bd' pe hcd hbr h6a h6d bre hNe hIe h6 hki
      go_wp2_with (first
        | (go_at_call 25; refine hCd.mono ?_; rintro e wf ⟨rfl, bm3, h7, hbm3, pf⟩; obtain ⟨hcf, hNf, hSf, bwf⟩ := hDe wf pf; have hIm2 := image_any h7.d; rw [hl4] at hIm2)
        | (go_at_call 16; refine hIm2.mono ?_; rintro e wg ⟨gG, rfl, hIG, bg⟩))
      have hok7 := h7.d.ok
      have hrow4 := fun j (hj : j < 8) => (nowF_row hok7 j (by rw [hl4]; exact hj)).2
      have hIN' : IMG wg wr.heap.size gN 8 8 (nowF t) := (hIN.kept hNf).later bg
      have hIS' : IMG wg w3.heap.size gs 8 8 (nowF T1) := (hI.kept hSf).later bg
      have bwg : Below w.heap.size w wg := bwf.trans (bg.mono bwf.size)
      have h7g := h7.later bg
      have hcg := hcf.later bg
      clear hIm2 hCd hDe hIN hI hNf hSf hcf pf bg
      generalize wr = wo at *
      have hAw := awake_any
      go_loopw [83] (fun i wr => ∃ k : Nat, k ≤ 8 ∧ i = .int .i64 k ∧ Below wg.heap.size wg wr) (fun i _ => 8 - (RowKit.intOf i).toNat)
      case atStart => exact ⟨0, Nat.zero_le _, rfl, Below.refl _ _⟩
      case round =>
        obtain ⟨k, hk, rfl, hbz0⟩ := hrel
        by_cases hlt : k < 8
        · have hlt2 : (k : Int) < 8 := by omega
          have hbz : Below wg.heap.size wg wr.drew := hbz0.drew
          obtain ⟨b1, g1, hb1⟩ := (hIG.later hbz).get hrow4 k hlt
          obtain ⟨b2, g2, hb2⟩ := (hIN'.later hbz).get hrowt k hlt
          obtain ⟨b3, g3, hb3⟩ := (hIS'.later hbz).get hrow1 k hlt
          have hHeld : (fun W : World => W.cell? ⟨gG, k, none⟩ = some (.slice (some ⟨b1, 0, none⟩) 64 64) ∧ W.cell? ⟨gN, k, none⟩ = some (.slice (some ⟨b2, 0, none⟩) 64 64) ∧ W.cell? ⟨gs, k, none⟩ = some (.slice (some ⟨b3, 0, none⟩) 64 64)) wr.drew := ⟨g1, g2, g3⟩
          have HK := hk4 k hlt
          by_cases hE : nowF (t.crash kp) k = nowF t k
          · have HE1 := equal_t _ _ _ _ _ hb1 hb2 hE
            have HE2 : True := trivial
            clear hIG hIN' hIS' h7g hcg hbz0 hb1 hb2 hb3 HK hE g1 g2 g3
            go_wp2
            refine wp_region_noPanic ?_
            refine wp_region_heldN (by kernel_rfl) (fun W => W.cell? ⟨gG, k, none⟩ = some (.slice (some ⟨b1, 0, none⟩) 64 64) ∧ W.cell? ⟨gN, k, none⟩ = some (.slice (some ⟨b2, 0, none⟩) 64 64) ∧ W.cell? ⟨gs, k, none⟩ = some (.slice (some ⟨b3, 0, none⟩) 64 64)) 22 rfl ?_
            refine tkY 0 ⟨some 86, .move (.tmp 13), 36, "law.go:110", #[], none⟩ ?v0z1 hHeld ?y0z1 ?r0z1
            case y0z1 => (intro w hSw; (try dsimp only at hSw); go_simp) <;> with_reducible rfl
            try simp only [Act.put, List.setIfInBounds_toArray, List.set_cons_zero, List.set_cons_succ]
            refine tkY 1 ⟨some 87, .move (.tmp 14), 3, "law.go:110", #[], none⟩ ?v1z2 hHeld ?y1z2 ?r1z2
            case y1z2 => (intro w hSw; (try dsimp only at hSw); go_simp) <;> with_reducible rfl
            try simp only [Act.put, List.setIfInBounds_toArray, List.set_cons_zero, List.set_cons_succ]
            refine tkY 2 ⟨some 88, .indexAddr 36 (.tmp 86) (.tmp 87), 0, "law.go:110", #[⟨0, .data⟩, ⟨1, .data⟩], none⟩ ?v2z3 hHeld ?y2z3 ?r2z3
            case y2z3 => (intro w hSw; (try dsimp only at hSw); go_simp) <;> with_reducible rfl
            try simp only [Act.put, List.setIfInBounds_toArray, List.set_cons_zero, List.set_cons_succ]
            refine tkY 3 ⟨some 89, .load 31 (.tmp 88), 31, "law.go:110", #[⟨2, .data⟩], none⟩ ?v3z4 hHeld ?y3z4 ?r3z4
            case y3z4 => (intro w hSw; (try dsimp only at hSw); go_simp) <;> with_reducible rfl
            try simp only [Act.put, List.setIfInBounds_toArray, List.set_cons_zero, List.set_cons_succ]
            refine tkY 4 ⟨some 90, .move (.tmp 11), 36, "law.go:110", #[], none⟩ ?v4z5 hHeld ?y4z5 ?r4z5
            case y4z5 => (intro w hSw; (try dsimp only at hSw); go_simp) <;> with_reducible rfl
            try simp only [Act.put, List.setIfInBounds_toArray, List.set_cons_zero, List.set_cons_succ]
            refine tkY 5 ⟨some 91, .move (.tmp 14), 3, "law.go:110", #[], none⟩ ?v5z6 hHeld ?y5z6 ?r5z6
            case y5z6 => (intro w hSw; (try dsimp only at hSw); go_simp) <;> with_reducible rfl
            try simp only [Act.put, List.setIfInBounds_toArray, List.set_cons_zero, List.set_cons_succ]
            refine tkY 6 ⟨some 92, .indexAddr 36 (.tmp 90) (.tmp 91), 0, "law.go:110", #[⟨4, .data⟩, ⟨5, .data⟩], none⟩ ?v6z7 hHeld ?y6z7 ?r6z7
            case y6z7 => (intro w hSw; (try dsimp only at hSw); go_simp) <;> with_reducible rfl
            try simp only [Act.put, List.setIfInBounds_toArray, List.set_cons_zero, List.set_cons_succ]
            refine tkY 7 ⟨some 93, .load 31 (.tmp 92), 31, "law.go:110", #[⟨6, .data⟩], none⟩ ?v7z8 hHeld ?y7z8 ?r7z8
            case y7z8 => (intro w hSw; (try dsimp only at hSw); go_simp) <;> with_reducible rfl
            try simp only [Act.put, List.setIfInBounds_toArray, List.set_cons_zero, List.set_cons_succ]
            refine wpAnyH_ready (rs := [8]) (by kernel_rfl) (by simp) ?_
            refine AllReadyH.cons (o := ⟨some 94, .call { callee := .value (.func 21), args := #[.tmp 89, .tmp 93], argTypes := #[31, 31] }, 4, "law.go:110", #[⟨3, .data⟩, ⟨7, .data⟩], none⟩) rfl (fun K hK => ?_) AllReadyH.nil
            go_simp
            refine HE1.mono ?_
            rintro x w2 ⟨rfl, hw2⟩
            have hw3 := hw2.symm
            clear hw2
            subst hw3
            refine hK.out _ _ ?_ (fun _ => ?_)
            · exact hHeld
            clear hK K
            try simp only [Act.put, List.setIfInBounds_toArray, List.set_cons_zero, List.set_cons_succ]
            refine tkY 9 ⟨some 95, .unOp .not 4 (.tmp 94), 4, "law.go:110", #[⟨8, .data⟩], none⟩ ?v9z9 hHeld ?y9z9 ?r9z9
            case y9z9 => (intro w hSw; (try dsimp only at hSw); go_simp) <;> with_reducible rfl
            try simp only [Act.put, List.setIfInBounds_toArray, List.set_cons_zero, List.set_cons_succ]
            refine tkY 10 ⟨some 96, .move (.tmp 95), 4, "law.go:110", #[⟨9, .data⟩, ⟨8, .chain⟩], none⟩ ?v10z10 hHeld ?y10z10 ?r10z10
            case y10z10 => (intro w hSw; (try dsimp only at hSw); go_simp) <;> with_reducible rfl
            try simp only [Act.put, List.setIfInBounds_toArray, List.set_cons_zero, List.set_cons_succ]
            refine tkN 11 ⟨some 97, .move (.tmp 13), 36, "law.go:110", #[⟨10, .guard⟩], some (10, true)⟩ hHeld ?_
            try simp only [Act.put, List.setIfInBounds_toArray, List.set_cons_zero, List.set_cons_succ]
            refine tkN 12 ⟨some 98, .move (.tmp 14), 3, "law.go:110", #[⟨10, .guard⟩], some (10, true)⟩ hHeld ?_
            try simp only [Act.put, List.setIfInBounds_toArray, List.set_cons_zero, List.set_cons_succ]
            refine tkN 13 ⟨some 99, .indexAddr 36 (.tmp 97) (.tmp 98), 0, "law.go:110", #[⟨11, .data⟩, ⟨12, .data⟩, ⟨10, .guard⟩], some (10, true)⟩ hHeld ?_
            try simp only [Act.put, List.setIfInBounds_toArray, List.set_cons_zero, List.set_cons_succ]
            refine tkN 14 ⟨some 100, .load 31 (.tmp 99), 31, "law.go:110", #[⟨13, .data⟩, ⟨10, .guard⟩], some (10, true)⟩ hHeld ?_
            try simp only [Act.put, List.setIfInBounds_toArray, List.set_cons_zero, List.set_cons_succ]
            refine tkN 15 ⟨some 101, .move (.tmp 8), 36, "law.go:110", #[⟨10, .guard⟩], some (10, true)⟩ hHeld ?_
            try simp only [Act.put, List.setIfInBounds_toArray, List.set_cons_zero, List.set_cons_succ]
            refine tkN 16 ⟨some 102, .move (.tmp 14), 3, "law.go:110", #[⟨10, .guard⟩], some (10, true)⟩ hHeld ?_
            try simp only [Act.put, List.setIfInBounds_toArray, List.set_cons_zero, List.set_cons_succ]
            refine tkN 17 ⟨some 103, .indexAddr 36 (.tmp 101) (.tmp 102), 0, "law.go:110", #[⟨15, .data⟩, ⟨16, .data⟩, ⟨10, .guard⟩], some (10, true)⟩ hHeld ?_
            try simp only [Act.put, List.setIfInBounds_toArray, List.set_cons_zero, List.set_cons_succ]
            refine tkN 18 ⟨some 104, .load 31 (.tmp 103), 31, "law.go:110", #[⟨17, .data⟩, ⟨10, .guard⟩], some (10, true)⟩ hHeld ?_
            try simp only [Act.put, List.setIfInBounds_toArray, List.set_cons_zero, List.set_cons_succ]
            refine tkN 19 ⟨some 105, .call { callee := .value (.func 21), args := #[.tmp 100, .tmp 104], argTypes := #[31, 31] }, 4, "law.go:110", #[⟨14, .data⟩, ⟨18, .data⟩, ⟨10, .chain⟩, ⟨10, .guard⟩], some (10, true)⟩ hHeld ?_
            try simp only [Act.put, List.setIfInBounds_toArray, List.set_cons_zero, List.set_cons_succ]
            refine tkN 20 ⟨some 106, .unOp .not 4 (.tmp 105), 4, "law.go:110", #[⟨19, .data⟩, ⟨10, .guard⟩], some (10, true)⟩ hHeld ?_
            try simp only [Act.put, List.setIfInBounds_toArray, List.set_cons_zero, List.set_cons_succ]
            refine tkY 21 ⟨some 107, .pick (.tmp 96) (.tmp 106) (.const (.bool false)), 4, "law.go:110", #[⟨10, .data⟩, ⟨20, .data⟩], none⟩ ?v21z11 hHeld ?y21z11 ?r21z11
            case y21z11 => (intro w hSw; (try dsimp only at hSw); go_simp) <;> with_reducible rfl
            try simp only [Act.put, List.setIfInBounds_toArray, List.set_cons_zero, List.set_cons_succ]
            refine wpAnyH_done (by kernel_rfl) ?_ _
            refine NoPanic.normal ?_
            clear hHeld HE1 HE2
            go_wp2
            go_roundw
            case rel => first | exact ⟨k + 1, by omega, by go_num, hbz⟩ | ((repeat apply Exists.intro); exact ⟨⟨k + 1, by omega, by go_num, hbz⟩, rfl⟩)
            case measure => simp [RowKit.intOf]; omega
          · have HE1 := equal_f _ _ _ _ _ hb1 hb2 hE
            have HE2 := equal_t _ _ _ _ _ hb1 hb3 (HK.resolve_left hE)
            clear hIG hIN' hIS' h7g hcg hbz0 hb1 hb2 hb3 HK hE g1 g2 g3
            go_wp2
            refine wp_region_noPanic ?_
            refine wp_region_heldN (by kernel_rfl) (fun W => W.cell? ⟨gG, k, none⟩ = some (.slice (some ⟨b1, 0, none⟩) 64 64) ∧ W.cell? ⟨gN, k, none⟩ = some (.slice (some ⟨b2, 0, none⟩) 64 64) ∧ W.cell? ⟨gs, k, none⟩ = some (.slice (some ⟨b3, 0, none⟩) 64 64)) 22 rfl ?_
            refine tkY 0 ⟨some 86, .move (.tmp 13), 36, "law.go:110", #[], none⟩ ?v0z12 hHeld ?y0z12 ?r0z12
            case y0z12 => (intro w hSw; (try dsimp only at hSw); go_simp) <;> with_reducible rfl
            try simp only [Act.put, List.setIfInBounds_toArray, List.set_cons_zero, List.set_cons_succ]
            refine tkY 1 ⟨some 87, .move (.tmp 14), 3, "law.go:110", #[], none⟩ ?v1z13 hHeld ?y1z13 ?r1z13
            case y1z13 => (intro w hSw; (try dsimp only at hSw); go_simp) <;> with_reducible rfl
            try simp only [Act.put, List.setIfInBounds_toArray, List.set_cons_zero, List.set_cons_succ]
            refine tkY 2 ⟨some 88, .indexAddr 36 (.tmp 86) (.tmp 87), 0, "law.go:110", #[⟨0, .data⟩, ⟨1, .data⟩], none⟩ ?v2z14 hHeld ?y2z14 ?r2z14
            case y2z14 => (intro w hSw; (try dsimp only at hSw); go_simp) <;> with_reducible rfl
            try simp only [Act.put, List.setIfInBounds_toArray, List.set_cons_zero, List.set_cons_succ]
            refine tkY 3 ⟨some 89, .load 31 (.tmp 88), 31, "law.go:110", #[⟨2, .data⟩], none⟩ ?v3z15 hHeld ?y3z15 ?r3z15
            case y3z15 => (intro w hSw; (try dsimp only at hSw); go_simp) <;> with_reducible rfl
            try simp only [Act.put, List.setIfInBounds_toArray, List.set_cons_zero, List.set_cons_succ]
            refine tkY 4 ⟨some 90, .move (.tmp 11), 36, "law.go:110", #[], none⟩ ?v4z16 hHeld ?y4z16 ?r4z16
            case y4z16 => (intro w hSw; (try dsimp only at hSw); go_simp) <;> with_reducible rfl
            try simp only [Act.put, List.setIfInBounds_toArray, List.set_cons_zero, List.set_cons_succ]
            refine tkY 5 ⟨some 91, .move (.tmp 14), 3, "law.go:110", #[], none⟩ ?v5z17 hHeld ?y5z17 ?r5z17
            case y5z17 => (intro w hSw; (try dsimp only at hSw); go_simp) <;> with_reducible rfl
            try simp only [Act.put, List.setIfInBounds_toArray, List.set_cons_zero, List.set_cons_succ]
            refine tkY 6 ⟨some 92, .indexAddr 36 (.tmp 90) (.tmp 91), 0, "law.go:110", #[⟨4, .data⟩, ⟨5, .data⟩], none⟩ ?v6z18 hHeld ?y6z18 ?r6z18
            case y6z18 => (intro w hSw; (try dsimp only at hSw); go_simp) <;> with_reducible rfl
            try simp only [Act.put, List.setIfInBounds_toArray, List.set_cons_zero, List.set_cons_succ]
            refine tkY 7 ⟨some 93, .load 31 (.tmp 92), 31, "law.go:110", #[⟨6, .data⟩], none⟩ ?v7z19 hHeld ?y7z19 ?r7z19
            case y7z19 => (intro w hSw; (try dsimp only at hSw); go_simp) <;> with_reducible rfl
            try simp only [Act.put, List.setIfInBounds_toArray, List.set_cons_zero, List.set_cons_succ]
            refine wpAnyH_ready (rs := [8]) (by kernel_rfl) (by simp) ?_
            refine AllReadyH.cons (o := ⟨some 94, .call { callee := .value (.func 21), args := #[.tmp 89, .tmp 93], argTypes := #[31, 31] }, 4, "law.go:110", #[⟨3, .data⟩, ⟨7, .data⟩], none⟩) rfl (fun K hK => ?_) AllReadyH.nil
            go_simp
            refine HE1.mono ?_
            rintro x w2 ⟨rfl, hw2⟩
            have hw3 := hw2.symm
            clear hw2
            subst hw3
            refine hK.out _ _ ?_ (fun _ => ?_)
            · exact hHeld
            clear hK K
            try simp only [Act.put, List.setIfInBounds_toArray, List.set_cons_zero, List.set_cons_succ]
            refine tkY 9 ⟨some 95, .unOp .not 4 (.tmp 94), 4, "law.go:110", #[⟨8, .data⟩], none⟩ ?v9z20 hHeld ?y9z20 ?r9z20
            case y9z20 => (intro w hSw; (try dsimp only at hSw); go_simp) <;> with_reducible rfl
            try simp only [Act.put, List.setIfInBounds_toArray, List.set_cons_zero, List.set_cons_succ]
            refine tkY 10 ⟨some 96, .move (.tmp 95), 4, "law.go:110", #[⟨9, .data⟩, ⟨8, .chain⟩], none⟩ ?v10z21 hHeld ?y10z21 ?r10z21
            case y10z21 => (intro w hSw; (try dsimp only at hSw); go_simp) <;> with_reducible rfl
            try simp only [Act.put, List.setIfInBounds_toArray, List.set_cons_zero, List.set_cons_succ]
            refine tkY 11 ⟨some 97, .move (.tmp 13), 36, "law.go:110", #[⟨10, .guard⟩], some (10, true)⟩ ?v11z22 hHeld ?y11z22 ?r11z22
            case y11z22 => (intro w hSw; (try dsimp only at hSw); go_simp) <;> with_reducible rfl
            try simp only [Act.put, List.setIfInBounds_toArray, List.set_cons_zero, List.set_cons_succ]
            refine tkY 12 ⟨some 98, .move (.tmp 14), 3, "law.go:110", #[⟨10, .guard⟩], some (10, true)⟩ ?v12z23 hHeld ?y12z23 ?r12z23
            case y12z23 => (intro w hSw; (try dsimp only at hSw); go_simp) <;> with_reducible rfl
            try simp only [Act.put, List.setIfInBounds_toArray, List.set_cons_zero, List.set_cons_succ]
            refine tkY 13 ⟨some 99, .indexAddr 36 (.tmp 97) (.tmp 98), 0, "law.go:110", #[⟨11, .data⟩, ⟨12, .data⟩, ⟨10, .guard⟩], some (10, true)⟩ ?v13z24 hHeld ?y13z24 ?r13z24
            case y13z24 => (intro w hSw; (try dsimp only at hSw); go_simp) <;> with_reducible rfl
            try simp only [Act.put, List.setIfInBounds_toArray, List.set_cons_zero, List.set_cons_succ]
            refine tkY 14 ⟨some 100, .load 31 (.tmp 99), 31, "law.go:110", #[⟨13, .data⟩, ⟨10, .guard⟩], some (10, true)⟩ ?v14z25 hHeld ?y14z25 ?r14z25
            case y14z25 => (intro w hSw; (try dsimp only at hSw); go_simp) <;> with_reducible rfl
            try simp only [Act.put, List.setIfInBounds_toArray, List.set_cons_zero, List.set_cons_succ]
            refine tkY 15 ⟨some 101, .move (.tmp 8), 36, "law.go:110", #[⟨10, .guard⟩], some (10, true)⟩ ?v15z26 hHeld ?y15z26 ?r15z26
            case y15z26 => (intro w hSw; (try dsimp only at hSw); go_simp) <;> with_reducible rfl
            try simp only [Act.put, List.setIfInBounds_toArray, List.set_cons_zero, List.set_cons_succ]
            refine tkY 16 ⟨some 102, .move (.tmp 14), 3, "law.go:110", #[⟨10, .guard⟩], some (10, true)⟩ ?v16z27 hHeld ?y16z27 ?r16z27
            case y16z27 => (intro w hSw; (try dsimp only at hSw); go_simp) <;> with_reducible rfl
            try simp only [Act.put, List.setIfInBounds_toArray, List.set_cons_zero, List.set_cons_succ]
            refine tkY 17 ⟨some 103, .indexAddr 36 (.tmp 101) (.tmp 102), 0, "law.go:110", #[⟨15, .data⟩, ⟨16, .data⟩, ⟨10, .guard⟩], some (10, true)⟩ ?v17z28 hHeld ?y17z28 ?r17z28
            case y17z28 => (intro w hSw; (try dsimp only at hSw); go_simp) <;> with_reducible rfl
            try simp only [Act.put, List.setIfInBounds_toArray, List.set_cons_zero, List.set_cons_succ]
            refine tkY 18 ⟨some 104, .load 31 (.tmp 103), 31, "law.go:110", #[⟨17, .data⟩, ⟨10, .guard⟩], some (10, true)⟩ ?v18z29 hHeld ?y18z29 ?r18z29
            case y18z29 => (intro w hSw; (try dsimp only at hSw); go_simp) <;> with_reducible rfl
            try simp only [Act.put, List.setIfInBounds_toArray, List.set_cons_zero, List.set_cons_succ]
            refine wpAnyH_ready (rs := [19]) (by kernel_rfl) (by simp) ?_
            refine AllReadyH.cons (o := ⟨some 105, .call { callee := .value (.func 21), args := #[.tmp 100, .tmp 104], argTypes := #[31, 31] }, 4, "law.go:110", #[⟨14, .data⟩, ⟨18, .data⟩, ⟨10, .chain⟩, ⟨10, .guard⟩], some (10, true)⟩) rfl (fun K hK => ?_) AllReadyH.nil
            go_simp
            refine HE2.mono ?_
            rintro x w2 ⟨rfl, hw2⟩
            have hw3 := hw2.symm
            clear hw2
            subst hw3
            refine hK.out _ _ ?_ (fun _ => ?_)
            · exact hHeld
            clear hK K
            try simp only [Act.put, List.setIfInBounds_toArray, List.set_cons_zero, List.set_cons_succ]
            refine tkY 20 ⟨some 106, .unOp .not 4 (.tmp 105), 4, "law.go:110", #[⟨19, .data⟩, ⟨10, .guard⟩], some (10, true)⟩ ?v20z30 hHeld ?y20z30 ?r20z30
            case y20z30 => (intro w hSw; (try dsimp only at hSw); go_simp) <;> with_reducible rfl
            try simp only [Act.put, List.setIfInBounds_toArray, List.set_cons_zero, List.set_cons_succ]
            refine tkY 21 ⟨some 107, .pick (.tmp 96) (.tmp 106) (.const (.bool false)), 4, "law.go:110", #[⟨10, .data⟩, ⟨20, .data⟩], none⟩ ?v21z31 hHeld ?y21z31 ?r21z31
            case y21z31 => (intro w hSw; (try dsimp only at hSw); go_simp) <;> with_reducible rfl
            try simp only [Act.put, List.setIfInBounds_toArray, List.set_cons_zero, List.set_cons_succ]
            refine wpAnyH_done (by kernel_rfl) ?_ _
            refine NoPanic.normal ?_
            clear hHeld HE1 HE2
            go_wp2
            go_roundw
            case rel => first | exact ⟨k + 1, by omega, by go_num, hbz⟩ | ((repeat apply Exists.intro); exact ⟨⟨k + 1, by omega, by go_num, hbz⟩, rfl⟩)
            case measure => simp [RowKit.intOf]; omega
        · obtain rfl : k = 8 := by omega
          have hcr := hcg.later hbz0
          have h7r := h7g.later hbz0
          have hINr := hIN'.later hbz0
          have hIm3 := image_any hcr
          rw [hl5] at hIm3
          have hrow5 : ∀ j, j < 8 → (nowF ((t.room cp).crash (List.replicate 9 1)) j).length = 64 := fun j hj => by rw [hk5 j hj]; exact hrowt j hj
          have hsame : (List.range 8).map (nowF ((t.room cp).crash (List.replicate 9 1))) = (List.range 8).map (nowF t) := List.map_congr_left (fun j hj => hk5 j (List.mem_range.1 hj))
          have hnilI : ∀ W : World, IA W (.slice none 0 0) [] := fun W => ⟨none, 0, rfl, Nat.le_refl _, Nat.zero_le _, fun h => absurd rfl h⟩
          have hwx : ∀ wx, Below wr.heap.size wr wx → Calls Try.prog 31 #[.pointer (some ⟨bd, 0, none⟩)] wx fun e w' => ∃ v, e = .returned v ∧ IA w' v [] ∧ Below wx.heap.size wx w' := by
            intro wx bx'
            refine (waits_any (h7r.later bx').d).mono ?_
            rintro e w' ⟨v, rfl, hia, _, bw'⟩
            rw [hw4] at hia
            exact ⟨v, rfl, hia, bw'⟩
          have hpaN : ∀ wx, Below wr.heap.size wr wx → PA wx (.slice (some ⟨gN, 0, none⟩) 8 8) ((List.range 8).map (nowF t)) := fun wx bx' => (hINr.later bx').pa hrowt
          have bwr : Below w.heap.size w wr := bwg.trans (hbz0.mono bwg.size)
          clear hIG hIN' hIS' h7g hcg hcr h7r hINr
          go_wp2_with (first
            | (go_at_call 16; refine hIm3.mono ?_; rintro e wx ⟨gX, rfl, hIX, bX⟩; have hSm := same_t _ _ _ _ wx (hIX.pa hrow5) (hpaN wx bX) hsame; have hWt := hwx wx bX)
            | (go_at_call 29; refine hSm.mono ?_; rintro e w9 ⟨rfl, hw9⟩; have hw10 := hw9.symm; clear hw9; subst hw10)
            | (go_at_call 31; refine hWt.mono ?_; rintro e wy ⟨vy, rfl, hIy, bY⟩; obtain ⟨py, cy, rfl⟩ := hIy.shape; have hEq := slequal_same _ _ _ wy hIy (hnilI wy))
            | (go_at_call 30; refine hEq.mono ?_; rintro e wz ⟨rfl, bZ⟩; have hA2 := hAw wz)
            | (go_at_call 10; refine hA2.mono ?_; rintro e wq ⟨rfl, bQ⟩))
          go_ret
          have r1 : Below w.heap.size w wx := bwr.trans (bX.mono bwr.size)
          have r2 : Below w.heap.size w wy := r1.trans (bY.mono r1.size)
          have r3 : Below w.heap.size w wz := r2.trans (bZ.mono r2.size)
          exact ⟨rfl, r3.trans (bQ.mono r3.size)⟩

end Go.Proofs.Ytmikhebbcmniaaa
