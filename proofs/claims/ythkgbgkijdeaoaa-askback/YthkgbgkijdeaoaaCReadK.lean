/- What this text proves: the walk of change.Read over this program, telling where the bindings that are read lie. -/
import Derived.Test.YthkgbgkijdeaoaaCRead
namespace Go.Proofs.Ythkgbgkijdeaoaa
open Go.RowKit

/-- What Read answers. -/
def RdToldK (er : Int) (bs : List (List UInt8 × List UInt8)) (rest : List UInt8) (w : World) (x : Ending) (w' : World) : Prop :=
  ∃ u v, x = .returned (.tuple #[u, v, .int .i64 er]) ∧ BA w' u (if er = 0 then bs else []) ∧ HB w' v (if er = 0 then rest else []) ∧ Below w.heap.size w w' ∧ (er = 0 → ∃ g gR, u = .slice (some ⟨gR, 0, none⟩) bs.length bs.length ∧ BR w' g gR bs.length bs ∧ w.heap.size ≤ gR)

set_option maxRecDepth 100000 in
set_option maxHeartbeats 8000000 in
theorem creadK_core (pa pb mi mk pc pd pe pf : Int) (v : Value) (b : List UInt8) (w : World) (hv : HB w v b) (hsz : b.length ≤ 140737488351232)
    (e1 : Int) (n : Nat) (r1 : List UInt8) (S : Nat → List (List UInt8 × List UInt8)) (Sl Ml : Nat → List UInt8) (Se Me : Nat → Int) (So Sp : Nat → List UInt8)
    (hU1 : ∀ g w, RR w g b 0 → Calls Try.prog 45 #[.pointer (some ⟨g, 0, none⟩), .int .i64 32] w fun x w' => x = .returned (.int .i64 (n : Int)) ∧ RR w' g r1 e1 ∧ Only g w w')
    (hBi : Hid (∀ k g w, RR w g (Sl k) (Se k) → Calls Try.prog 90 #[.pointer (some ⟨g, 0, none⟩), .int .i64 mi] w fun x w' => ∃ v, x = .returned v ∧ ∃ p c, v = .slice p (So k).length c ∧ HBN w' g (.slice p (So k).length c) (So k) ∧ RR w' g (Ml k) (Me k) ∧ Only g w w'))
    (hBk : Hid (∀ k g w, RR w g (Ml k) (Me k) → Calls Try.prog 90 #[.pointer (some ⟨g, 0, none⟩), .int .i64 mk] w fun x w' => ∃ v, x = .returned v ∧ ∃ p c, v = .slice p (Sp k).length c ∧ HBN w' g (.slice p (Sp k).length c) (Sp k) ∧ RR w' g (Sl (k + 1)) (Se (k + 1)) ∧ Only g w w'))
    (hS0 : Hid (S 0 = [] ∧ Sl 0 = r1 ∧ Se 0 = e1)) (hSk : Hid (∀ k, S (k + 1) = S k ++ [(So k, Sp k)])) (hSl : Hid (∀ k, (S k).length = k)) (hn : n ≤ 32)
    (hR : Hid (Se n = 0 → Sl n = b.drop (b.length - (Sl n).length) ∧ (Sl n).length ≤ b.length)) :
    Calls Try.prog 91 #[.agg #[.int .i64 pa, .int .i64 pb, .int .i64 mi, .int .i64 mk, .int .i64 pc, .int .i64 pd, .int .i64 pe, .int .i64 pf], v] w (RdToldK (Se n) (S n) (Sl n) w) := by
  obtain ⟨P8, hP8⟩ : ∃ P8 : Array Value, P8 = #[.int .i64 pa, .int .i64 pb, .int .i64 mi, .int .i64 mk, .int .i64 pc, .int .i64 pd, .int .i64 pe, .int .i64 pf] := ⟨_, rfl⟩
  have bA := (Below.refl w.heap.size w).alloc (Nat.le_refl _) (.cells P8 73)
  have gA := heap_alloc_new w (.cells P8 73)
  have hO := open_any v b _ (hv.later bA) (by omega)
  obtain ⟨p, c, rfl⟩ := hv.shape
  obtain ⟨i0, hi, hz0, hz1, hz2⟩ := info_parts i_bind
  obtain ⟨V, hV⟩ : ∃ V, V = w.alloc (.cells P8 73) := ⟨_, rfl⟩
  rw [← hV] at bA gA hO
  rw [hP8] at hV
  go_enter Try.func91, Try.ntmps91
  go_wp2_with fail
  rw [← hV]
  refine hO.mono ?_
  rintro x w2 ⟨g, hg, rfl, x2, hb2⟩
  have c2 : CS w w.heap.size g P8 b 0 w2 := ⟨(hb2.block _ (Array.getElem?_eq_some_iff.1 gA).1).trans gA, x2, bA.trans (hb2.mono bA.size), by have := bA.size; omega⟩
  clear hO hb2 bA gA x2 hV hg
  have hU := hU1 g _ c2.2.1
  clear hU1
  go_wp2_with fail
  refine hU.mono ?_
  rintro x w3 ⟨rfl, r3, o3⟩
  obtain ⟨c3, _⟩ := c2.only o3 r3
  clear hU c2 r3 o3
  go_wp2_with (first | (at_make; refine wpList_make_full _ rfl _ _ 23 rfl w.heap.size 92 i0 _ 2 Try.underlying23 hi hz0 hz1 .i64 .i64 _ _ n rfl rfl ?qa ?qb ?qc ?qd ?qe ?_))
  case qa => rfl
  case qb => rfl
  case qc => rw [hz2]; omega
  case qd => unfold maxLen; omega
  case qe => exact c3.2.2.1.size
  intro w4 hown4 hgrow4
  have hb4 : Below w3.heap.size w3 w4 := (Below.refl _ w3).grown hgrow4 (Nat.le_refl _) (by intro k hk; cases hk)
  have c4 := c3.later hb4
  have hgR : w.heap.size ≤ w3.heap.size := c3.2.2.1.size
  have br4 : BR w4 g w3.heap.size n [] := by
    rcases hown4.2 with ⟨e, _⟩ | ⟨g', cap, cur, e, _, hg', hl, _, hcs, _⟩
    · cases e
    · simp only [Value.slice.injEq, Option.some.injEq, Addr.mk.injEq, and_true, true_and] at e
      obtain ⟨rfl, rfl⟩ := e
      exact ⟨cur, hg', hcs, fun j x hx => by simp at hx⟩
  generalize w3.heap.size = gR at *
  clear hown4 hgrow4 hb4 c3
  go_wp2
  go_loopw [17] (fun i wr => ∃ k : Nat, k ≤ n ∧ i = .int .i64 (k : Int) ∧ CS w w.heap.size g P8 (Sl k) (Se k) wr ∧ BR wr g gR n (S k)) (fun i _ => n - (intOf i).toNat)
  case atStart =>
    obtain ⟨s1, s2, s3⟩ := hS0.out
    exact ⟨0, Nat.zero_le _, rfl, by rw [s2, s3]; exact c4, by rw [s1]; exact br4⟩
  case round =>
    clear c4 br4
    obtain ⟨k, hk, rfl, cr, br⟩ := hrel
    by_cases hlt : k < n
    · have hlt2 : (k : Int) < (n : Int) := by omega
      have hsm := hSl.out k
      have HSk : Hid (S (k + 1) = S k ++ [(So k, Sp k)]) := hSk.out k
      have hB1 := hBi.out k g wr cr.2.1
      have hB2 := fun w h => hBk.out k g w h
      have m2 : wr.cell? ⟨w.heap.size, 2, none⟩ = some (.int .i64 mi) := by rw [cell_of_row _ _ _ _ _ _ cr.1, hP8]; rfl
      clear hBi hBk hS0 hSk hSl hR
      go_wp2_with fail
      refine hB1.mono ?_
      rintro x w5 ⟨v5, rfl, p5, c5, rfl, h5, r5, o5⟩
      obtain ⟨cr5, t5⟩ := cr.only o5 r5
      have br5 := br.tk t5 (by decide) (by decide)
      clear hB1 m2 cr br r5 o5 t5
      obtain ⟨⟨z5, y5⟩, f5, _⟩ := br5.cell (k * 2) (by omega)
      have br6 := br5.put1 (.slice p5 (So k).length c5)
      have bu6 := br5.bru (.slice p5 (So k).length c5) (by omega)
      rw [hsm] at br6 bu6
      obtain ⟨t6, br6⟩ := br6
      have cr6 := cr5.put t6 hgR
      have h6 := h5.tk t6 (by decide)
      have hB3 := hB2 _ cr6.2.1
      have m3 : (w5.setCell ⟨gR, k * 2, none⟩ (.slice p5 (So k).length c5)).cell? ⟨w.heap.size, 3, none⟩ = some (.int .i64 mk) := by rw [cell_of_row _ _ _ _ _ _ cr6.1, hP8]; rfl
      clear hB2 br5 cr5 h5 t6
      go_wp2_with fail
      refine hB3.mono ?_
      rintro x w7 ⟨v7, rfl, p7, c7, rfl, h7, r7, o7⟩
      obtain ⟨cr7, t7⟩ := cr6.only o7 r7
      have br7 := br6.tk t7 (by decide) (by decide)
      have bu7 := bu6.tk t7 (by decide)
      have h67 := h6.tk t7 (by decide)
      clear hB3 m3 cr6 br6 bu6 r7 o7 t7 h6 y5 f5
      obtain ⟨⟨z7, y7⟩, f7, _⟩ := br7.cell (k * 2 + 1) (by omega)
      have br8 := br7.put2 (by rw [hsm]; exact bu7) h67 h7 (by omega)
      rw [hsm, ← HSk.out] at br8
      obtain ⟨t8, br8⟩ := br8
      have cr8 := cr7.put t8 hgR
      clear br7 bu7 cr7 h7 h67 t8
      go_wp2
      go_roundw
      case rel => first | exact ⟨k + 1, by omega, by go_num, cr8, br8⟩ | ((repeat apply Exists.intro); exact ⟨⟨k + 1, by omega, by go_num, cr8, br8⟩, rfl⟩)
      case measure => simp [intOf]; omega
    · obtain rfl : k = n := by omega
      have hsm := hSl.out k
      have hE := rr_err g (Sl k) (Se k) wr cr.2.1
      have hL := rr_left g (Sl k) (Se k) wr cr.2.1
      have hbw := cr.2.2.1
      have hvr := hv.later hbw
      have hBA := br.ba hsm (by omega)
      have hnk : ¬ (k : Int) < (k : Int) := by omega
      clear hBi hBk hS0 hSk hSl
      generalize hEN : Se k = EN at *
      clear hEN
      by_cases he : EN = 0
      · subst he
        obtain ⟨hr1, hr2⟩ := hR.out rfl
        have hcu := hvr.len
        have hcut := hvr.behind (b.length - (Sl k).length) (by omega)
        rw [← hr1] at hcut
        have kc : ∀ w', (Instr.slice 22 (.slice p b.length c) (some (.int .i64 ((b.length : Int) - ((Sl k).length : Int)))) none none).run Try.prog w' = .ok (.slice (cutP p c (b.length - (Sl k).length)) (b.length - (b.length - (Sl k).length)) (c - (b.length - (Sl k).length))) w' := fun w' => run_cut (P := Try.prog) Try.underlying22 s_u8 p b.length c (b.length - (Sl k).length) ((b.length : Int) - ((Sl k).length : Int)) (by omega) (by omega) w'
        have hC := clone_any _ (Sl k) wr hcut (by omega)
        have hrb : ((Sl k).length : Int) ≤ (b.length : Int) := by omega
        have hl1 : b.length - (b.length - (Sl k).length) = (Sl k).length := by omega
        rw [hl1] at hC kc
        generalize cutP p c (b.length - (Sl k).length) = pr at *
        generalize c - (b.length - (Sl k).length) = qr at *
        clear hr1 hR hcut hcu hl1
        go_wp2_with (first | (go_at_call 46; refine hE.mono ?_; rintro e w9 ⟨rfl, hw⟩; have hw2 := hw.symm; clear hw; subst hw2) | (go_at_call 56; refine hL.mono ?_; rintro e w9 ⟨rfl, hw⟩; have hw2 := hw.symm; clear hw; subst hw2) | fail)
        refine hC.mono ?_
        rintro x w10 ⟨p10, c10, rfl, hh10, hb10⟩
        have hBA2 := hBA.later hb10
        have br2 := br.tk (T := 106) (TK.of_below hb10) (by decide) (by decide)
        have hbF := hbw.trans (hb10.mono hbw.size)
        have hsm' : Hid ((S k).length = k) := hsm
        clear hC hE hL kc hBA hsm br
        go_wp2
        go_ret3
        refine ⟨_, _, rfl, ?_, ?_, hbF, fun _ => ⟨g, gR, by show Value.slice (some ⟨gR, 0, none⟩) k k = _; rw [hsm'.out], by rw [hsm'.out]; exact br2, hgR⟩⟩
        · rw [if_pos rfl]; exact hBA2
        · rw [if_pos rfl]; exact hh10
      · have hne : (EN != 0) = true := by simpa using he
        clear hR hsm hBA hL
        go_wp2_with (first | (go_at_call 46; refine hE.mono ?_; rintro e w9 ⟨rfl, hw⟩; have hw2 := hw.symm; clear hw; subst hw2))
        go_ret3
        refine ⟨_, _, rfl, ?_, ?_, hbw, fun h => absurd h he⟩
        · rw [if_neg he]; exact ⟨none, 0, rfl, Nat.le_refl _, Nat.zero_le _, fun h => absurd rfl h⟩
        · rw [if_neg he]; exact HB.nil _

theorem creadK_any (pa pb mi mk pc pd pe pf : Int) (v : Value) (b : List UInt8) (w : World) (hv : HB w v b) (hsz : b.length ≤ 140737488351232) :
    Calls Try.prog 91 #[.agg #[.int .i64 pa, .int .i64 pb, .int .i64 mi, .int .i64 mk, .int .i64 pc, .int .i64 pd, .int .i64 pe, .int .i64 pf], v] w (RdToldK (crS mi mk b).2.2 (crS mi mk b).1 (crS mi mk b).2.1 w) := by
  have l1 : (crU b).2.2.length ≤ b.length := rdU_le b 0 32
  have m1 : ((crU b).2.1 : Int) ≤ 32 := rdU_most b 0 32 (by omega)
  have ls := fun k => bdS_le mi mk (crU b).2.2 (crU b).1 k
  exact creadK_core pa pb mi mk pc pd pe pf v b w hv hsz (crU b).1 (crU b).2.1 (crU b).2.2
    (fun k => (bdS mi mk (crU b).2.2 (crU b).1 k).1) (fun k => (bdS mi mk (crU b).2.2 (crU b).1 k).2.1) (fun k => (rdB (bdS mi mk (crU b).2.2 (crU b).1 k).2.1 (bdS mi mk (crU b).2.2 (crU b).1 k).2.2 mi).2.2)
    (fun k => (bdS mi mk (crU b).2.2 (crU b).1 k).2.2) (fun k => (rdB (bdS mi mk (crU b).2.2 (crU b).1 k).2.1 (bdS mi mk (crU b).2.2 (crU b).1 k).2.2 mi).1)
    (fun k => (rdB (bdS mi mk (crU b).2.2 (crU b).1 k).2.1 (bdS mi mk (crU b).2.2 (crU b).1 k).2.2 mi).2.1)
    (fun k => (rdB (rdB (bdS mi mk (crU b).2.2 (crU b).1 k).2.1 (bdS mi mk (crU b).2.2 (crU b).1 k).2.2 mi).2.2 (rdB (bdS mi mk (crU b).2.2 (crU b).1 k).2.1 (bdS mi mk (crU b).2.2 (crU b).1 k).2.2 mi).1 mk).2.1)
    (fun g w h => ruint_all g b 0 32 w h)
    (fun k g w h => rbytes_all g _ _ _ w h (by have := ls k; omega))
    (fun k g w h => rbytes_all g _ _ _ w h (by have := ls k; have := rdB_le (bdS mi mk (crU b).2.2 (crU b).1 k).2.1 (bdS mi mk (crU b).2.2 (crU b).1 k).2.2 mi; omega))
    ⟨rfl, rfl, rfl⟩ (fun _ => rfl) (fun k => bdS_len mi mk _ _ k) (by omega) (fun h => cr_rest mi mk b h)

end Go.Proofs.Ythkgbgkijdeaoaa
