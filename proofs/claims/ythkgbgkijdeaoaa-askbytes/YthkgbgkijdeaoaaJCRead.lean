/- What this text proves: the walk of change.Read over this program: the batch that bytes begin with, and what is left, or the error. -/
import Derived.Test.YthkgbgkijdeaoaaBVocab
import Derived.Test.YthkgbgkijdeaoaaJK1
import Derived.Test.YthkgbgkijdeaoaaClone
namespace Go.Proofs.Ythkgbgkijdeaoaa
open Go.RowKit

theorem i_bind : (Try.prog.info? 92).map (fun i => (i.zero, i.size, i.bytes)) = some (some (.agg #[.slice none 0 0, .slice none 0 0]), 2, 48) := by kernel_rfl

/-- A row of n bindings under way: those of ps are there. -/
def BR (w : World) (g gR n : Nat) (ps : List (List UInt8 × List UInt8)) : Prop :=
  ∃ cs : Array Value, w.heap[gR]? = some (.cells cs 92 (0, 0)) ∧ cs.size = n * 2 ∧ ∀ (j : Nat) x, ps[j]? = some x → ∃ p1 c1 p2 c2, cs[j * 2]? = some (.slice p1 x.1.length c1) ∧ cs[j * 2 + 1]? = some (.slice p2 x.2.length c2) ∧ HBN w g (.slice p1 x.1.length c1) x.1 ∧ HBN w g (.slice p2 x.2.length c2) x.2

theorem BR.tk {T : TypeId} {w w' : World} {g gR n : Nat} {ps : List (List UInt8 × List UInt8)} (h : BR w g gR n ps) (t : TK T w w') (hT : 5 ≠ T) (hB : 92 ≠ T) : BR w' g gR n ps := by
  obtain ⟨cs, h1, h2, h3⟩ := h
  refine ⟨cs, t _ _ _ _ h1 hB, h2, fun j x hx => ?_⟩
  obtain ⟨p1, c1, p2, c2, q1, q2, q3, q4⟩ := h3 j x hx
  exact ⟨p1, c1, p2, c2, q1, q2, q3.tk t hT, q4.tk t hT⟩

theorem BR.ba {w : World} {g gR n : Nat} {ps : List (List UInt8 × List UInt8)} (h : BR w g gR n ps) (hn : ps.length = n) (hm : n ≤ 100) : BA w (.slice (some ⟨gR, 0, none⟩) n n) ps := by
  obtain ⟨cs, h1, h2, h3⟩ := h
  subst hn
  refine ⟨_, ps.length, rfl, Nat.le_refl _, by unfold maxLen; omega, fun _ => ⟨gR, 0, rfl, fun k x hx => ?_⟩⟩
  obtain ⟨p1, c1, p2, c2, q1, q2, q3, q4⟩ := h3 k x hx
  exact ⟨p1, c1, p2, c2, by rw [cell_of_row _ _ _ _ _ _ h1, Nat.zero_add]; exact q1, by rw [cell_of_row _ _ _ _ _ _ h1, Nat.zero_add]; exact q2, q3.1, q4.1⟩

/-- A cell of the row is there, and may be written. -/
theorem BR.cell {w : World} {g gR n : Nat} {ps : List (List UInt8 × List UInt8)} (h : BR w g gR n ps) (i : Nat) (hi : i < n * 2) : (∃ z, w.cell? ⟨gR, i, none⟩ = some z) ∧ w.frozen? ⟨gR, i, none⟩ = false ∧ gR < w.heap.size := by
  obtain ⟨cs, h1, h2, h3⟩ := h
  refine ⟨⟨cs[i]'(by omega), ?_⟩, by simp [World.frozen?, h1], (Array.getElem?_eq_some_iff.1 h1).1⟩
  rw [cell_of_row _ _ _ _ _ _ h1]
  simp [show i < cs.size by omega]

/-- An identity is stored. -/
theorem BR.put1 {w : World} {g gR n : Nat} {ps : List (List UInt8 × List UInt8)} (h : BR w g gR n ps) (u : Value) : TK 92 w (w.setCell ⟨gR, ps.length * 2, none⟩ u) ∧ BR (w.setCell ⟨gR, ps.length * 2, none⟩ u) g gR n ps := by
  obtain ⟨cs, h1, h2, h3⟩ := h
  have ho : Only gR w (w.setCell ⟨gR, ps.length * 2, none⟩ u) := (Only.refl gR w).setCell _ u
  have t : TK 92 w (w.setCell ⟨gR, ps.length * 2, none⟩ u) := TK.of_only ho h1
  refine ⟨t, cs.setIfInBounds (ps.length * 2) u, by rw [heap_setCell_same w gR _ _ _ _ h1], by simp [h2], fun j x hx => ?_⟩
  obtain ⟨p1, c1, p2, c2, q1, q2, q3, q4⟩ := h3 j x hx
  have hj := (List.getElem?_eq_some_iff.1 hx).1
  refine ⟨p1, c1, p2, c2, ?_, ?_, q3.tk t (by decide), q4.tk t (by decide)⟩
  · rw [Array.getElem?_setIfInBounds_ne (by omega)]; exact q1
  · rw [Array.getElem?_setIfInBounds_ne (by omega)]; exact q2

/-- The identity's cell stays while another block is written. -/
def BRU (w : World) (gR k : Nat) (u : Value) : Prop := ∃ cs : Array Value, w.heap[gR]? = some (.cells cs 92 (0, 0)) ∧ cs[k]? = some u
theorem BRU.tk {T : TypeId} {w w' : World} {gR k : Nat} {u : Value} (h : BRU w gR k u) (t : TK T w w') (hB : 92 ≠ T) : BRU w' gR k u := by
  obtain ⟨cs, h1, h2⟩ := h
  exact ⟨cs, t _ _ _ _ h1 hB, h2⟩
theorem BR.bru {w : World} {g gR n : Nat} {ps : List (List UInt8 × List UInt8)} (h : BR w g gR n ps) (u : Value) (hk : ps.length < n) : BRU (w.setCell ⟨gR, ps.length * 2, none⟩ u) gR (ps.length * 2) u := by
  obtain ⟨cs, h1, h2, h3⟩ := h
  refine ⟨cs.setIfInBounds (ps.length * 2) u, by rw [heap_setCell_same w gR _ _ _ _ h1], ?_⟩
  rw [Array.getElem?_setIfInBounds_self_of_lt (by omega)]

/-- A key is stored behind its identity. -/
theorem BR.put2 {w : World} {g gR n p1 c1 p2 c2 : _} {ps : List (List UInt8 × List UInt8)} {a b : List UInt8} (h : BR w g gR n ps) (hu : BRU w gR (ps.length * 2) (.slice p1 a.length c1)) (h1 : HBN w g (.slice p1 a.length c1) a) (h2 : HBN w g (.slice p2 b.length c2) b) (hk : ps.length < n) :
    TK 92 w (w.setCell ⟨gR, ps.length * 2 + 1, none⟩ (.slice p2 b.length c2)) ∧ BR (w.setCell ⟨gR, ps.length * 2 + 1, none⟩ (.slice p2 b.length c2)) g gR n (ps ++ [(a, b)]) := by
  obtain ⟨cs, k1, k2, k3⟩ := h
  obtain ⟨cs', k4, k5⟩ := hu
  rw [k1] at k4
  simp only [Option.some.injEq, Obj.cells.injEq, and_true] at k4
  subst k4
  have ho : Only gR w (w.setCell ⟨gR, ps.length * 2 + 1, none⟩ (.slice p2 b.length c2)) := (Only.refl gR w).setCell _ _
  have t : TK 92 w (w.setCell ⟨gR, ps.length * 2 + 1, none⟩ (.slice p2 b.length c2)) := TK.of_only ho k1
  refine ⟨t, cs.setIfInBounds (ps.length * 2 + 1) (.slice p2 b.length c2), by rw [heap_setCell_same w gR _ _ _ _ k1], by simp [k2], fun j x hx => ?_⟩
  by_cases hj : j < ps.length
  · rw [List.getElem?_append_left hj] at hx
    obtain ⟨p1', c1', p2', c2', q1, q2, q3, q4⟩ := k3 j x hx
    refine ⟨p1', c1', p2', c2', ?_, ?_, q3.tk t (by decide), q4.tk t (by decide)⟩
    · rw [Array.getElem?_setIfInBounds_ne (by omega)]; exact q1
    · rw [Array.getElem?_setIfInBounds_ne (by omega)]; exact q2
  · rw [List.getElem?_append_right (by omega)] at hx
    cases hj2 : j - ps.length with
    | succ i => rw [hj2] at hx; simp at hx
    | zero =>
      rw [hj2] at hx
      simp at hx
      obtain rfl : j = ps.length := by omega
      subst hx
      refine ⟨p1, c1, p2, c2, ?_, ?_, h1.tk t (by decide), h2.tk t (by decide)⟩
      · rw [Array.getElem?_setIfInBounds_ne (by omega)]; exact k5
      · rw [Array.getElem?_setIfInBounds_self_of_lt (by omega)]

/-- Under way: the parameters' block, the reader. -/
def CS (w0 : World) (gp g : Nat) (P8 : Array Value) (l : List UInt8) (e : Int) (w : World) : Prop :=
  w.heap[gp]? = some (.cells P8 73 (0, 0)) ∧ RR w g l e ∧ Below w0.heap.size w0 w ∧ w0.heap.size ≤ g

theorem CS.only {w0 w w' : World} {gp g : Nat} {P8 : Array Value} {l l' : List UInt8} {e e' : Int} (h : CS w0 gp g P8 l e w) (ho : Only g w w') (hr : RR w' g l' e') : CS w0 gp g P8 l' e' w' ∧ TK 106 w w' := by
  obtain ⟨h1, h2, h3, h4⟩ := h
  obtain ⟨cs, f, hg⟩ := h2.typed
  have t := TK.of_only ho hg
  exact ⟨⟨t _ _ _ _ h1 (by decide), hr, h3.trans (ho.below h4), h4⟩, t⟩
theorem CS.put {w0 w : World} {gp g gR i : Nat} {P8 : Array Value} {l : List UInt8} {e : Int} {u : Value} (h : CS w0 gp g P8 l e w) (t : TK 92 w (w.setCell ⟨gR, i, none⟩ u)) (hR : w0.heap.size ≤ gR) : CS w0 gp g P8 l e (w.setCell ⟨gR, i, none⟩ u) := by
  obtain ⟨h1, h2, h3, h4⟩ := h
  exact ⟨t _ _ _ _ h1 (by decide), h2.tk t (by decide) (by decide), h3.trans (((Only.refl gR w).setCell i u).below hR), h4⟩
theorem CS.later {w0 w w' : World} {gp g : Nat} {P8 : Array Value} {l : List UInt8} {e : Int} (h : CS w0 gp g P8 l e w) (hb : Below w.heap.size w w') : CS w0 gp g P8 l e w' := by
  obtain ⟨h1, h2, h3, h4⟩ := h
  exact ⟨(hb.block _ (Array.getElem?_eq_some_iff.1 h1).1).trans h1, h2.later hb, h3.trans (hb.mono h3.size), h4⟩

/-- What Read answers. -/
def RdTold (er : Int) (bs : List (List UInt8 × List UInt8)) (rest : List UInt8) (w : World) (x : Ending) (w' : World) : Prop :=
  ∃ u v, x = .returned (.tuple #[u, v, .int .i64 er]) ∧ BA w' u (if er = 0 then bs else []) ∧ HB w' v (if er = 0 then rest else []) ∧ Below w.heap.size w w'

set_option maxRecDepth 100000 in
set_option maxHeartbeats 8000000 in
theorem cread_core (pa pb mi mk pc pd pe pf : Int) (v : Value) (b : List UInt8) (w : World) (hv : HB w v b) (hsz : b.length ≤ 140737488351232)
    (e1 : Int) (n : Nat) (r1 : List UInt8) (S : Nat → List (List UInt8 × List UInt8)) (Sl Ml : Nat → List UInt8) (Se Me : Nat → Int) (So Sp : Nat → List UInt8)
    (hU1 : ∀ g w, RR w g b 0 → Calls Try.prog 45 #[.pointer (some ⟨g, 0, none⟩), .int .i64 32] w fun x w' => x = .returned (.int .i64 (n : Int)) ∧ RR w' g r1 e1 ∧ Only g w w')
    (hBi : Hid (∀ k g w, RR w g (Sl k) (Se k) → Calls Try.prog 90 #[.pointer (some ⟨g, 0, none⟩), .int .i64 mi] w fun x w' => ∃ v, x = .returned v ∧ ∃ p c, v = .slice p (So k).length c ∧ HBN w' g (.slice p (So k).length c) (So k) ∧ RR w' g (Ml k) (Me k) ∧ Only g w w'))
    (hBk : Hid (∀ k g w, RR w g (Ml k) (Me k) → Calls Try.prog 90 #[.pointer (some ⟨g, 0, none⟩), .int .i64 mk] w fun x w' => ∃ v, x = .returned v ∧ ∃ p c, v = .slice p (Sp k).length c ∧ HBN w' g (.slice p (Sp k).length c) (Sp k) ∧ RR w' g (Sl (k + 1)) (Se (k + 1)) ∧ Only g w w'))
    (hS0 : Hid (S 0 = [] ∧ Sl 0 = r1 ∧ Se 0 = e1)) (hSk : Hid (∀ k, S (k + 1) = S k ++ [(So k, Sp k)])) (hSl : Hid (∀ k, (S k).length = k)) (hn : n ≤ 32)
    (hR : Hid (Se n = 0 → Sl n = b.drop (b.length - (Sl n).length) ∧ (Sl n).length ≤ b.length)) :
    Calls Try.prog 91 #[.agg #[.int .i64 pa, .int .i64 pb, .int .i64 mi, .int .i64 mk, .int .i64 pc, .int .i64 pd, .int .i64 pe, .int .i64 pf], v] w (RdTold (Se n) (S n) (Sl n) w) := by
  obtain ⟨P8, hP8⟩ : ∃ P8 : Array Value, P8 = #[.int .i64 pa, .int .i64 pb, .int .i64 mi, .int .i64 mk, .int .i64 pc, .int .i64 pd, .int .i64 pe, .int .i64 pf] := ⟨_, rfl⟩
  have bA := (Below.refl w.heap.size w).alloc (Nat.le_refl _) (.cells P8 73)
  have gA := heap_alloc_new w (.cells P8 73)
  have hO := open_any v b _ (hv.later bA) (by omega)
  obtain ⟨p, c, rfl⟩ := hv.shape
  obtain ⟨i0, hi, hz0, hz1, hz2⟩ := info_parts i_bind
  obtain ⟨V, hV⟩ : ∃ V, V = w.alloc (.cells P8 73) := ⟨_, rfl⟩
  rw [← hV] at bA gA hO
  rw [hP8] at hV
  go_enter Try.func91, Try.ntmps91
  go_wp2_with fail
  rw [← hV]
  refine hO.mono ?_
  rintro x w2 ⟨g, hg, rfl, x2, hb2⟩
  have c2 : CS w w.heap.size g P8 b 0 w2 := ⟨(hb2.block _ (Array.getElem?_eq_some_iff.1 gA).1).trans gA, x2, bA.trans (hb2.mono bA.size), by have := bA.size; omega⟩
  clear hO hb2 bA gA x2 hV hg
  have hU := hU1 g _ c2.2.1
  clear hU1
  go_wp2_with fail
  refine hU.mono ?_
  rintro x w3 ⟨rfl, r3, o3⟩
  obtain ⟨c3, _⟩ := c2.only o3 r3
  clear hU c2 r3 o3
  go_wp2_with (first | (at_make; refine wpList_make_full _ rfl _ _ 23 rfl w.heap.size 92 i0 _ 2 Try.underlying23 hi hz0 hz1 .i64 .i64 _ _ n rfl rfl ?qa ?qb ?qc ?qd ?qe ?_))
  case qa => rfl
  case qb => rfl
  case qc => rw [hz2]; omega
  case qd => unfold maxLen; omega
  case qe => exact c3.2.2.1.size
  intro w4 hown4 hgrow4
  have hb4 : Below w3.heap.size w3 w4 := (Below.refl _ w3).grown hgrow4 (Nat.le_refl _) (by intro k hk; cases hk)
  have c4 := c3.later hb4
  have hgR : w.heap.size ≤ w3.heap.size := c3.2.2.1.size
  have br4 : BR w4 g w3.heap.size n [] := by
    rcases hown4.2 with ⟨e, _⟩ | ⟨g', cap, cur, e, _, hg', hl, _, hcs, _⟩
    · cases e
    · simp only [Value.slice.injEq, Option.some.injEq, Addr.mk.injEq, and_true, true_and] at e
      obtain ⟨rfl, rfl⟩ := e
      exact ⟨cur, hg', hcs, fun j x hx => by simp at hx⟩
  generalize w3.heap.size = gR at *
  clear hown4 hgrow4 hb4 c3
  go_wp2
  go_loopw [17] (fun i wr => ∃ k : Nat, k ≤ n ∧ i = .int .i64 (k : Int) ∧ CS w w.heap.size g P8 (Sl k) (Se k) wr ∧ BR wr g gR n (S k)) (fun i _ => n - (intOf i).toNat)
  case atStart =>
    obtain ⟨s1, s2, s3⟩ := hS0.out
    exact ⟨0, Nat.zero_le _, rfl, by rw [s2, s3]; exact c4, by rw [s1]; exact br4⟩
  case round =>
    clear c4 br4
    obtain ⟨k, hk, rfl, cr, br⟩ := hrel
    by_cases hlt : k < n
    · have hlt2 : (k : Int) < (n : Int) := by omega
      have hsm := hSl.out k
      have HSk : Hid (S (k + 1) = S k ++ [(So k, Sp k)]) := hSk.out k
      have hB1 := hBi.out k g wr cr.2.1
      have hB2 := fun w h => hBk.out k g w h
      have m2 : wr.cell? ⟨w.heap.size, 2, none⟩ = some (.int .i64 mi) := by rw [cell_of_row _ _ _ _ _ _ cr.1, hP8]; rfl
      clear hBi hBk hS0 hSk hSl hR
      go_wp2_with fail
      refine hB1.mono ?_
      rintro x w5 ⟨v5, rfl, p5, c5, rfl, h5, r5, o5⟩
      obtain ⟨cr5, t5⟩ := cr.only o5 r5
      have br5 := br.tk t5 (by decide) (by decide)
      clear hB1 m2 cr br r5 o5 t5
      obtain ⟨⟨z5, y5⟩, f5, _⟩ := br5.cell (k * 2) (by omega)
      have br6 := br5.put1 (.slice p5 (So k).length c5)
      have bu6 := br5.bru (.slice p5 (So k).length c5) (by omega)
      rw [hsm] at br6 bu6
      obtain ⟨t6, br6⟩ := br6
      have cr6 := cr5.put t6 hgR
      have h6 := h5.tk t6 (by decide)
      have hB3 := hB2 _ cr6.2.1
      have m3 : (w5.setCell ⟨gR, k * 2, none⟩ (.slice p5 (So k).length c5)).cell? ⟨w.heap.size, 3, none⟩ = some (.int .i64 mk) := by rw [cell_of_row _ _ _ _ _ _ cr6.1, hP8]; rfl
      clear hB2 br5 cr5 h5 t6
      go_wp2_with fail
      refine hB3.mono ?_
      rintro x w7 ⟨v7, rfl, p7, c7, rfl, h7, r7, o7⟩
      obtain ⟨cr7, t7⟩ := cr6.only o7 r7
      have br7 := br6.tk t7 (by decide) (by decide)
      have bu7 := bu6.tk t7 (by decide)
      have h67 := h6.tk t7 (by decide)
      clear hB3 m3 cr6 br6 bu6 r7 o7 t7 h6 y5 f5
      obtain ⟨⟨z7, y7⟩, f7, _⟩ := br7.cell (k * 2 + 1) (by omega)
      have br8 := br7.put2 (by rw [hsm]; exact bu7) h67 h7 (by omega)
      rw [hsm, ← HSk.out] at br8
      obtain ⟨t8, br8⟩ := br8
      have cr8 := cr7.put t8 hgR
      clear br7 bu7 cr7 h7 h67 t8
      go_wp2
      go_roundw
      case rel => first | exact ⟨k + 1, by omega, by go_num, cr8, br8⟩ | ((repeat apply Exists.intro); exact ⟨⟨k + 1, by omega, by go_num, cr8, br8⟩, rfl⟩)
      case measure => simp [intOf]; omega
    · obtain rfl : k = n := by omega
      have hsm := hSl.out k
      have hE := rr_err g (Sl k) (Se k) wr cr.2.1
      have hL := rr_left g (Sl k) (Se k) wr cr.2.1
      have hbw := cr.2.2.1
      have hvr := hv.later hbw
      have hBA := br.ba hsm (by omega)
      have hnk : ¬ (k : Int) < (k : Int) := by omega
      clear hBi hBk hS0 hSk hSl
      generalize hEN : Se k = EN at *
      clear hEN
      by_cases he : EN = 0
      · subst he
        obtain ⟨hr1, hr2⟩ := hR.out rfl
        have hcu := hvr.len
        have hcut := hvr.behind (b.length - (Sl k).length) (by omega)
        rw [← hr1] at hcut
        have kc : ∀ w', (Instr.slice 22 (.slice p b.length c) (some (.int .i64 ((b.length : Int) - ((Sl k).length : Int)))) none none).run Try.prog w' = .ok (.slice (cutP p c (b.length - (Sl k).length)) (b.length - (b.length - (Sl k).length)) (c - (b.length - (Sl k).length))) w' := fun w' => run_cut (P := Try.prog) Try.underlying22 s_u8 p b.length c (b.length - (Sl k).length) ((b.length : Int) - ((Sl k).length : Int)) (by omega) (by omega) w'
        have hC := clone_any _ (Sl k) wr hcut (by omega)
        have hrb : ((Sl k).length : Int) ≤ (b.length : Int) := by omega
        have hl1 : b.length - (b.length - (Sl k).length) = (Sl k).length := by omega
        rw [hl1] at hC kc
        generalize cutP p c (b.length - (Sl k).length) = pr at *
        generalize c - (b.length - (Sl k).length) = qr at *
        clear hr1 hR hcut hcu hl1
        go_wp2_with (first | (go_at_call 46; refine hE.mono ?_; rintro e w9 ⟨rfl, hw⟩; have hw2 := hw.symm; clear hw; subst hw2) | (go_at_call 56; refine hL.mono ?_; rintro e w9 ⟨rfl, hw⟩; have hw2 := hw.symm; clear hw; subst hw2) | fail)
        refine hC.mono ?_
        rintro x w10 ⟨p10, c10, rfl, hh10, hb10⟩
        have hBA2 := hBA.later hb10
        have hbF := hbw.trans (hb10.mono hbw.size)
        clear hC hE hL kc hBA hsm
        go_wp2
        go_ret3
        refine ⟨_, _, rfl, ?_, ?_, hbF⟩
        · rw [if_pos rfl]; exact hBA2
        · rw [if_pos rfl]; exact hh10
      · have hne : (EN != 0) = true := by simpa using he
        clear hR hsm hBA hL
        go_wp2_with (first | (go_at_call 46; refine hE.mono ?_; rintro e w9 ⟨rfl, hw⟩; have hw2 := hw.symm; clear hw; subst hw2))
        go_ret3
        refine ⟨_, _, rfl, ?_, ?_, hbw⟩
        · rw [if_neg he]; exact ⟨none, 0, rfl, Nat.le_refl _, Nat.zero_le _, fun h => absurd rfl h⟩
        · rw [if_neg he]; exact HB.nil _

theorem cread_any (pa pb mi mk pc pd pe pf : Int) (v : Value) (b : List UInt8) (w : World) (hv : HB w v b) (hsz : b.length ≤ 140737488351232) :
    Calls Try.prog 91 #[.agg #[.int .i64 pa, .int .i64 pb, .int .i64 mi, .int .i64 mk, .int .i64 pc, .int .i64 pd, .int .i64 pe, .int .i64 pf], v] w (RdTold (crS mi mk b).2.2 (crS mi mk b).1 (crS mi mk b).2.1 w) := by
  have l1 : (crU b).2.2.length ≤ b.length := rdU_le b 0 32
  have m1 : ((crU b).2.1 : Int) ≤ 32 := rdU_most b 0 32 (by omega)
  have ls := fun k => bdS_le mi mk (crU b).2.2 (crU b).1 k
  exact cread_core pa pb mi mk pc pd pe pf v b w hv hsz (crU b).1 (crU b).2.1 (crU b).2.2
    (fun k => (bdS mi mk (crU b).2.2 (crU b).1 k).1) (fun k => (bdS mi mk (crU b).2.2 (crU b).1 k).2.1) (fun k => (rdB (bdS mi mk (crU b).2.2 (crU b).1 k).2.1 (bdS mi mk (crU b).2.2 (crU b).1 k).2.2 mi).2.2)
    (fun k => (bdS mi mk (crU b).2.2 (crU b).1 k).2.2) (fun k => (rdB (bdS mi mk (crU b).2.2 (crU b).1 k).2.1 (bdS mi mk (crU b).2.2 (crU b).1 k).2.2 mi).1)
    (fun k => (rdB (bdS mi mk (crU b).2.2 (crU b).1 k).2.1 (bdS mi mk (crU b).2.2 (crU b).1 k).2.2 mi).2.1)
    (fun k => (rdB (rdB (bdS mi mk (crU b).2.2 (crU b).1 k).2.1 (bdS mi mk (crU b).2.2 (crU b).1 k).2.2 mi).2.2 (rdB (bdS mi mk (crU b).2.2 (crU b).1 k).2.1 (bdS mi mk (crU b).2.2 (crU b).1 k).2.2 mi).1 mk).2.1)
    (fun g w h => ruint_all g b 0 32 w h)
    (fun k g w h => rbytes_all g _ _ _ w h (by have := ls k; omega))
    (fun k g w h => rbytes_all g _ _ _ w h (by have := ls k; have := rdB_le (bdS mi mk (crU b).2.2 (crU b).1 k).2.1 (bdS mi mk (crU b).2.2 (crU b).1 k).2.2 mi; omega))
    ⟨rfl, rfl, rfl⟩ (fun _ => rfl) (fun k => bdS_len mi mk _ _ k) (by omega) (fun h => cr_rest mi mk b h)

end Go.Proofs.Ythkgbgkijdeaoaa
