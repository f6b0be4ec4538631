/- What this text proves: the walk of change.Read over this program: the batch that bytes begin with, and what is left, or the error. What this text proves: the walk of bytes.HasPrefix over this program. What this text proves: the walks of bytes.CutPrefix and of ledger's Read over this program: they answer, and write nothing that was there. (By program: mklgread.py.) What this text proves: the walk of ledger's Entries over this program: how many they are. -/
import Derived.Test.YtcgpgnajmfemhaaGreatDoorJQ12
import Derived.Test.YtcgpgnajmfemhaaGreatDoorJC2
import Derived.Test.YtcgpgnajmfemhaaGreatDoorJQ4
import Derived.Test.YtcgpgnajmfemhaaGreatDoorJOw
import Derived.Test.YtcgpgnajmfemhaaGreatDoorJG1
import Derived.Test.YtcgpgnajmfemhaaGreatDoorJR1
import Derived.Test.YtcgpgnajmfemhaaGreatDoorJQ1
import Derived.Lib.SlBytesConst
import Derived.Test.YtcgpgnajmfemhaaGreatDoorJL2
namespace Go.Proofs.YtcgpgnajmfemhaaGreatDoor
open Go.RowKit

theorem i_bind : (Tryz.prog.info? 90).map (fun i => (i.zero, i.size, i.bytes)) = some (some (.agg #[.slice none 0 0, .slice none 0 0]), 2, 48) := by kernel_rfl

/-- A row of n bindings under way: those of ps are there. -/
def BR (w : World) (g gR n : Nat) (ps : List (List UInt8 × List UInt8)) : Prop :=
  ∃ cs : Array Value, w.heap[gR]? = some (.cells cs 90 (0, 0)) ∧ cs.size = n * 2 ∧ ∀ (j : Nat) x, ps[j]? = some x → ∃ p1 c1 p2 c2, cs[j * 2]? = some (.slice p1 x.1.length c1) ∧ cs[j * 2 + 1]? = some (.slice p2 x.2.length c2) ∧ HBN w g (.slice p1 x.1.length c1) x.1 ∧ HBN w g (.slice p2 x.2.length c2) x.2

theorem BR.tk {T : TypeId} {w w' : World} {g gR n : Nat} {ps : List (List UInt8 × List UInt8)} (h : BR w g gR n ps) (t : TK T w w') (hT : 5 ≠ T) (hB : 90 ≠ T) : BR w' g gR n ps := by
  obtain ⟨cs, h1, h2, h3⟩ := h
  refine ⟨cs, t _ _ _ _ h1 hB, h2, fun j x hx => ?_⟩
  obtain ⟨p1, c1, p2, c2, q1, q2, q3, q4⟩ := h3 j x hx
  exact ⟨p1, c1, p2, c2, q1, q2, q3.tk t hT, q4.tk t hT⟩

theorem BR.ba {w : World} {g gR n : Nat} {ps : List (List UInt8 × List UInt8)} (h : BR w g gR n ps) (hn : ps.length = n) (hm : n ≤ 100) : BA w (.slice (some ⟨gR, 0, none⟩) n n) ps := by
  obtain ⟨cs, h1, h2, h3⟩ := h
  subst hn
  refine ⟨_, ps.length, rfl, Nat.le_refl _, by unfold maxLen; omega, fun _ => ⟨gR, 0, rfl, fun k x hx => ?_⟩⟩
  obtain ⟨p1, c1, p2, c2, q1, q2, q3, q4⟩ := h3 k x hx
  exact ⟨p1, c1, p2, c2, by rw [cell_of_row _ _ _ _ _ _ h1, Nat.zero_add]; exact q1, by rw [cell_of_row _ _ _ _ _ _ h1, Nat.zero_add]; exact q2, q3.1, q4.1⟩

/-- A cell of the row is there, and may be written. -/
theorem BR.cell {w : World} {g gR n : Nat} {ps : List (List UInt8 × List UInt8)} (h : BR w g gR n ps) (i : Nat) (hi : i < n * 2) : (∃ z, w.cell? ⟨gR, i, none⟩ = some z) ∧ w.frozen? ⟨gR, i, none⟩ = false ∧ gR < w.heap.size := by
  obtain ⟨cs, h1, h2, h3⟩ := h
  refine ⟨⟨cs[i]'(by omega), ?_⟩, by simp [World.frozen?, h1], (Array.getElem?_eq_some_iff.1 h1).1⟩
  rw [cell_of_row _ _ _ _ _ _ h1]
  simp [show i < cs.size by omega]

/-- An identity is stored. -/
theorem BR.put1 {w : World} {g gR n : Nat} {ps : List (List UInt8 × List UInt8)} (h : BR w g gR n ps) (u : Value) : TK 90 w (w.setCell ⟨gR, ps.length * 2, none⟩ u) ∧ BR (w.setCell ⟨gR, ps.length * 2, none⟩ u) g gR n ps := by
  obtain ⟨cs, h1, h2, h3⟩ := h
  have ho : Only gR w (w.setCell ⟨gR, ps.length * 2, none⟩ u) := (Only.refl gR w).setCell _ u
  have t : TK 90 w (w.setCell ⟨gR, ps.length * 2, none⟩ u) := TK.of_only ho h1
  refine ⟨t, cs.setIfInBounds (ps.length * 2) u, by rw [heap_setCell_same w gR _ _ _ _ h1], by simp [h2], fun j x hx => ?_⟩
  obtain ⟨p1, c1, p2, c2, q1, q2, q3, q4⟩ := h3 j x hx
  have hj := (List.getElem?_eq_some_iff.1 hx).1
  refine ⟨p1, c1, p2, c2, ?_, ?_, q3.tk t (by decide), q4.tk t (by decide)⟩
  · rw [Array.getElem?_setIfInBounds_ne (by omega)]; exact q1
  · rw [Array.getElem?_setIfInBounds_ne (by omega)]; exact q2

/-- The identity's cell stays while another block is written. -/
def BRU (w : World) (gR k : Nat) (u : Value) : Prop := ∃ cs : Array Value, w.heap[gR]? = some (.cells cs 90 (0, 0)) ∧ cs[k]? = some u
theorem BRU.tk {T : TypeId} {w w' : World} {gR k : Nat} {u : Value} (h : BRU w gR k u) (t : TK T w w') (hB : 90 ≠ T) : BRU w' gR k u := by
  obtain ⟨cs, h1, h2⟩ := h
  exact ⟨cs, t _ _ _ _ h1 hB, h2⟩
theorem BR.bru {w : World} {g gR n : Nat} {ps : List (List UInt8 × List UInt8)} (h : BR w g gR n ps) (u : Value) (hk : ps.length < n) : BRU (w.setCell ⟨gR, ps.length * 2, none⟩ u) gR (ps.length * 2) u := by
  obtain ⟨cs, h1, h2, h3⟩ := h
  refine ⟨cs.setIfInBounds (ps.length * 2) u, by rw [heap_setCell_same w gR _ _ _ _ h1], ?_⟩
  rw [Array.getElem?_setIfInBounds_self_of_lt (by omega)]

/-- A key is stored behind its identity. -/
theorem BR.put2 {w : World} {g gR n p1 c1 p2 c2 : _} {ps : List (List UInt8 × List UInt8)} {a b : List UInt8} (h : BR w g gR n ps) (hu : BRU w gR (ps.length * 2) (.slice p1 a.length c1)) (h1 : HBN w g (.slice p1 a.length c1) a) (h2 : HBN w g (.slice p2 b.length c2) b) (hk : ps.length < n) :
    TK 90 w (w.setCell ⟨gR, ps.length * 2 + 1, none⟩ (.slice p2 b.length c2)) ∧ BR (w.setCell ⟨gR, ps.length * 2 + 1, none⟩ (.slice p2 b.length c2)) g gR n (ps ++ [(a, b)]) := by
  obtain ⟨cs, k1, k2, k3⟩ := h
  obtain ⟨cs', k4, k5⟩ := hu
  rw [k1] at k4
  simp only [Option.some.injEq, Obj.cells.injEq, and_true] at k4
  subst k4
  have ho : Only gR w (w.setCell ⟨gR, ps.length * 2 + 1, none⟩ (.slice p2 b.length c2)) := (Only.refl gR w).setCell _ _
  have t : TK 90 w (w.setCell ⟨gR, ps.length * 2 + 1, none⟩ (.slice p2 b.length c2)) := TK.of_only ho k1
  refine ⟨t, cs.setIfInBounds (ps.length * 2 + 1) (.slice p2 b.length c2), by rw [heap_setCell_same w gR _ _ _ _ k1], by simp [k2], fun j x hx => ?_⟩
  by_cases hj : j < ps.length
  · rw [List.getElem?_append_left hj] at hx
    obtain ⟨p1', c1', p2', c2', q1, q2, q3, q4⟩ := k3 j x hx
    refine ⟨p1', c1', p2', c2', ?_, ?_, q3.tk t (by decide), q4.tk t (by decide)⟩
    · rw [Array.getElem?_setIfInBounds_ne (by omega)]; exact q1
    · rw [Array.getElem?_setIfInBounds_ne (by omega)]; exact q2
  · rw [List.getElem?_append_right (by omega)] at hx
    cases hj2 : j - ps.length with
    | succ i => rw [hj2] at hx; simp at hx
    | zero =>
      rw [hj2] at hx
      simp at hx
      obtain rfl : j = ps.length := by omega
      subst hx
      refine ⟨p1, c1, p2, c2, ?_, ?_, h1.tk t (by decide), h2.tk t (by decide)⟩
      · rw [Array.getElem?_setIfInBounds_ne (by omega)]; exact k5
      · rw [Array.getElem?_setIfInBounds_self_of_lt (by omega)]

/-- Under way: the parameters' block, the reader. -/
def CS (w0 : World) (gp g : Nat) (P8 : Array Value) (l : List UInt8) (e : Int) (w : World) : Prop :=
  w.heap[gp]? = some (.cells P8 25 (0, 0)) ∧ RR w g l e ∧ Below w0.heap.size w0 w ∧ w0.heap.size ≤ g

theorem CS.only {w0 w w' : World} {gp g : Nat} {P8 : Array Value} {l l' : List UInt8} {e e' : Int} (h : CS w0 gp g P8 l e w) (ho : Only g w w') (hr : RR w' g l' e') : CS w0 gp g P8 l' e' w' ∧ TK 221 w w' := by
  obtain ⟨h1, h2, h3, h4⟩ := h
  obtain ⟨cs, f, hg⟩ := h2.typed
  have t := TK.of_only ho hg
  exact ⟨⟨t _ _ _ _ h1 (by decide), hr, h3.trans (ho.below h4), h4⟩, t⟩
theorem CS.put {w0 w : World} {gp g gR i : Nat} {P8 : Array Value} {l : List UInt8} {e : Int} {u : Value} (h : CS w0 gp g P8 l e w) (t : TK 90 w (w.setCell ⟨gR, i, none⟩ u)) (hR : w0.heap.size ≤ gR) : CS w0 gp g P8 l e (w.setCell ⟨gR, i, none⟩ u) := by
  obtain ⟨h1, h2, h3, h4⟩ := h
  exact ⟨t _ _ _ _ h1 (by decide), h2.tk t (by decide) (by decide), h3.trans (((Only.refl gR w).setCell i u).below hR), h4⟩
theorem CS.later {w0 w w' : World} {gp g : Nat} {P8 : Array Value} {l : List UInt8} {e : Int} (h : CS w0 gp g P8 l e w) (hb : Below w.heap.size w w') : CS w0 gp g P8 l e w' := by
  obtain ⟨h1, h2, h3, h4⟩ := h
  exact ⟨(hb.block _ (Array.getElem?_eq_some_iff.1 h1).1).trans h1, h2.later hb, h3.trans (hb.mono h3.size), h4⟩

/-- What Read answers. -/
def RdTold (er : Int) (bs : List (List UInt8 × List UInt8)) (rest : List UInt8) (w : World) (x : Ending) (w' : World) : Prop :=
  ∃ u v, x = .returned (.tuple #[u, v, .int .i64 er]) ∧ BA w' u (if er = 0 then bs else []) ∧ HB w' v (if er = 0 then rest else []) ∧ Below w.heap.size w w'

set_option maxRecDepth 100000 in
set_option maxHeartbeats 8000000 in
theorem cread_core (pa pb mi mk pc pd pe pf : Int) (v : Value) (b : List UInt8) (w : World) (hv : HB w v b) (hsz : b.length ≤ 140737488351232)
    (e1 : Int) (n : Nat) (r1 : List UInt8) (S : Nat → List (List UInt8 × List UInt8)) (Sl Ml : Nat → List UInt8) (Se Me : Nat → Int) (So Sp : Nat → List UInt8)
    (hU1 : ∀ g w, RR w g b 0 → Calls Tryz.prog 122 #[.pointer (some ⟨g, 0, none⟩), .int .i64 32] w fun x w' => x = .returned (.int .i64 (n : Int)) ∧ RR w' g r1 e1 ∧ Only g w w')
    (hBi : Hid (∀ k g w, RR w g (Sl k) (Se k) → Calls Tryz.prog 165 #[.pointer (some ⟨g, 0, none⟩), .int .i64 mi] w fun x w' => ∃ v, x = .returned v ∧ ∃ p c, v = .slice p (So k).length c ∧ HBN w' g (.slice p (So k).length c) (So k) ∧ RR w' g (Ml k) (Me k) ∧ Only g w w'))
    (hBk : Hid (∀ k g w, RR w g (Ml k) (Me k) → Calls Tryz.prog 165 #[.pointer (some ⟨g, 0, none⟩), .int .i64 mk] w fun x w' => ∃ v, x = .returned v ∧ ∃ p c, v = .slice p (Sp k).length c ∧ HBN w' g (.slice p (Sp k).length c) (Sp k) ∧ RR w' g (Sl (k + 1)) (Se (k + 1)) ∧ Only g w w'))
    (hS0 : Hid (S 0 = [] ∧ Sl 0 = r1 ∧ Se 0 = e1)) (hSk : Hid (∀ k, S (k + 1) = S k ++ [(So k, Sp k)])) (hSl : Hid (∀ k, (S k).length = k)) (hn : n ≤ 32)
    (hR : Hid (Se n = 0 → Sl n = b.drop (b.length - (Sl n).length) ∧ (Sl n).length ≤ b.length)) :
    Calls Tryz.prog 124 #[.agg #[.int .i64 pa, .int .i64 pb, .int .i64 mi, .int .i64 mk, .int .i64 pc, .int .i64 pd, .int .i64 pe, .int .i64 pf], v] w (RdTold (Se n) (S n) (Sl n) w) := by
  obtain ⟨P8, hP8⟩ : ∃ P8 : Array Value, P8 = #[.int .i64 pa, .int .i64 pb, .int .i64 mi, .int .i64 mk, .int .i64 pc, .int .i64 pd, .int .i64 pe, .int .i64 pf] := ⟨_, rfl⟩
  have bA := (Below.refl w.heap.size w).alloc (Nat.le_refl _) (.cells P8 25)
  have gA := heap_alloc_new w (.cells P8 25)
  have hO := open_any v b _ (hv.later bA) (by omega)
  obtain ⟨p, c, rfl⟩ := hv.shape
  obtain ⟨i0, hi, hz0, hz1, hz2⟩ := info_parts i_bind
  obtain ⟨V, hV⟩ : ∃ V, V = w.alloc (.cells P8 25) := ⟨_, rfl⟩
  rw [← hV] at bA gA hO
  rw [hP8] at hV
  go_enter Tryz.func124, Tryz.ntmps124
  go_wp2_with fail
  rw [← hV]
  refine hO.mono ?_
  rintro x w2 ⟨g, hg, rfl, x2, hb2⟩
  have c2 : CS w w.heap.size g P8 b 0 w2 := ⟨(hb2.block _ (Array.getElem?_eq_some_iff.1 gA).1).trans gA, x2, bA.trans (hb2.mono bA.size), by have := bA.size; omega⟩
  clear hO hb2 bA gA x2 hV hg
  have hU := hU1 g _ c2.2.1
  clear hU1
  go_wp2_with fail
  refine hU.mono ?_
  rintro x w3 ⟨rfl, r3, o3⟩
  obtain ⟨c3, _⟩ := c2.only o3 r3
  clear hU c2 r3 o3
  go_wp2_with (first | (at_make; refine wpList_make_full _ rfl _ _ 22 rfl w.heap.size 90 i0 _ 2 Tryz.underlying22 hi hz0 hz1 .i64 .i64 _ _ n rfl rfl ?qa ?qb ?qc ?qd ?qe ?_))
  case qa => rfl
  case qb => rfl
  case qc => rw [hz2]; omega
  case qd => unfold maxLen; omega
  case qe => exact c3.2.2.1.size
  intro w4 hown4 hgrow4
  have hb4 : Below w3.heap.size w3 w4 := (Below.refl _ w3).grown hgrow4 (Nat.le_refl _) (by intro k hk; cases hk)
  have c4 := c3.later hb4
  have hgR : w.heap.size ≤ w3.heap.size := c3.2.2.1.size
  have br4 : BR w4 g w3.heap.size n [] := by
    rcases hown4.2 with ⟨e, _⟩ | ⟨g', cap, cur, e, _, hg', hl, _, hcs, _⟩
    · cases e
    · simp only [Value.slice.injEq, Option.some.injEq, Addr.mk.injEq, and_true, true_and] at e
      obtain ⟨rfl, rfl⟩ := e
      exact ⟨cur, hg', hcs, fun j x hx => by simp at hx⟩
  generalize w3.heap.size = gR at *
  clear hown4 hgrow4 hb4 c3
  go_wp2
  go_loopw [17] (fun i wr => ∃ k : Nat, k ≤ n ∧ i = .int .i64 (k : Int) ∧ CS w w.heap.size g P8 (Sl k) (Se k) wr ∧ BR wr g gR n (S k)) (fun i _ => n - (Go.RowKit.intOf i).toNat)
  case atStart =>
    obtain ⟨s1, s2, s3⟩ := hS0.out
    exact ⟨0, Nat.zero_le _, rfl, by rw [s2, s3]; exact c4, by rw [s1]; exact br4⟩
  case round =>
    clear c4 br4
    obtain ⟨k, hk, rfl, cr, br⟩ := hrel
    by_cases hlt : k < n
    · have hlt2 : (k : Int) < (n : Int) := by omega
      have hsm := hSl.out k
      have HSk : Hid (S (k + 1) = S k ++ [(So k, Sp k)]) := hSk.out k
      have hB1 := hBi.out k g wr cr.2.1
      have hB2 := fun w h => hBk.out k g w h
      have m2 : wr.cell? ⟨w.heap.size, 2, none⟩ = some (.int .i64 mi) := by rw [cell_of_row _ _ _ _ _ _ cr.1, hP8]; rfl
      clear hBi hBk hS0 hSk hSl hR
      go_wp2_with fail
      refine hB1.mono ?_
      rintro x w5 ⟨v5, rfl, p5, c5, rfl, h5, r5, o5⟩
      obtain ⟨cr5, t5⟩ := cr.only o5 r5
      have br5 := br.tk t5 (by decide) (by decide)
      clear hB1 m2 cr br r5 o5 t5
      obtain ⟨⟨z5, y5⟩, f5, _⟩ := br5.cell (k * 2) (by omega)
      have br6 := br5.put1 (.slice p5 (So k).length c5)
      have bu6 := br5.bru (.slice p5 (So k).length c5) (by omega)
      rw [hsm] at br6 bu6
      obtain ⟨t6, br6⟩ := br6
      have cr6 := cr5.put t6 hgR
      have h6 := h5.tk t6 (by decide)
      have hB3 := hB2 _ cr6.2.1
      have m3 : (w5.setCell ⟨gR, k * 2, none⟩ (.slice p5 (So k).length c5)).cell? ⟨w.heap.size, 3, none⟩ = some (.int .i64 mk) := by rw [cell_of_row _ _ _ _ _ _ cr6.1, hP8]; rfl
      clear hB2 br5 cr5 h5 t6
      go_wp2_with fail
      refine hB3.mono ?_
      rintro x w7 ⟨v7, rfl, p7, c7, rfl, h7, r7, o7⟩
      obtain ⟨cr7, t7⟩ := cr6.only o7 r7
      have br7 := br6.tk t7 (by decide) (by decide)
      have bu7 := bu6.tk t7 (by decide)
      have h67 := h6.tk t7 (by decide)
      clear hB3 m3 cr6 br6 bu6 r7 o7 t7 h6 y5 f5
      obtain ⟨⟨z7, y7⟩, f7, _⟩ := br7.cell (k * 2 + 1) (by omega)
      have br8 := br7.put2 (by rw [hsm]; exact bu7) h67 h7 (by omega)
      rw [hsm, ← HSk.out] at br8
      obtain ⟨t8, br8⟩ := br8
      have cr8 := cr7.put t8 hgR
      clear br7 bu7 cr7 h7 h67 t8
      go_wp2
      go_roundw
      case rel => first | exact ⟨k + 1, by omega, by go_num, cr8, br8⟩ | ((repeat apply Exists.intro); exact ⟨⟨k + 1, by omega, by go_num, cr8, br8⟩, rfl⟩)
      case measure => simp [Go.RowKit.intOf]; omega
    · obtain rfl : k = n := by omega
      have hsm := hSl.out k
      have hE := rr_err g (Sl k) (Se k) wr cr.2.1
      have hL := rr_left g (Sl k) (Se k) wr cr.2.1
      have hbw := cr.2.2.1
      have hvr := hv.later hbw
      have hBA := br.ba hsm (by omega)
      have hnk : ¬ (k : Int) < (k : Int) := by omega
      clear hBi hBk hS0 hSk hSl
      generalize hEN : Se k = EN at *
      clear hEN
      by_cases he : EN = 0
      · subst he
        obtain ⟨hr1, hr2⟩ := hR.out rfl
        have hcu := hvr.len
        have hcut := hvr.behind (b.length - (Sl k).length) (by omega)
        rw [← hr1] at hcut
        have kc : ∀ w', (Instr.slice 37 (.slice p b.length c) (some (.int .i64 ((b.length : Int) - ((Sl k).length : Int)))) none none).run Tryz.prog w' = .ok (.slice (cutP p c (b.length - (Sl k).length)) (b.length - (b.length - (Sl k).length)) (c - (b.length - (Sl k).length))) w' := fun w' => run_cut (P := Tryz.prog) Tryz.underlying37 s_u8 p b.length c (b.length - (Sl k).length) ((b.length : Int) - ((Sl k).length : Int)) (by omega) (by omega) w'
        have hC := clone_any _ (Sl k) wr hcut (by omega)
        have hrb : ((Sl k).length : Int) ≤ (b.length : Int) := by omega
        have hl1 : b.length - (b.length - (Sl k).length) = (Sl k).length := by omega
        rw [hl1] at hC kc
        generalize cutP p c (b.length - (Sl k).length) = pr at *
        generalize c - (b.length - (Sl k).length) = qr at *
        clear hr1 hR hcut hcu hl1
        go_wp2_with (first | (go_at_call 123; refine hE.mono ?_; rintro e w9 ⟨rfl, hw⟩; have hw2 := hw.symm; clear hw; subst hw2) | (go_at_call 125; refine hL.mono ?_; rintro e w9 ⟨rfl, hw⟩; have hw2 := hw.symm; clear hw; subst hw2) | fail)
        refine hC.mono ?_
        rintro x w10 ⟨p10, c10, rfl, hh10, hb10⟩
        have hBA2 := hBA.later hb10
        have hbF := hbw.trans (hb10.mono hbw.size)
        clear hC hE hL kc hBA hsm
        go_wp2
        go_ret3
        refine ⟨_, _, rfl, ?_, ?_, hbF⟩
        · rw [if_pos rfl]; exact hBA2
        · rw [if_pos rfl]; exact hh10
      · have hne : (EN != 0) = true := by simpa using he
        clear hR hsm hBA hL
        go_wp2_with (first | (go_at_call 123; refine hE.mono ?_; rintro e w9 ⟨rfl, hw⟩; have hw2 := hw.symm; clear hw; subst hw2))
        go_ret3
        refine ⟨_, _, rfl, ?_, ?_, hbw⟩
        · rw [if_neg he]; exact ⟨none, 0, rfl, Nat.le_refl _, Nat.zero_le _, fun h => absurd rfl h⟩
        · rw [if_neg he]; exact HB.nil _

theorem cread_any (pa pb mi mk pc pd pe pf : Int) (v : Value) (b : List UInt8) (w : World) (hv : HB w v b) (hsz : b.length ≤ 140737488351232) :
    Calls Tryz.prog 124 #[.agg #[.int .i64 pa, .int .i64 pb, .int .i64 mi, .int .i64 mk, .int .i64 pc, .int .i64 pd, .int .i64 pe, .int .i64 pf], v] w (RdTold (crS mi mk b).2.2 (crS mi mk b).1 (crS mi mk b).2.1 w) := by
  have l1 : (crU b).2.2.length ≤ b.length := rdU_le b 0 32
  have m1 : ((crU b).2.1 : Int) ≤ 32 := rdU_most b 0 32 (by omega)
  have ls := fun k => bdS_le mi mk (crU b).2.2 (crU b).1 k
  exact cread_core pa pb mi mk pc pd pe pf v b w hv hsz (crU b).1 (crU b).2.1 (crU b).2.2
    (fun k => (bdS mi mk (crU b).2.2 (crU b).1 k).1) (fun k => (bdS mi mk (crU b).2.2 (crU b).1 k).2.1) (fun k => (rdB (bdS mi mk (crU b).2.2 (crU b).1 k).2.1 (bdS mi mk (crU b).2.2 (crU b).1 k).2.2 mi).2.2)
    (fun k => (bdS mi mk (crU b).2.2 (crU b).1 k).2.2) (fun k => (rdB (bdS mi mk (crU b).2.2 (crU b).1 k).2.1 (bdS mi mk (crU b).2.2 (crU b).1 k).2.2 mi).1)
    (fun k => (rdB (bdS mi mk (crU b).2.2 (crU b).1 k).2.1 (bdS mi mk (crU b).2.2 (crU b).1 k).2.2 mi).2.1)
    (fun k => (rdB (rdB (bdS mi mk (crU b).2.2 (crU b).1 k).2.1 (bdS mi mk (crU b).2.2 (crU b).1 k).2.2 mi).2.2 (rdB (bdS mi mk (crU b).2.2 (crU b).1 k).2.1 (bdS mi mk (crU b).2.2 (crU b).1 k).2.2 mi).1 mk).2.1)
    (fun g w h => ruint_all g b 0 32 w h)
    (fun k g w h => rbytes_all g _ _ _ w h (by have := ls k; omega))
    (fun k g w h => rbytes_all g _ _ _ w h (by have := ls k; have := rdB_le (bdS mi mk (crU b).2.2 (crU b).1 k).2.1 (bdS mi mk (crU b).2.2 (crU b).1 k).2.2 mi; omega))
    ⟨rfl, rfl, rfl⟩ (fun _ => rfl) (fun k => bdS_len mi mk _ _ k) (by omega) (fun h => cr_rest mi mk b h)

end Go.Proofs.YtcgpgnajmfemhaaGreatDoor

namespace Go.Proofs.YtcgpgnajmfemhaaGreatDoor
open Go.RowKit

set_option maxRecDepth 100000 in
set_option maxHeartbeats 400000 in
theorem prefix_any (a b : Value) (l m : List UInt8) (w : World) (ha : HB w a l) (hb : HB w b m) :
    Calls Tryz.prog 162 #[a, b] w fun e w' => e = .returned (.bool (decide (m.length ≤ l.length) && (l.take m.length == m))) ∧ w' = w := by
  obtain ⟨p, c, rfl⟩ := ha.shape
  obtain ⟨q, d, rfl⟩ := hb.shape
  have hl := ha.len.2
  have hm := hb.len.2
  unfold maxLen at hl hm
  by_cases hle : m.length ≤ l.length
  · have k1 := fun w => run_upto (P := Tryz.prog) Tryz.underlying37 s_u8 p l.length c m.length (m.length : Int) rfl (by omega) w
    have hf := ha.front m.length hle
    have hd : decide ((m.length : Int) ≤ (l.length : Int)) = true := by simp; omega
    have HD : Hid (decide (m.length ≤ l.length) = true) := by show decide (m.length ≤ l.length) = true; simpa using hle
    clear ha
    go_enter Tryz.func162, Tryz.ntmps162
    go_wp2_with (go_at_call 117; refine (equal_any _ _ _ _ _ hf hb).mono ?_; rintro e w' ⟨rfl, rfl⟩)
    go_ret
    exact ⟨by rw [HD.out]; rfl, rfl⟩
  · have hd : decide ((m.length : Int) ≤ (l.length : Int)) = false := by simp; omega
    have HD : Hid (decide (m.length ≤ l.length) = false) := by show decide (m.length ≤ l.length) = false; simpa using hle
    clear ha hb
    go_enter Tryz.func162, Tryz.ntmps162
    go_wp2
    go_ret
    exact ⟨by rw [HD.out]; rfl, rfl⟩

theorem prefix_t (a b : Value) (l m : List UInt8) (w : World) (ha : HB w a l) (hb : HB w b m) (h1 : m.length ≤ l.length) (h2 : l.take m.length = m) :
    Calls Tryz.prog 162 #[a, b] w fun e w' => e = .returned (.bool true) ∧ w' = w :=
  (prefix_any a b l m w ha hb).mono fun e w' ⟨he, hw⟩ => ⟨by rw [he, h2]; simp [h1], hw⟩

end Go.Proofs.YtcgpgnajmfemhaaGreatDoor

namespace Go.Proofs.YtcgpgnajmfemhaaGreatDoor
open Go.RowKit

/-- What CutPrefix answers. -/
def CutTold (l m : List UInt8) (w : World) (x : Ending) (w' : World) : Prop :=
  ∃ (q : Option Addr) (d : Nat) (l' : List UInt8) (ok : Bool), x = .returned (.tuple #[.slice q l'.length d, .bool ok]) ∧ HB w (.slice q l'.length d) l' ∧ l'.length ≤ l.length ∧ Hid ((ok = true ∧ l = m ++ l') ∨ (ok = false ∧ ∀ r, l ≠ m ++ r)) ∧ w' = w

set_option maxRecDepth 100000 in
set_option maxHeartbeats 1600000 in
theorem cutp_any (a b : Value) (l m : List UInt8) (w : World) (ha : HB w a l) (hb : HB w b m) : Calls Tryz.prog 120 #[a, b] w (CutTold l m w) := by
  obtain ⟨p, c, rfl⟩ := ha.shape
  obtain ⟨q, d, rfl⟩ := hb.shape
  have hP := prefix_any _ _ l m w ha hb
  by_cases hB : (decide (m.length ≤ l.length) && (l.take m.length == m)) = true
  · rw [hB] at hP
    have hm : m.length ≤ l.length := by simp at hB; exact hB.1
    have hc := ha.behind m.length hm
    have kc : ∀ w', (Instr.slice 37 (.slice p l.length c) (some (.int .i64 (m.length : Int))) none none).run Tryz.prog w' = .ok (.slice (cutP p c m.length) (l.length - m.length) (c - m.length)) w' := fun w' => run_cut (P := Tryz.prog) Tryz.underlying37 s_u8 p l.length c m.length (m.length : Int) rfl hm w'
    obtain ⟨L, hL⟩ : ∃ L, L = l.drop m.length := ⟨_, rfl⟩
    have hl : l.length - m.length = L.length := by rw [hL]; simp
    have HL : Hid (l = m ++ L) := by
      show l = m ++ L
      simp only [Bool.and_eq_true, decide_eq_true_eq, beq_iff_eq] at hB
      rw [hL]
      conv => lhs; rw [← List.take_append_drop m.length l, hB.2]
    rw [← hL, hl] at hc
    rw [hl] at kc
    have hle : L.length ≤ l.length := by omega
    clear hB hL hl
    go_enter Tryz.func120, Tryz.ntmps120
    go_wp2_with (go_at_call 162; refine hP.mono ?_; rintro e w1 ⟨rfl, rfl⟩)
    go_ret2
    exact ⟨_, _, L, true, rfl, hc, hle, .inl ⟨rfl, HL.out⟩, rfl⟩
  · have HL : Hid (∀ r, l ≠ m ++ r) := by
      intro r e
      apply hB
      subst e
      simp
    rw [Bool.eq_false_iff.2 hB] at hP
    clear hB
    go_enter Tryz.func120, Tryz.ntmps120
    go_wp2_with (go_at_call 162; refine hP.mono ?_; rintro e w1 ⟨rfl, rfl⟩)
    go_ret2
    exact ⟨_, _, l, false, rfl, ha, Nat.le_refl _, .inr ⟨rfl, HL.out⟩, rfl⟩

/-- The entry that bytes are. -/
def lrOk (mi mk : Int) (l : List UInt8) (t : Nat) (bs : List (List UInt8 × List UInt8)) : Prop :=
  ∃ L rst, l = [69] ++ L ∧ uintF L 1125899906842624 = (0, t, rst) ∧ crS mi mk rst = (bs, [], 0) ∧ ChkIs mi mk bs 0

/-- What Read answers. -/
def LrTold (mi mk : Int) (l : List UInt8) (w : World) (x : Ending) (w' : World) : Prop :=
  (∃ (t : Nat) (bs : List (List UInt8 × List UInt8)) (p : Option Addr) (c : Nat), lrOk mi mk l t bs ∧ x = .returned (.tuple #[.agg #[.int .i64 (t : Int), .slice p bs.length c], .int .i64 0]) ∧ BA w' (.slice p bs.length c) bs ∧ Below w.heap.size w w') ∨
  ((∀ t bs, ¬ lrOk mi mk l t bs) ∧ x = .returned (.tuple #[.agg #[.int .i64 0, .slice none 0 0], .int .i64 90]) ∧ Below w.heap.size w w')

/-- What Read answers, of its form. -/
def RdEnt (w : World) (x : Ending) (w' : World) : Prop :=
  ∃ (t : Int) (p : Option Addr) (n c : Nat) (e : Int), x = .returned (.tuple #[.agg #[.int .i64 t, .slice p n c], .int .i64 e]) ∧ Below w.heap.size w w'

theorem HB.onlyE {w w' : World} {b : Nat} {t : Int} {p : Option Addr} {n c : Nat} {T : TypeId} {fr : Nat × Nat} {v : Value} {l : List UInt8} (h : HB w v l) (g : w.heap[b]? = some (.cells #[.int .i64 t, .slice p n c] T fr)) (ho : Only b w w') : HB w' v l := by
  by_cases hl : l = []
  · subst hl
    obtain ⟨q, d, e, h1, h2, h3, _⟩ := h
    exact ⟨q, d, e, h1, h2, h3, fun h => absurd rfl h⟩
  · refine h.only (fun a m d e hb => ?_) ho
    subst hb
    obtain ⟨q, d', rfl⟩ := h.shape
    obtain ⟨bl, o, e1, hc⟩ := h.addr (List.length_pos_iff.2 hl)
    simp only [Value.slice.injEq] at e
    obtain ⟨rfl, _, _⟩ := e
    simp only [Option.some.injEq] at e1
    subst e1
    obtain ⟨x, hx⟩ : ∃ x, l[0]? = some x := ⟨_, List.getElem?_eq_getElem (List.length_pos_iff.2 hl)⟩
    have h0 := hc 0 x hx
    rw [cell_of_row _ _ _ _ _ _ g] at h0
    rcases Nat.lt_or_ge (o + 0) 2 with h2 | h2
    · have : o + 0 = 0 ∨ o + 0 = 1 := by omega
      rcases this with e | e <;> (rw [e] at h0; simp [bc] at h0)
    · rw [Array.getElem?_eq_none (by simpa using h2)] at h0
      cases h0

theorem BA.onlyE {w w' : World} {b : Nat} {t : Int} {p : Option Addr} {n c : Nat} {T : TypeId} {fr : Nat × Nat} {v : Value} {bs : List (List UInt8 × List UInt8)} (h : BA w v bs) (g : w.heap[b]? = some (.cells #[.int .i64 t, .slice p n c] T fr)) (ho : Only b w w') : BA w' v bs := by
  obtain ⟨q, cap, e, h1, h2, h3⟩ := h
  refine ⟨q, cap, e, h1, h2, fun hn => ?_⟩
  obtain ⟨bl, o, e1, e2⟩ := h3 hn
  have hne : bl ≠ b := by
    rintro rfl
    obtain ⟨x, hx⟩ : ∃ x, bs[0]? = some x := ⟨_, List.getElem?_eq_getElem (List.length_pos_iff.2 hn)⟩
    obtain ⟨_, _, _, _, q1, q2, _⟩ := e2 0 x hx
    rw [cell_of_row _ _ _ _ _ _ g] at q1 q2
    rcases Nat.lt_or_ge o 1 with h2 | h2
    · have : o = 0 := by omega
      subst this
      simp at q1
    · rw [Array.getElem?_eq_none (by simp; omega)] at q2
      cases q2
  refine ⟨bl, o, e1, fun k x hx => ?_⟩
  obtain ⟨q', c', r, d, q1, q2, q3, q4⟩ := e2 k x hx
  have hb := ho.block bl hne (cell_lt q1)
  exact ⟨q', c', r, d, by rw [World.cell?_of_block hb]; exact q1, by rw [World.cell?_of_block hb]; exact q2, q3.onlyE g ho, q4.onlyE g ho⟩

theorem ent_cells {w : World} {b : Nat} {t : Int} {u : Value} (g : w.heap[b]? = some (.cells #[.int .i64 t, u] 66 (0, 0))) : w.cell? ⟨b, 0, none⟩ = some (.int .i64 t) ∧ w.cell? ⟨b, 1, none⟩ = some u ∧ w.frozen? ⟨b, 0, none⟩ = false ∧ w.frozen? ⟨b, 1, none⟩ = false :=
  ⟨by rw [cell_of_row _ _ _ _ _ _ g]; rfl, by rw [cell_of_row _ _ _ _ _ _ g]; rfl, by simp [World.frozen?, g], by simp [World.frozen?, g]⟩

set_option maxRecDepth 100000 in
set_option maxHeartbeats 8000000 in
theorem lread_any (s h mi mk ch ar ca pg : Int) (v : Value) (l : List UInt8) (w : World) (hv : HB w v l) (hsz : l.length ≤ 4000000) :
    Calls Tryz.prog 76 #[.agg #[.int .i64 s, .int .i64 h, .int .i64 mi, .int .i64 mk, .int .i64 ch, .int .i64 ar, .int .i64 ca, .int .i64 pg], v] w (LrTold mi mk l w) := by
  obtain ⟨p, c, rfl⟩ := hv.shape
  have b0 := (Below.refl w.heap.size w).alloc (Nat.le_refl _) (.cells #[.int .i64 s, .int .i64 h, .int .i64 mi, .int .i64 mk, .int .i64 ch, .int .i64 ar, .int .i64 ca, .int .i64 pg] 25)
  have g0 := heap_alloc_new w (.cells #[.int .i64 s, .int .i64 h, .int .i64 mi, .int .i64 mk, .int .i64 ch, .int .i64 ar, .int .i64 ca, .int .i64 pg] 25)
  obtain ⟨V, hV⟩ : ∃ V, w.alloc (.cells #[.int .i64 s, .int .i64 h, .int .i64 mi, .int .i64 mk, .int .i64 ch, .int .i64 ar, .int .i64 ca, .int .i64 pg] 25) = V := ⟨_, rfl⟩
  rw [hV] at b0 g0
  have sV : V.heap.size = w.heap.size + 1 := by rw [← hV]; simp
  have b1 := (Below.refl V.heap.size V).alloc (Nat.le_refl _) (.cells #[.int .i64 0, .slice none 0 0] 66)
  have g1 := heap_alloc_new V (.cells #[.int .i64 0, .slice none 0 0] 66)
  obtain ⟨R, hR⟩ : ∃ R, V.alloc (.cells #[.int .i64 0, .slice none 0 0] 66) = R := ⟨_, rfl⟩
  rw [hR] at b1 g1
  have sR : R.heap.size = w.heap.size + 2 := by rw [← hR]; simp [sV]
  have bL := (Below.refl _ R).alloc (Nat.le_refl _) (.cells #[.int .u8 69] 5 (1, 2))
  have hlit := HB.litF R 5 [69] #[.int .u8 69] 1 (1, 2) rfl rfl (by unfold maxLen; omega)
  have kc := Lib.run_convert_bytes_const (P := Tryz.prog) R 37 5 #[.int .u8 69] 1 1 Tryz.underlying37 Tryz.underlying5
  rw [show (#[Value.int .u8 69] : Array Value).size = 1 from rfl] at kc
  obtain ⟨U, hU⟩ : ∃ U, R.alloc (.cells #[.int .u8 69] 5 (1, 2)) = U := ⟨_, rfl⟩
  rw [hU] at bL hlit kc
  have sU : w.heap.size + 2 ≤ U.heap.size := by have := bL.size; omega
  have bRU := b1.trans (bL.mono b1.size)
  have bU := b0.trans (bRU.mono b0.size)
  have gP := (bRU.block _ (by omega)).trans g0
  have gE := (bL.block _ (by omega)).trans g1
  have hCP := cutp_any _ _ l [69] U (hv.later bU) hlit
  rw [sR] at hCP kc
  rw [sV] at gE
  clear hlit g0 g1 hv b0 b1 bRU bL
  go_enter Tryz.func76, Tryz.ntmps76
  go_wp2_with fail
  refine hCP.mono ?_
  rintro e w1 ⟨q, d, L, ok, rfl, hL, hLl, hok, hw1⟩
  subst hw1
  have hO := open_any _ L w1 hL (by omega)
  clear hCP kc
  go_wp2_with fail
  refine hO.mono ?_
  rintro e w2 ⟨g, hg, rfl, r2, b2⟩
  have hUi := uint_any g L 1125899906842624 w2 r2
  have hle := uintF_le L 1125899906842624
  have hbk := uintF_back L 1125899906842624
  unfold UintSaid at hUi
  obtain ⟨er, n, rst, hU3⟩ : ∃ er n rst, uintF L 1125899906842624 = (er, n, rst) := ⟨_, _, _, rfl⟩
  rw [hU3] at hUi hle hbk
  dsimp only at hUi hle hbk
  have HU : Hid (uintF L 1125899906842624 = (er, n, rst)) := hU3
  have Hbk : Hid (er = 0 → L = numL n ++ rst ∧ n ≤ 4611686018427387904 ∧ (n : Int) ≤ 1125899906842624) := hbk
  clear hU3 hbk
  clear hO r2
  go_wp2_with fail
  refine hUi.mono ?_
  rintro e w3 ⟨rfl, r3, o3⟩
  have b3 : Below w1.heap.size w1 w3 := b2.trans ((o3.below hg).mono (Nat.le_refl _))
  have gP3 := (b3.block _ (Array.getElem?_eq_some_iff.1 gP).1).trans gP
  have gE3 := (b3.block _ (Array.getElem?_eq_some_iff.1 gE).1).trans gE
  obtain ⟨z0, z1, y0, y1⟩ := ent_cells gE3
  have bw3 := bU.trans (b3.mono bU.size)
  have onf : ∀ W : World, Only (w.heap.size + 1) W ((W.setCell ⟨w.heap.size + 1, 0, none⟩ (.int .i64 0)).setCell ⟨w.heap.size + 1, 1, none⟩ (.slice none 0 0)) := fun W => ((Only.refl _ W).setCell 0 _).setCell 1 _
  have bF := bw3.trans ((onf w3).below (B := w.heap.size) (by omega))
  have hE := rr_err g rst er w3 r3
  clear hUi o3 b2 gP gE
  cases ok with
  | false =>
    go_wp2
    refine bodyPost_ret (v := .tuple #[.agg #[.int .i64 0, .slice none 0 0], .int .i64 90]) ?_ rfl ?_
    · simp only [results, Tryz.results76]
      go_simp
    · refine .inr ⟨?_, rfl, bF⟩
      rintro t bs ⟨L', rst', hl, _⟩
      rcases hok.out with ⟨h, _⟩ | ⟨_, h⟩
      · cases h
      · exact h _ hl
  | true =>
    have HLL : Hid (l = [69] ++ L) := by
      rcases hok.out with ⟨_, h⟩ | ⟨h, _⟩
      · exact h
      · cases h
    clear hok
    by_cases he : er = 0
    · subst he
      have hb3 := (Below.refl w3.heap.size w3).drew
      have hLf := rr_left g rst 0 w3.drew (r3.later hb3)
      have hL3 := (hL.later b3).later hb3
      have hcut := hL3.behind (L.length - rst.length) (by omega)
      have hq : L.length - (L.length - rst.length) = rst.length := by omega
      have kc : ∀ w', (Instr.slice 37 (.slice q L.length d) (some (.int .i64 ((L.length : Int) - (rst.length : Int)))) none none).run Tryz.prog w' = .ok (.slice (cutP q d (L.length - rst.length)) (L.length - (L.length - rst.length)) (d - (L.length - rst.length))) w' := fun w' => run_cut (P := Tryz.prog) Tryz.underlying37 s_u8 q L.length d (L.length - rst.length) ((L.length : Int) - (rst.length : Int)) (by omega) (by omega) w'
      have hwk : IntKind.i64.wrap ((L.length : Int) - (rst.length : Int)) = (L.length : Int) - (rst.length : Int) := wrapZ _ (by omega) (by omega)
      obtain ⟨hLn, hn1, hn2⟩ := Hbk.out rfl
      have hM : L.drop (L.length - rst.length) = rst := by
        have e : L.length - rst.length = (numL n).length := by rw [hLn]; simp
        rw [e, hLn]
        simp
      have HN2 : Hid ((n : Int) ≤ 1125899906842624) := hn2
      rw [hM, hq] at hcut
      rw [hq] at kc
      have hRd := cread_any s h mi mk ch ar ca pg _ rst w3.drew hcut (by omega)
      obtain ⟨bs, rr, ec, hC3⟩ : ∃ bs rr ec, crS mi mk rst = (bs, rr, ec) := ⟨_, _, _, rfl⟩
      rw [hC3] at hRd
      dsimp only at hRd
      have HCr : Hid (crS mi mk rst = (bs, rr, ec)) := hC3
      have HNo : Hid (∀ t bs', lrOk mi mk l t bs' → t = n ∧ bs' = bs ∧ rr = [] ∧ ec = 0 ∧ ChkIs mi mk bs 0) := by
        rintro t bs' ⟨L', rst', h1, h2, h3, h4⟩
        have e1 := HLL.out.symm.trans h1
        rw [List.append_cancel_left_eq] at e1
        subst e1
        rw [HU.out] at h2
        simp only [Prod.mk.injEq, true_and] at h2
        obtain ⟨rfl, rfl⟩ := h2
        rw [HCr.out] at h3
        simp only [Prod.mk.injEq] at h3
        obtain ⟨rfl, rfl, rfl⟩ := h3
        exact ⟨rfl, rfl, rfl, rfl, h4⟩
      have HYes : Hid (rr = [] → ec = 0 → ChkIs mi mk bs 0 → lrOk mi mk l n bs) := by
        rintro rfl rfl h4
        exact ⟨L, rst, HLL.out, HU.out, HCr.out, h4⟩
      clear hC3 hLn hn1 hn2 HCr HU HLL Hbk
      obtain ⟨qc, hqc⟩ : ∃ qc, cutP q d (L.length - rst.length) = qc := ⟨_, rfl⟩
      obtain ⟨dc, hdc⟩ : ∃ dc, d - (L.length - rst.length) = dc := ⟨_, rfl⟩
      rw [hqc, hdc] at kc hRd
      obtain ⟨LR, hLR⟩ : ∃ LR : Int, (L.length : Int) - (rst.length : Int) = LR := ⟨_, rfl⟩
      rw [hLR] at kc hwk
      have hP3 := par_cells ((hb3.block _ (Array.getElem?_eq_some_iff.1 gP3).1).trans gP3)
      have hHeld := hP3
      clear hM hq hqc hdc hcut hL3 hL hLl hle r3
      go_wp2_with (go_at_call 123; refine hE.mono ?_; rintro e w4 ⟨rfl, hw4⟩; subst hw4)
      refine wp_region_heldN (by kernel_rfl) (fun w' => w'.cell? ⟨w.heap.size, 0, none⟩ = some (.int .i64 s) ∧ w'.cell? ⟨w.heap.size, 1, none⟩ = some (.int .i64 h) ∧ w'.cell? ⟨w.heap.size, 2, none⟩ = some (.int .i64 mi) ∧ w'.cell? ⟨w.heap.size, 3, none⟩ = some (.int .i64 mk) ∧ w'.cell? ⟨w.heap.size, 4, none⟩ = some (.int .i64 ch) ∧ w'.cell? ⟨w.heap.size, 5, none⟩ = some (.int .i64 ar) ∧ w'.cell? ⟨w.heap.size, 6, none⟩ = some (.int .i64 ca) ∧ w'.cell? ⟨w.heap.size, 7, none⟩ = some (.int .i64 pg)) 16 rfl ?_
      refine tkY 0 ⟨some 34, .load 25 (.tmp 2), 25, "ledger.go:161", #[], none⟩ ?v0z1 hHeld ?y0z1 ?r0z1
      case y0z1 => (intro w hSw; (try dsimp only at hSw); go_simp) <;> with_reducible rfl
      try simp only [Act.put, List.setIfInBounds_toArray, List.set_cons_zero, List.set_cons_succ]
      refine tkY 1 ⟨some 35, .move (.tmp 6), 37, "ledger.go:161", #[], none⟩ ?v1z2 hHeld ?y1z2 ?r1z2
      case y1z2 => (intro w hSw; (try dsimp only at hSw); go_simp) <;> with_reducible rfl
      try simp only [Act.put, List.setIfInBounds_toArray, List.set_cons_zero, List.set_cons_succ]
      refine tkY 2 ⟨some 36, .move (.tmp 6), 37, "ledger.go:161", #[], none⟩ ?v2z3 hHeld ?y2z3 ?r2z3
      case y2z3 => (intro w hSw; (try dsimp only at hSw); go_simp) <;> with_reducible rfl
      try simp only [Act.put, List.setIfInBounds_toArray, List.set_cons_zero, List.set_cons_succ]
      refine tkY 3 ⟨some 37, .call { callee := .builtin .len, args := #[.tmp 36], argTypes := #[37] }, 3, "ledger.go:161", #[⟨2, .data⟩], none⟩ ?v3z4 hHeld ?y3z4 ?r3z4
      case y3z4 => (intro w hSw; (try dsimp only at hSw); go_simp) <;> with_reducible rfl
      try simp only [Act.put, List.setIfInBounds_toArray, List.set_cons_zero, List.set_cons_succ]
      refine tkY 4 ⟨some 38, .move (.tmp 8), 190, "ledger.go:161", #[], none⟩ ?v4z5 hHeld ?y4z5 ?r4z5
      case y4z5 => (intro w hSw; (try dsimp only at hSw); go_simp) <;> with_reducible rfl
      try simp only [Act.put, List.setIfInBounds_toArray, List.set_cons_zero, List.set_cons_succ]
      refine wpAnyH_ready (rs := [5]) (by kernel_rfl) (by simp) ?_
      refine AllReadyH.cons (o := ⟨some 39, .call { callee := .value (.func 125), args := #[.tmp 38], argTypes := #[190] }, 3, "ledger.go:161", #[⟨4, .data⟩], none⟩) rfl (fun K hK => ?_) AllReadyH.nil
      go_simp
      refine hLf.mono ?_
      rintro e w5 ⟨rfl, hw5⟩
      subst hw5
      refine hK.out _ _ ?_ (fun _ => ?_)
      · exact hHeld
      clear hK K
      try simp only [Act.put, List.setIfInBounds_toArray, List.set_cons_zero, List.set_cons_succ]
      refine tkY 6 ⟨some 40, .binOp .sub 3 (.tmp 37) (.tmp 39) 3, 3, "ledger.go:161", #[⟨3, .data⟩, ⟨5, .data⟩], none⟩ ?v6z6 hHeld ?y6z6 ?r6z6
      case y6z6 => (intro w hSw; (try dsimp only at hSw); go_simp) <;> with_reducible rfl
      try simp only [Act.put, List.setIfInBounds_toArray, List.set_cons_zero, List.set_cons_succ]
      refine tkY 7 ⟨some 41, .slice 37 (.tmp 35) (some (.tmp 40)) none none, 37, "ledger.go:161", #[⟨1, .data⟩, ⟨6, .data⟩], none⟩ ?v7z7 hHeld ?y7z7 ?r7z7
      case y7z7 => (intro w hSw; (try dsimp only at hSw); go_simp) <;> with_reducible rfl
      try simp only [Act.put, List.setIfInBounds_toArray, List.set_cons_zero, List.set_cons_succ]
      refine wpAnyH_ready (rs := [8]) (by kernel_rfl) (by simp) ?_
      refine AllReadyH.cons (o := ⟨some 42, .call { callee := .value (.func 124), args := #[.tmp 34, .tmp 41], argTypes := #[25, 37] }, 193, "ledger.go:161", #[⟨0, .data⟩, ⟨7, .data⟩, ⟨5, .chain⟩], none⟩) rfl (fun K hK => ?_) AllReadyH.nil
      go_simp
      refine hRd.mono ?_
      rintro e w6 ⟨u, v6, rfl, hu, hv6, b6⟩
      have gP6 := (b6.block _ (by simp; exact (Array.getElem?_eq_some_iff.1 gP3).1)).trans ((hb3.block _ (Array.getElem?_eq_some_iff.1 gP3).1).trans gP3)
      replace hHeld := par_cells gP6
      refine hK.out _ _ ?_ (fun _ => ?_)
      · exact hHeld
      clear hK K
      try simp only [Act.put, List.setIfInBounds_toArray, List.set_cons_zero, List.set_cons_succ]
      refine tkY 9 ⟨some 33, .move (.tmp 42), 193, "ledger.go:161", #[⟨8, .data⟩], none⟩ ?v9z8 hHeld ?y9z8 ?r9z8
      case y9z8 => (intro w hSw; (try dsimp only at hSw); go_simp) <;> with_reducible rfl
      try simp only [Act.put, List.setIfInBounds_toArray, List.set_cons_zero, List.set_cons_succ]
      refine tkY 10 ⟨some 43, .extract (.tmp 33) 0, 22, "ledger.go:161", #[⟨9, .data⟩], none⟩ ?v10z9 hHeld ?y10z9 ?r10z9
      case y10z9 => (intro w hSw; (try dsimp only at hSw); go_simp) <;> with_reducible rfl
      try simp only [Act.put, List.setIfInBounds_toArray, List.set_cons_zero, List.set_cons_succ]
      refine tkY 11 ⟨some 44, .extract (.tmp 33) 1, 37, "ledger.go:161", #[⟨9, .data⟩, { on := 13, ground := .gcOnly .lateStores }], none⟩ ?v11z10 hHeld ?y11z10 ?r11z10
      case y11z10 => (intro w hSw; (try dsimp only at hSw); go_simp) <;> with_reducible rfl
      try simp only [Act.put, List.setIfInBounds_toArray, List.set_cons_zero, List.set_cons_succ]
      refine tkY 12 ⟨some 45, .extract (.tmp 33) 2, 34, "ledger.go:161", #[⟨9, .data⟩, { on := 14, ground := .gcOnly .lateStores }], none⟩ ?v12z11 hHeld ?y12z11 ?r12z11
      case y12z11 => (intro w hSw; (try dsimp only at hSw); go_simp) <;> with_reducible rfl
      try simp only [Act.put, List.setIfInBounds_toArray, List.set_cons_zero, List.set_cons_succ]
      refine tkY 13 ⟨some 10, .assign (.tmp 43), 22, "ledger.go:161", #[⟨10, .data⟩, ⟨8, .chain⟩, ⟨0, .phase⟩, ⟨1, .phase⟩, ⟨2, .phase⟩, ⟨3, .phase⟩, ⟨4, .phase⟩, ⟨5, .phase⟩, ⟨6, .phase⟩, ⟨7, .phase⟩, ⟨8, .phase⟩, ⟨9, .phase⟩, ⟨10, .phase⟩, { on := 11, ground := .textOnly .lateStores }, { on := 12, ground := .textOnly .lateStores }], none⟩ ?v13z12 hHeld ?y13z12 ?r13z12
      case y13z12 => (intro w hSw; (try dsimp only at hSw); go_simp) <;> with_reducible rfl
      try simp only [Act.put, List.setIfInBounds_toArray, List.set_cons_zero, List.set_cons_succ]
      refine tkY 14 ⟨some 11, .assign (.tmp 44), 37, "ledger.go:161", #[⟨11, .data⟩, ⟨13, .chain⟩, ⟨0, .phase⟩, ⟨1, .phase⟩, ⟨2, .phase⟩, ⟨3, .phase⟩, ⟨4, .phase⟩, ⟨5, .phase⟩, ⟨6, .phase⟩, ⟨7, .phase⟩, ⟨8, .phase⟩, ⟨9, .phase⟩, ⟨10, .phase⟩, ⟨11, .phase⟩, { on := 12, ground := .textOnly .lateStores }, ⟨13, .phase⟩], none⟩ ?v14z13 hHeld ?y14z13 ?r14z13
      case y14z13 => (intro w hSw; (try dsimp only at hSw); go_simp) <;> with_reducible rfl
      try simp only [Act.put, List.setIfInBounds_toArray, List.set_cons_zero, List.set_cons_succ]
      refine tkY 15 ⟨some 12, .assign (.tmp 45), 34, "ledger.go:161", #[⟨12, .data⟩, ⟨14, .chain⟩, ⟨0, .phase⟩, ⟨1, .phase⟩, ⟨2, .phase⟩, ⟨3, .phase⟩, ⟨4, .phase⟩, ⟨5, .phase⟩, ⟨6, .phase⟩, ⟨7, .phase⟩, ⟨8, .phase⟩, ⟨9, .phase⟩, ⟨10, .phase⟩, ⟨11, .phase⟩, ⟨12, .phase⟩, ⟨13, .phase⟩, ⟨14, .phase⟩], none⟩ ?v15z14 hHeld ?y15z14 ?r15z14
      case y15z14 => (intro w hSw; (try dsimp only at hSw); go_simp) <;> with_reducible rfl
      try simp only [Act.put, List.setIfInBounds_toArray, List.set_cons_zero, List.set_cons_succ]
      refine wpAnyH_done (by kernel_rfl) ?_ _
      have b36 := hb3.trans (b6.mono hb3.size)
      have gE6 := (b36.block _ (Array.getElem?_eq_some_iff.1 gE3).1).trans gE3
      have bw6 := bw3.trans (b36.mono bw3.size)
      obtain ⟨bq, hbq⟩ : ∃ bq, bq = (if ec = 0 then bs else []) := ⟨_, rfl⟩
      obtain ⟨rq, hrq0⟩ : ∃ rq, rq = (if ec = 0 then rr else []) := ⟨_, rfl⟩
      rw [← hbq] at hu
      rw [← hrq0] at hv6
      have HBQ : Hid (ec = 0 → bq = bs ∧ rq = rr) := fun h => by rw [hbq, hrq0, if_pos h, if_pos h]; exact ⟨rfl, rfl⟩
      obtain ⟨pu, cu, hpu⟩ := hu.shape
      obtain ⟨pv, cv, hpv⟩ := hv6.shape
      subst hpu hpv
      clear hbq hrq0
      have bN := (Below.refl _ w6).alloc (Nat.le_refl _) (.cells #[.int .i64 (n : Int), .slice pu bq.length cu] 66)
      have gN := heap_alloc_new w6 (.cells #[.int .i64 (n : Int), .slice pu bq.length cu] 66)
      obtain ⟨N, hN⟩ : ∃ N, w6.alloc (.cells #[.int .i64 (n : Int), .slice pu bq.length cu] 66) = N := ⟨_, rfl⟩
      rw [hN] at bN gN
      have gPN := (bN.block _ (Array.getElem?_eq_some_iff.1 gP6).1).trans gP6
      have gEN := (bN.block _ (Array.getElem?_eq_some_iff.1 gE6).1).trans gE6
      obtain ⟨k0, k1, k2, k3, k4, k5, k6, k7⟩ := par_cells gPN
      obtain ⟨z0, z1, y0, y1⟩ := ent_cells gEN
      obtain ⟨x0, x1, _, _⟩ := ent_cells gN
      have huN := hu.later bN
      have hMy := lmay_any s h mi mk ch ar ca pg (n : Int) _ bq N (hu.later bN)
      have bwN := bw6.trans (bN.mono bw6.size)
      have bFN := bwN.trans ((onf N).below (B := w.heap.size) (by omega))
      clear hLf hRd kc hwk hLR gP3 gP6 gE3 gE6 hE b36 b6 hu hv6 hHeld hP3
      by_cases hec : ec = 0
      · subst hec
        by_cases hrq : rq = []
        · subst hrq
          go_wp2_with (go_at_call 79; refine hMy.mono ?_; rintro e w7 ⟨bb, rfl, hbb, b7⟩; have HBB : Hid _ := hbb; clear hbb; have gE7 := (b7.block _ (Array.getElem?_eq_some_iff.1 gEN).1).trans gEN; have gN7 := (b7.block _ (Array.getElem?_eq_some_iff.1 gN).1).trans gN; obtain ⟨z0', z1', y0', y1'⟩ := ent_cells gE7; obtain ⟨x0', x1', _, _⟩ := ent_cells gN7; have bw7 := bwN.trans (b7.mono bwN.size); cases bb)
          · refine bodyPost_ret (v := .tuple #[.agg #[.int .i64 0, .slice none 0 0], .int .i64 90]) ?_ rfl ?_
            · simp only [results, Tryz.results76]
              go_simp
            · refine .inr ⟨fun t bs' h => ?_, rfl, bw7.trans ((onf w7).below (B := w.heap.size) (by omega))⟩
              obtain ⟨_, _, _, _, h4⟩ := HNo.out t bs' h
              have := HBB.out.2 ⟨by omega, HN2.out, by rw [(HBQ.out (by trivial)).1]; exact h4⟩
              cases this
          · refine bodyPost_ret (v := .tuple #[.agg #[.int .i64 (n : Int), .slice pu bq.length cu], .int .i64 0]) ?_ rfl ?_
            · simp only [results, Tryz.results76]
              go_simp
            · have onE : Only (w.heap.size + 1) w7 ((w7.setCell ⟨w.heap.size + 1, 0, none⟩ (.int .i64 (n : Int))).setCell ⟨w.heap.size + 1, 1, none⟩ (.slice pu bq.length cu)) := ((Only.refl (w.heap.size + 1) w7).setCell 0 _).setCell 1 _
              have hq1 := (HBQ.out (by trivial)).1
              have hq2 := (HBQ.out (by trivial)).2
              subst hq1
              refine .inl ⟨n, bq, pu, cu, HYes.out hq2.symm (by trivial) (HBB.out.1 (by trivial)).2.2, rfl, (huN.later b7).onlyE gE7 onE, bw7.trans (onE.below (B := w.heap.size) (by omega))⟩
        · have hrq1 : 0 < rq.length := List.length_pos_iff.2 hrq
          have hrq2 : (0 : Int) < (rq.length : Int) := by omega
          go_wp2
          refine bodyPost_ret (v := .tuple #[.agg #[.int .i64 0, .slice none 0 0], .int .i64 90]) ?_ rfl ?_
          · simp only [results, Tryz.results76]
            go_simp
          · refine .inr ⟨fun t bs' h => ?_, rfl, bFN⟩
            obtain ⟨_, _, h3, _, _⟩ := HNo.out t bs' h
            rw [(HBQ.out (by trivial)).2] at hrq
            exact hrq h3
      · have hec' : (ec != 0) = true := by simpa using hec
        go_wp2
        refine bodyPost_ret (v := .tuple #[.agg #[.int .i64 0, .slice none 0 0], .int .i64 90]) ?_ rfl ?_
        · simp only [results, Tryz.results76]
          go_simp
        · refine .inr ⟨fun t bs' h => ?_, rfl, bFN⟩
          obtain ⟨_, _, _, h3, _⟩ := HNo.out t bs' h
          exact hec h3
    · have he' : (er != 0) = true := by simpa using he
      go_wp2_with (go_at_call 123; refine hE.mono ?_; rintro e w4 ⟨rfl, hw4⟩; subst hw4)
      refine bodyPost_ret (v := .tuple #[.agg #[.int .i64 0, .slice none 0 0], .int .i64 90]) ?_ rfl ?_
      · simp only [results, Tryz.results76]
        go_simp
      · refine .inr ⟨?_, rfl, bF⟩
        rintro t bs ⟨L', rst', h1, h2, _⟩
        have e1 := HLL.out.symm.trans h1
        rw [List.append_cancel_left_eq] at e1
        subst e1
        rw [HU.out] at h2
        simp only [Prod.mk.injEq] at h2
        exact he h2.1

theorem lread_ent (s h mi mk ch ar ca pg : Int) (v : Value) (l : List UInt8) (w : World) (hv : HB w v l) (hsz : l.length ≤ 4000000) :
    Calls Tryz.prog 76 #[.agg #[.int .i64 s, .int .i64 h, .int .i64 mi, .int .i64 mk, .int .i64 ch, .int .i64 ar, .int .i64 ca, .int .i64 pg], v] w (RdEnt w) := by
  refine (lread_any s h mi mk ch ar ca pg v l w hv hsz).mono ?_
  rintro x w' (⟨t, bs, p, c, _, e, _, hb⟩ | ⟨_, e, hb⟩)
  · exact ⟨_, _, _, _, _, e, hb⟩
  · exact ⟨_, _, _, _, _, e, hb⟩

end Go.Proofs.YtcgpgnajmfemhaaGreatDoor

namespace Go.Proofs.YtcgpgnajmfemhaaGreatDoor
open Go.RowKit

theorem i_ent : (Tryz.prog.info? 66).map (fun i => (i.zero, i.size, i.bytes)) = some (some (.agg #[.int .i64 0, .slice none 0 0]), 2, 32) := by kernel_rfl

set_option maxRecDepth 100000 in
set_option maxHeartbeats 8000000 in
theorem lents_any {B g gl N kk K : Nat} {s h mi mk ch ar ca pg n c t : Int} {ls : List (List UInt8)} {w : World} (H : LS B g gl N kk K s h mi mk ch ar ca pg n c t ls w) (hl1 : 2 ≤ ls.length) (hl2 : ls.length ≤ 1000) (hrow : ∀ l ∈ ls, l.length ≤ 4000) :
    Calls Tryz.prog 41 #[.pointer (some ⟨g, 0, none⟩)] w fun x w' => ∃ p m c, x = .returned (.slice p m c) ∧ m = ls.length - 1 ∧ Below w.heap.size w w' := by
  obtain ⟨bd, bn, bm, base, cc, cr, pr, st, k1, k2, k3, k4, k5, k6, k7, k8, k9, k10, k11⟩ := H
  have a8 := k1.cells.2.1
  have hM := lmiss_no g gl w a8
  have hRc := srecs_any k2 k3 (by omega) (fun l hl => by have := hrow l hl; omega)
  have HR : Hid (∀ l ∈ ls, l.length ≤ 4000) := hrow
  obtain ⟨m, hm⟩ : ∃ m, m = ls.length - 1 := ⟨_, rfl⟩
  rw [← hm]
  have HM : Hid (ls.length = m + 1 ∧ 1 ≤ m ∧ m ≤ 1000) := ⟨by omega, by omega, by omega⟩
  have kc : ∀ (p : Option Addr) (c : Nat) w', (Instr.slice 38 (.slice p ls.length c) (some (.int .i64 1)) none none).run Tryz.prog w' = .ok (.slice (cutP p c 1) m (c - 1)) w' := fun p c w' => by rw [hm]; exact run_cut (P := Tryz.prog) Tryz.underlying38 s_bytes p ls.length c 1 1 rfl (by omega) w'
  obtain ⟨i0, hi, hz0, hz1, hz2⟩ := info_parts i_ent
  clear k2 k3 k4 k5 k6 k7 k8 k9 k10 k11 hm hl1 hl2 hrow
  go_enter Tryz.func41, Tryz.ntmps41
  go_wp2_with (first | (go_at_call 45; refine hM.mono ?_; rintro e wm ⟨rfl, hwm⟩; have hwm2 := hwm.symm; clear hwm; subst hwm2) | fail)
  refine hRc.mono ?_
  rintro e w1 ⟨p1, c1, rfl, o1, b1⟩
  have hp1 := o1.pa
  obtain ⟨hls, hm1, hm2⟩ := HM.out
  obtain ⟨bl, o, rfl⟩ := hp1.addr (by omega)
  have hl := hp1.len
  have hcp : cutP (some ⟨bl, o, none⟩) c1 1 = some ⟨bl, o + 1, none⟩ := by unfold cutP; rw [if_neg (by omega)]; rfl
  have kc2 := kc (some ⟨bl, o, none⟩) c1
  rw [hcp] at kc2
  have hcc : m ≤ c1 - 1 ∧ c1 - 1 ≤ 9223372036854775807 := by have := hl.2.2; unfold maxLen at this; omega
  obtain ⟨c2, hc2⟩ : ∃ c2, c2 = c1 - 1 := ⟨_, rfl⟩
  rw [← hc2] at kc2 hcc
  have HG : Hid (∀ k : Nat, k < m → ∃ (q : Option Addr) (kk : Nat) (l : List UInt8), w1.cell? ⟨bl, o + 1 + k, none⟩ = some (.slice q l.length kk) ∧ HB w1 (.slice q l.length kk) l ∧ l.length ≤ 4000) := by
    intro k hk
    obtain ⟨q, kk, l, hx, hc, hu⟩ := hp1.get (k + 1) (by omega)
    refine ⟨q, kk, l, ?_, hu, HR.out l (List.mem_of_getElem? hx)⟩
    rw [show o + 1 + k = o + (k + 1) by omega]
    exact hc
  have kL := k1.same (b1.block _ k1.lt)
  have hm3 : m ≤ 9223372036854775807 := by omega
  clear hRc o1 hp1 hl hcp kc hc2 hls HR HM
  go_wp2
  go_loopw [3, 17] (fun v i wr => ∃ (k : Nat) (p : Option Addr) (cp : Nat) (xs : List Value), k ≤ m ∧ i = .int .i64 (k : Int) ∧ v = .slice p k cp ∧ wr.ownsRow w1.heap.size 66 2 (.slice p k cp) k xs ∧ Below w1.heap.size w1 wr) (fun _ i _ => m - (Go.RowKit.intOf i).toNat)
  case atStart => exact ⟨0, none, 0, [], Nat.zero_le _, rfl, rfl, World.ownsRow_nil _ _ _ _, Below.refl _ _⟩
  case round =>
    obtain ⟨k, p, cp, xs, hk, rfl, rfl, ow, hb⟩ := hrel
    by_cases hlt : k < m
    · have hlt2 : (k : Int) < (m : Int) := by omega
      obtain ⟨q, kk', l, hc, hu, hl4⟩ := HG.out k hlt
      have e1 := cell_later hb hc
      obtain ⟨⟨a0, a1, a2, a3, a4, a5, a6, a7⟩, _⟩ := (kL.same (hb.block _ kL.lt)).cells
      have hRd := lread_ent s h mi mk ch ar ca pg _ l wr (hu.later hb) (by omega)
      clear HG hc hu
      go_wp2_with fail
      refine hRd.mono ?_
      rintro e w4 ⟨t4, p4, n4, c4, e4, rfl, b4⟩
      have bE := (Below.refl w4.heap.size w4).alloc (Nat.le_refl _) (.cells #[.int .i64 t4, .slice p4 n4 c4] 66)
      have gE := heap_alloc_new w4 (.cells #[.int .i64 t4, .slice p4 n4 c4] 66)
      obtain ⟨WE, hWE⟩ : ∃ WE, w4.alloc (.cells #[.int .i64 t4, .slice p4 n4 c4] 66) = WE := ⟨_, rfl⟩
      rw [hWE] at bE gE
      obtain ⟨z0, z1, _, _⟩ := ent_cells gE
      have bF := (Below.refl WE.heap.size WE).alloc (Nat.le_refl _) (.cells #[.int .i64 t4, .slice p4 n4 c4] 66)
      have gF := heap_alloc_new WE (.cells #[.int .i64 t4, .slice p4 n4 c4] 66)
      have sF : (WE.alloc (.cells #[.int .i64 t4, .slice p4 n4 c4] 66)).heap.size = WE.heap.size + 1 := by simp
      have b4F := b4.trans ((bE.trans (bF.mono bE.size)).mono b4.size)
      have oF := owns_later ow b4F
      have hbs := hb.size
      have hnews : ∀ j u, [Value.int .i64 t4, .slice p4 n4 c4][j]? = some u → (WE.alloc (.cells #[.int .i64 t4, .slice p4 n4 c4] 66)).cell? ((⟨WE.heap.size, 0, none⟩ : Addr).add j) = some u := World.news_of_block (cs := #[.int .i64 t4, .slice p4 n4 c4]) (t := 66) (fr := (0, 0)) gF
      have hFs : w1.heap.size ≤ (WE.alloc (.cells #[.int .i64 t4, .slice p4 n4 c4] 66)).heap.size := Nat.le_trans hbs b4F.size
      clear hRd gE gF e1
      go_wp2_with (first
        | (at_builtin; refine wpList_append_lies _ rfl _ _ 85 rfl w1.heap.size 66 i0 _ 2 32 Tryz.underlying85 hi hz0 hz1 hz2 rfl (by omega) (.slice p k cp) k xs rfl oF ⟨WE.heap.size, 0, none⟩ 1 1 [.int .i64 t4, .slice p4 n4 c4] rfl rfl hnews (by simp [Value.oneCell']) (by omega) (by unfold maxLen; omega) (by omega) hFs (WE.heap.size + 1) sF ?_; intro g5 cap5 w5 ow5 gr5 hat5 hlt5))
      have hbF := hb.trans (b4F.mono hb.size)
      have hb5 : Below w1.heap.size w1 w5 := hbF.grown gr5 hbF.size (by intro q hq; exact (oF.lt q hq).1)
      clear hat5 hlt5 gr5 oF hnews
      go_wp2
      go_roundw
      case rel => first | exact ⟨k + 1, _, _, _, by omega, by go_num, rfl, ow5, hb5⟩ | ((repeat apply Exists.intro); exact ⟨⟨k + 1, _, _, _, by omega, by go_num, rfl, ow5, hb5⟩, rfl⟩)
      case measure => simp [Go.RowKit.intOf]; omega
    · obtain rfl : k = m := by omega
      have hnk : ¬ (k : Int) < (k : Int) := by omega
      go_wp2
      go_ret
      exact ⟨p, k, ⟨cp, rfl⟩, rfl, b1.trans (hb.mono b1.size)⟩

end Go.Proofs.YtcgpgnajmfemhaaGreatDoor
