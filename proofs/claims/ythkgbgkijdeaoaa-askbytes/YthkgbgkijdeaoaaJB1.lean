/- What this text proves: the walk of change.Read over this program, telling where the bindings that are read lie. What this text proves: the walks of fields.Reader's GoOn and of ask's reader's batch over this program. What this text holds: what ask.Decode reads of bytes, plainly (no walk). (By program: mkaktr.py.) -/
import Derived.Test.YthkgbgkijdeaoaaJCRead
import Derived.Test.YthkgbgkijdeaoaaJF2
namespace Go.Proofs.Ythkgbgkijdeaoaa
open Go.RowKit

/-- What Read answers. -/
def RdToldK (er : Int) (bs : List (List UInt8 × List UInt8)) (rest : List UInt8) (w : World) (x : Ending) (w' : World) : Prop :=
  ∃ u v, x = .returned (.tuple #[u, v, .int .i64 er]) ∧ BA w' u (if er = 0 then bs else []) ∧ HB w' v (if er = 0 then rest else []) ∧ Below w.heap.size w w' ∧ (er = 0 → ∃ g gR, u = .slice (some ⟨gR, 0, none⟩) bs.length bs.length ∧ BR w' g gR bs.length bs ∧ w.heap.size ≤ gR)

set_option maxRecDepth 100000 in
set_option maxHeartbeats 8000000 in
theorem creadK_core (pa pb mi mk pc pd pe pf : Int) (v : Value) (b : List UInt8) (w : World) (hv : HB w v b) (hsz : b.length ≤ 140737488351232)
    (e1 : Int) (n : Nat) (r1 : List UInt8) (S : Nat → List (List UInt8 × List UInt8)) (Sl Ml : Nat → List UInt8) (Se Me : Nat → Int) (So Sp : Nat → List UInt8)
    (hU1 : ∀ g w, RR w g b 0 → Calls Try.prog 45 #[.pointer (some ⟨g, 0, none⟩), .int .i64 32] w fun x w' => x = .returned (.int .i64 (n : Int)) ∧ RR w' g r1 e1 ∧ Only g w w')
    (hBi : Hid (∀ k g w, RR w g (Sl k) (Se k) → Calls Try.prog 90 #[.pointer (some ⟨g, 0, none⟩), .int .i64 mi] w fun x w' => ∃ v, x = .returned v ∧ ∃ p c, v = .slice p (So k).length c ∧ HBN w' g (.slice p (So k).length c) (So k) ∧ RR w' g (Ml k) (Me k) ∧ Only g w w'))
    (hBk : Hid (∀ k g w, RR w g (Ml k) (Me k) → Calls Try.prog 90 #[.pointer (some ⟨g, 0, none⟩), .int .i64 mk] w fun x w' => ∃ v, x = .returned v ∧ ∃ p c, v = .slice p (Sp k).length c ∧ HBN w' g (.slice p (Sp k).length c) (Sp k) ∧ RR w' g (Sl (k + 1)) (Se (k + 1)) ∧ Only g w w'))
    (hS0 : Hid (S 0 = [] ∧ Sl 0 = r1 ∧ Se 0 = e1)) (hSk : Hid (∀ k, S (k + 1) = S k ++ [(So k, Sp k)])) (hSl : Hid (∀ k, (S k).length = k)) (hn : n ≤ 32)
    (hR : Hid (Se n = 0 → Sl n = b.drop (b.length - (Sl n).length) ∧ (Sl n).length ≤ b.length)) :
    Calls Try.prog 91 #[.agg #[.int .i64 pa, .int .i64 pb, .int .i64 mi, .int .i64 mk, .int .i64 pc, .int .i64 pd, .int .i64 pe, .int .i64 pf], v] w (RdToldK (Se n) (S n) (Sl n) w) := by
  obtain ⟨P8, hP8⟩ : ∃ P8 : Array Value, P8 = #[.int .i64 pa, .int .i64 pb, .int .i64 mi, .int .i64 mk, .int .i64 pc, .int .i64 pd, .int .i64 pe, .int .i64 pf] := ⟨_, rfl⟩
  have bA := (Below.refl w.heap.size w).alloc (Nat.le_refl _) (.cells P8 73)
  have gA := heap_alloc_new w (.cells P8 73)
  have hO := open_any v b _ (hv.later bA) (by omega)
  obtain ⟨p, c, rfl⟩ := hv.shape
  obtain ⟨i0, hi, hz0, hz1, hz2⟩ := info_parts i_bind
  obtain ⟨V, hV⟩ : ∃ V, V = w.alloc (.cells P8 73) := ⟨_, rfl⟩
  rw [← hV] at bA gA hO
  rw [hP8] at hV
  go_enter Try.func91, Try.ntmps91
  go_wp2_with fail
  rw [← hV]
  refine hO.mono ?_
  rintro x w2 ⟨g, hg, rfl, x2, hb2⟩
  have c2 : CS w w.heap.size g P8 b 0 w2 := ⟨(hb2.block _ (Array.getElem?_eq_some_iff.1 gA).1).trans gA, x2, bA.trans (hb2.mono bA.size), by have := bA.size; omega⟩
  clear hO hb2 bA gA x2 hV hg
  have hU := hU1 g _ c2.2.1
  clear hU1
  go_wp2_with fail
  refine hU.mono ?_
  rintro x w3 ⟨rfl, r3, o3⟩
  obtain ⟨c3, _⟩ := c2.only o3 r3
  clear hU c2 r3 o3
  go_wp2_with (first | (at_make; refine wpList_make_full _ rfl _ _ 23 rfl w.heap.size 92 i0 _ 2 Try.underlying23 hi hz0 hz1 .i64 .i64 _ _ n rfl rfl ?qa ?qb ?qc ?qd ?qe ?_))
  case qa => rfl
  case qb => rfl
  case qc => rw [hz2]; omega
  case qd => unfold maxLen; omega
  case qe => exact c3.2.2.1.size
  intro w4 hown4 hgrow4
  have hb4 : Below w3.heap.size w3 w4 := (Below.refl _ w3).grown hgrow4 (Nat.le_refl _) (by intro k hk; cases hk)
  have c4 := c3.later hb4
  have hgR : w.heap.size ≤ w3.heap.size := c3.2.2.1.size
  have br4 : BR w4 g w3.heap.size n [] := by
    rcases hown4.2 with ⟨e, _⟩ | ⟨g', cap, cur, e, _, hg', hl, _, hcs, _⟩
    · cases e
    · simp only [Value.slice.injEq, Option.some.injEq, Addr.mk.injEq, and_true, true_and] at e
      obtain ⟨rfl, rfl⟩ := e
      exact ⟨cur, hg', hcs, fun j x hx => by simp at hx⟩
  generalize w3.heap.size = gR at *
  clear hown4 hgrow4 hb4 c3
  go_wp2
  go_loopw [17] (fun i wr => ∃ k : Nat, k ≤ n ∧ i = .int .i64 (k : Int) ∧ CS w w.heap.size g P8 (Sl k) (Se k) wr ∧ BR wr g gR n (S k)) (fun i _ => n - (intOf i).toNat)
  case atStart =>
    obtain ⟨s1, s2, s3⟩ := hS0.out
    exact ⟨0, Nat.zero_le _, rfl, by rw [s2, s3]; exact c4, by rw [s1]; exact br4⟩
  case round =>
    clear c4 br4
    obtain ⟨k, hk, rfl, cr, br⟩ := hrel
    by_cases hlt : k < n
    · have hlt2 : (k : Int) < (n : Int) := by omega
      have hsm := hSl.out k
      have HSk : Hid (S (k + 1) = S k ++ [(So k, Sp k)]) := hSk.out k
      have hB1 := hBi.out k g wr cr.2.1
      have hB2 := fun w h => hBk.out k g w h
      have m2 : wr.cell? ⟨w.heap.size, 2, none⟩ = some (.int .i64 mi) := by rw [cell_of_row _ _ _ _ _ _ cr.1, hP8]; rfl
      clear hBi hBk hS0 hSk hSl hR
      go_wp2_with fail
      refine hB1.mono ?_
      rintro x w5 ⟨v5, rfl, p5, c5, rfl, h5, r5, o5⟩
      obtain ⟨cr5, t5⟩ := cr.only o5 r5
      have br5 := br.tk t5 (by decide) (by decide)
      clear hB1 m2 cr br r5 o5 t5
      obtain ⟨⟨z5, y5⟩, f5, _⟩ := br5.cell (k * 2) (by omega)
      have br6 := br5.put1 (.slice p5 (So k).length c5)
      have bu6 := br5.bru (.slice p5 (So k).length c5) (by omega)
      rw [hsm] at br6 bu6
      obtain ⟨t6, br6⟩ := br6
      have cr6 := cr5.put t6 hgR
      have h6 := h5.tk t6 (by decide)
      have hB3 := hB2 _ cr6.2.1
      have m3 : (w5.setCell ⟨gR, k * 2, none⟩ (.slice p5 (So k).length c5)).cell? ⟨w.heap.size, 3, none⟩ = some (.int .i64 mk) := by rw [cell_of_row _ _ _ _ _ _ cr6.1, hP8]; rfl
      clear hB2 br5 cr5 h5 t6
      go_wp2_with fail
      refine hB3.mono ?_
      rintro x w7 ⟨v7, rfl, p7, c7, rfl, h7, r7, o7⟩
      obtain ⟨cr7, t7⟩ := cr6.only o7 r7
      have br7 := br6.tk t7 (by decide) (by decide)
      have bu7 := bu6.tk t7 (by decide)
      have h67 := h6.tk t7 (by decide)
      clear hB3 m3 cr6 br6 bu6 r7 o7 t7 h6 y5 f5
      obtain ⟨⟨z7, y7⟩, f7, _⟩ := br7.cell (k * 2 + 1) (by omega)
      have br8 := br7.put2 (by rw [hsm]; exact bu7) h67 h7 (by omega)
      rw [hsm, ← HSk.out] at br8
      obtain ⟨t8, br8⟩ := br8
      have cr8 := cr7.put t8 hgR
      clear br7 bu7 cr7 h7 h67 t8
      go_wp2
      go_roundw
      case rel => first | exact ⟨k + 1, by omega, by go_num, cr8, br8⟩ | ((repeat apply Exists.intro); exact ⟨⟨k + 1, by omega, by go_num, cr8, br8⟩, rfl⟩)
      case measure => simp [intOf]; omega
    · obtain rfl : k = n := by omega
      have hsm := hSl.out k
      have hE := rr_err g (Sl k) (Se k) wr cr.2.1
      have hL := rr_left g (Sl k) (Se k) wr cr.2.1
      have hbw := cr.2.2.1
      have hvr := hv.later hbw
      have hBA := br.ba hsm (by omega)
      have hnk : ¬ (k : Int) < (k : Int) := by omega
      clear hBi hBk hS0 hSk hSl
      generalize hEN : Se k = EN at *
      clear hEN
      by_cases he : EN = 0
      · subst he
        obtain ⟨hr1, hr2⟩ := hR.out rfl
        have hcu := hvr.len
        have hcut := hvr.behind (b.length - (Sl k).length) (by omega)
        rw [← hr1] at hcut
        have kc : ∀ w', (Instr.slice 22 (.slice p b.length c) (some (.int .i64 ((b.length : Int) - ((Sl k).length : Int)))) none none).run Try.prog w' = .ok (.slice (cutP p c (b.length - (Sl k).length)) (b.length - (b.length - (Sl k).length)) (c - (b.length - (Sl k).length))) w' := fun w' => run_cut (P := Try.prog) Try.underlying22 s_u8 p b.length c (b.length - (Sl k).length) ((b.length : Int) - ((Sl k).length : Int)) (by omega) (by omega) w'
        have hC := clone_any _ (Sl k) wr hcut (by omega)
        have hrb : ((Sl k).length : Int) ≤ (b.length : Int) := by omega
        have hl1 : b.length - (b.length - (Sl k).length) = (Sl k).length := by omega
        rw [hl1] at hC kc
        generalize cutP p c (b.length - (Sl k).length) = pr at *
        generalize c - (b.length - (Sl k).length) = qr at *
        clear hr1 hR hcut hcu hl1
        go_wp2_with (first | (go_at_call 46; refine hE.mono ?_; rintro e w9 ⟨rfl, hw⟩; have hw2 := hw.symm; clear hw; subst hw2) | (go_at_call 56; refine hL.mono ?_; rintro e w9 ⟨rfl, hw⟩; have hw2 := hw.symm; clear hw; subst hw2) | fail)
        refine hC.mono ?_
        rintro x w10 ⟨p10, c10, rfl, hh10, hb10⟩
        have hBA2 := hBA.later hb10
        have br2 := br.tk (T := 106) (TK.of_below hb10) (by decide) (by decide)
        have hbF := hbw.trans (hb10.mono hbw.size)
        have hsm' : Hid ((S k).length = k) := hsm
        clear hC hE hL kc hBA hsm br
        go_wp2
        go_ret3
        refine ⟨_, _, rfl, ?_, ?_, hbF, fun _ => ⟨g, gR, by show Value.slice (some ⟨gR, 0, none⟩) k k = _; rw [hsm'.out], by rw [hsm'.out]; exact br2, hgR⟩⟩
        · rw [if_pos rfl]; exact hBA2
        · rw [if_pos rfl]; exact hh10
      · have hne : (EN != 0) = true := by simpa using he
        clear hR hsm hBA hL
        go_wp2_with (first | (go_at_call 46; refine hE.mono ?_; rintro e w9 ⟨rfl, hw⟩; have hw2 := hw.symm; clear hw; subst hw2))
        go_ret3
        refine ⟨_, _, rfl, ?_, ?_, hbw, fun h => absurd h he⟩
        · rw [if_neg he]; exact ⟨none, 0, rfl, Nat.le_refl _, Nat.zero_le _, fun h => absurd rfl h⟩
        · rw [if_neg he]; exact HB.nil _

theorem creadK_any (pa pb mi mk pc pd pe pf : Int) (v : Value) (b : List UInt8) (w : World) (hv : HB w v b) (hsz : b.length ≤ 140737488351232) :
    Calls Try.prog 91 #[.agg #[.int .i64 pa, .int .i64 pb, .int .i64 mi, .int .i64 mk, .int .i64 pc, .int .i64 pd, .int .i64 pe, .int .i64 pf], v] w (RdToldK (crS mi mk b).2.2 (crS mi mk b).1 (crS mi mk b).2.1 w) := by
  have l1 : (crU b).2.2.length ≤ b.length := rdU_le b 0 32
  have m1 : ((crU b).2.1 : Int) ≤ 32 := rdU_most b 0 32 (by omega)
  have ls := fun k => bdS_le mi mk (crU b).2.2 (crU b).1 k
  exact creadK_core pa pb mi mk pc pd pe pf v b w hv hsz (crU b).1 (crU b).2.1 (crU b).2.2
    (fun k => (bdS mi mk (crU b).2.2 (crU b).1 k).1) (fun k => (bdS mi mk (crU b).2.2 (crU b).1 k).2.1) (fun k => (rdB (bdS mi mk (crU b).2.2 (crU b).1 k).2.1 (bdS mi mk (crU b).2.2 (crU b).1 k).2.2 mi).2.2)
    (fun k => (bdS mi mk (crU b).2.2 (crU b).1 k).2.2) (fun k => (rdB (bdS mi mk (crU b).2.2 (crU b).1 k).2.1 (bdS mi mk (crU b).2.2 (crU b).1 k).2.2 mi).1)
    (fun k => (rdB (bdS mi mk (crU b).2.2 (crU b).1 k).2.1 (bdS mi mk (crU b).2.2 (crU b).1 k).2.2 mi).2.1)
    (fun k => (rdB (rdB (bdS mi mk (crU b).2.2 (crU b).1 k).2.1 (bdS mi mk (crU b).2.2 (crU b).1 k).2.2 mi).2.2 (rdB (bdS mi mk (crU b).2.2 (crU b).1 k).2.1 (bdS mi mk (crU b).2.2 (crU b).1 k).2.2 mi).1 mk).2.1)
    (fun g w h => ruint_all g b 0 32 w h)
    (fun k g w h => rbytes_all g _ _ _ w h (by have := ls k; omega))
    (fun k g w h => rbytes_all g _ _ _ w h (by have := ls k; have := rdB_le (bdS mi mk (crU b).2.2 (crU b).1 k).2.1 (bdS mi mk (crU b).2.2 (crU b).1 k).2.2 mi; omega))
    ⟨rfl, rfl, rfl⟩ (fun _ => rfl) (fun k => bdS_len mi mk _ _ k) (by omega) (fun h => cr_rest mi mk b h)

end Go.Proofs.Ythkgbgkijdeaoaa

namespace Go.Proofs.Ythkgbgkijdeaoaa
open Go.RowKit

set_option maxRecDepth 100000 in
set_option maxHeartbeats 1000000 in
theorem goon_ok (g : Nat) (x y v : Value) (l : List UInt8) (w : World) (h : w.heap[g]? = some (.cells #[x, y] 63 (0, 0))) (hv : HB w v l) (hsz : l.length ≤ 140737488355328) :
    Calls Try.prog 93 #[.pointer (some ⟨g, 0, none⟩), v, .int .i64 0] w fun e w' => e = .returned (.tuple #[]) ∧ ∃ gc, RF 63 w' g gc v l 0 ∧ Only g w w' ∧ w.heap.size ≤ gc := by
  have H := throw_none w
  have hO := flopen_any v l w hv hsz
  obtain ⟨p, c, rfl⟩ := hv.shape
  go_enter Try.func93, Try.ntmps93
  go_wp2_with fail
  refine H.mono ?_
  rintro e w1 ⟨rfl, rfl⟩
  clear H
  go_wp2_with fail
  refine hO.mono ?_
  rintro e w2 ⟨gc, hg, rfl, hr, hb⟩
  have h2 := (hb.block g (Array.getElem?_eq_some_iff.1 h).1).trans h
  have hlt := (Array.getElem?_eq_some_iff.1 h).1
  clear hO h hv
  have c0 : w2.cell? ⟨g, 0, none⟩ = some x := by rw [cell_of_row _ _ _ _ _ _ h2]; rfl
  have c1 : w2.cell? ⟨g, 1, none⟩ = some y := by rw [cell_of_row _ _ _ _ _ _ h2]; rfl
  have f0 : ∀ i, w2.frozen? ⟨g, i, none⟩ = false := fun i => by simp [World.frozen?, h2]
  have g0 := f0 0
  have g1 := f0 1
  have ho : Only g w2 ((w2.setCell ⟨g, 0, none⟩ (.slice p l.length c)).setCell ⟨g, 1, none⟩ (.pointer (some ⟨gc, 0, none⟩))) := ((Only.refl _ w2).setCell _ _).setCell _ _
  have t : TK 63 w2 _ := TK.of_only ho h2
  have hr2 := hr.tk t (by decide) (by decide)
  have h3 : (w2.setCell ⟨g, 0, none⟩ (.slice p l.length c)).heap[g]? = some (.cells #[.slice p l.length c, y] 63 (0, 0)) := by rw [heap_setCell_same w2 g 0 _ _ _ h2]; rfl
  have h4 : ((w2.setCell ⟨g, 0, none⟩ (.slice p l.length c)).setCell ⟨g, 1, none⟩ (.pointer (some ⟨gc, 0, none⟩))).heap[g]? = some (.cells #[.slice p l.length c, .pointer (some ⟨gc, 0, none⟩)] 63 (0, 0)) := by rw [heap_setCell_same _ g 1 _ _ _ h3]; rfl
  have ho2 : Only g w1 _ := (Only.of_below hb (by omega)).trans ho
  clear f0 hr h2 h3
  go_wp2
  go_end0
  exact ⟨rfl, gc, ⟨h4, hr2⟩, ho2, hg⟩

set_option maxRecDepth 100000 in
set_option maxHeartbeats 1000000 in
theorem goon_bad (e : Int) (he : e ≠ 0) (u v : Value) (w : World) :
    Calls Try.prog 93 #[u, v, .int .i64 e] w fun x w' => x = .panicked (thrown e) ∧ w' = w := by
  have H := throw_some e he w
  go_enter Try.func93, Try.ntmps93
  go_wp2_with fail
  refine H.mono ?_
  rintro x w1 ⟨rfl, rfl⟩
  go_wp2
  exact ⟨rfl, rfl, rfl⟩

theorem par_cellsA {w : World} {g : Nat} {v0 v1 v2 v3 v4 v5 v6 v7 : Value} {T : TypeId} (h : w.heap[g]? = some (.cells #[v0, v1, v2, v3, v4, v5, v6, v7] T (0, 0))) :
    w.cell? ⟨g, 0, none⟩ = some v0 ∧ w.cell? ⟨g, 1, none⟩ = some v1 ∧ w.cell? ⟨g, 2, none⟩ = some v2 ∧ w.cell? ⟨g, 3, none⟩ = some v3 ∧ w.cell? ⟨g, 4, none⟩ = some v4 ∧ w.cell? ⟨g, 5, none⟩ = some v5 ∧ w.cell? ⟨g, 6, none⟩ = some v6 ∧ w.cell? ⟨g, 7, none⟩ = some v7 := by
  refine ⟨?_, ?_, ?_, ?_, ?_, ?_, ?_, ?_⟩ <;> (rw [cell_of_row _ _ _ _ _ _ h]; rfl)

/-- Blocks of other types than a reader's, a codec's reader's and a request's stay. -/
def TKQ (w w' : World) : Prop := ∀ (k : Nat) cur t fr, w.heap[k]? = some (.cells cur t fr) → t ≠ 63 → t ≠ 106 → t ≠ 25 → w'.heap[k]? = some (.cells cur t fr)
theorem TKQ.of_below {w w' : World} (hb : Below w.heap.size w w') : TKQ w w' := fun k _ _ _ hk _ _ _ => (hb.block k (Array.getElem?_eq_some_iff.1 hk).1).trans hk
theorem TKQ.trans {a b c : World} (h : TKQ a b) (k : TKQ b c) : TKQ a c := fun i cur t fr hi h0 h1 h2 => k i cur t fr (h i cur t fr hi h0 h1 h2) h0 h1 h2
theorem TKQ.of_tkr {w w' : World} (h : TKR w w') : TKQ w w' := fun k cur t fr hk _ h1 h2 => h k cur t fr hk h1 h2
theorem TKQ.of_tk {w w' : World} (h : TK 63 w w') : TKQ w w' := fun k cur t fr hk h0 _ _ => h k cur t fr hk h0

/-- What the reader's batch does. -/
def GotB (base g gA : Nat) (cs : Array Value) (e : Int) (bs : List (List UInt8 × List UInt8)) (l : List UInt8) (w : World) (x : Ending) (w' : World) : Prop :=
  Below base w w' ∧ TKQ w w' ∧ ((e = 0 ∧ x = .returned (.tuple #[]) ∧ (∃ gc v, RF 63 w' g gc v l 0) ∧ ∃ u, BA w' u bs ∧ AB w' gA (cs.setIfInBounds 9 u)) ∨ (e ≠ 0 ∧ x = .panicked (thrown e) ∧ AB w' gA cs))

theorem crS_le (mi mk : Int) (b : List UInt8) : (crS mi mk b).2.1.length ≤ b.length ∧ (crS mi mk b).1.length ≤ 32 := by
  have l1 : (crU b).2.2.length ≤ b.length := rdU_le b 0 32
  have m1 : ((crU b).2.1 : Int) ≤ 32 := rdU_most b 0 32 (by omega)
  have l2 := bdS_le mi mk (crU b).2.2 (crU b).1 (crU b).2.1
  have l3 := bdS_len mi mk (crU b).2.2 (crU b).1 (crU b).2.1
  unfold crS
  omega

set_option maxRecDepth 100000 in
set_option maxHeartbeats 4000000 in
theorem rbatch_any (base g gc gA : Nat) (p : Option Addr) (n c : Nat) (b l : List UInt8) (v9 : Value) (cs : Array Value) (w : World) (h : RF 63 w g gc (.slice p n c) l 0) (hb : HB w (.slice p n c) b) (hl : l.length ≤ b.length) (hdr : b.drop (b.length - l.length) = l) (hsz : b.length ≤ 140737488351232)
    (hA : AB w gA cs) (h9 : cs[9]? = some v9) (hg : base ≤ g) (ha : base ≤ gA) :
    Calls Try.prog 89 #[.pointer (some ⟨g, 0, none⟩), .pointer (some ⟨gA, 9, none⟩)] w (GotB base g gA cs (crS 24 48 l).2.2 (crS 24 48 l).1 (crS 24 48 l).2.1 w) := by
  have ltg : g < w.heap.size := (Array.getElem?_eq_some_iff.1 h.1).1
  have bA := (Below.refl w.heap.size w).alloc (Nat.le_refl _) (.cells #[.int .i64 0, .int .i64 0, .int .i64 24, .int .i64 48, .int .i64 0, .int .i64 0, .int .i64 0, .int .i64 0] 73)
  have aA := heap_alloc_new w (.cells #[.int .i64 0, .int .i64 0, .int .i64 24, .int .i64 48, .int .i64 0, .int .i64 0, .int .i64 0, .int .i64 0] 73)
  obtain ⟨wA, hWA⟩ : ∃ x, x = w.alloc (.cells #[.int .i64 0, .int .i64 0, .int .i64 24, .int .i64 48, .int .i64 0, .int .i64 0, .int .i64 0, .int .i64 0] 73) := ⟨_, rfl⟩
  have HWA : Hid (wA = w.alloc (.cells #[.int .i64 0, .int .i64 0, .int .i64 24, .int .i64 48, .int .i64 0, .int .i64 0, .int .i64 0, .int .i64 0] 73)) := hWA
  rw [← hWA] at bA aA
  have hr := h.later bA
  have hbA := hb.later bA
  have hL := flleft_any 63 g gc p n c b l wA.drew hr hbA hl
  have hlsz : l.length ≤ 140737488351232 := by omega
  rw [hdr] at hL
  have hS := par_cellsA aA
  have hSd := par_cellsA (w := wA.drew) aA
  have hx0 := h.1
  rw [hWA] at hL hS hSd
  clear hWA hb hbA hr hdr
  obtain ⟨R, hR⟩ : ∃ R, R = GotB base g gA cs (crS 24 48 l).2.2 (crS 24 48 l).1 (crS 24 48 l).2.1 w := ⟨_, rfl⟩
  have HR : Hid (R = GotB base g gA cs (crS 24 48 l).2.2 (crS 24 48 l).1 (crS 24 48 l).2.1 w) := hR
  rw [← hR]
  clear hR
  go_enter Try.func89, Try.ntmps89
  go_wp2
  go_region_held3 (fun w' => w'.cell? ⟨w.heap.size, 0, none⟩ = some (.int .i64 0) ∧ w'.cell? ⟨w.heap.size, 1, none⟩ = some (.int .i64 0) ∧ w'.cell? ⟨w.heap.size, 2, none⟩ = some (.int .i64 24) ∧ w'.cell? ⟨w.heap.size, 3, none⟩ = some (.int .i64 48) ∧ w'.cell? ⟨w.heap.size, 4, none⟩ = some (.int .i64 0) ∧ w'.cell? ⟨w.heap.size, 5, none⟩ = some (.int .i64 0) ∧ w'.cell? ⟨w.heap.size, 6, none⟩ = some (.int .i64 0) ∧ w'.cell? ⟨w.heap.size, 7, none⟩ = some (.int .i64 0)) (first | with_reducible exact hS | with_reducible exact hSd | with_reducible exact hS1 | with_reducible exact hS2) (first
    | (go_at_call 92; refine hL.mono ?_; rintro e w1 ⟨v, rfl, hv, hb1⟩; rw [← HWA.out] at hb1; have hb1' := (Below.drew (Below.refl wA.heap.size wA)).trans hb1; have a1 := (hb1'.block _ (Array.getElem?_eq_some_iff.1 aA).1).trans aA; have hS1 := par_cellsA a1; have hC := creadK_any 0 0 24 48 0 0 0 0 v l w1 hv hlsz)
    | (go_at_call 91; refine hC.mono ?_; rintro e w2 ⟨u, v2, rfl, hu, hv2, hb2, hx2⟩; have a2 := (hb2.block _ (Array.getElem?_eq_some_iff.1 a1).1).trans a1; have hS2 := par_cellsA a2))
  have b02 : Below w.heap.size w w2 := bA.trans ((hb1'.trans (hb2.mono hb1'.size)).mono bA.size)
  have hg2 := (b02.block g ltg).trans hx0
  have hA2 := hA.later b02
  obtain ⟨q2, m2, d2, rfl⟩ : ∃ q2 m2 d2, v2 = .slice q2 m2 d2 := by obtain ⟨q, d, e⟩ := hv2.shape; exact ⟨_, _, _, e⟩
  have bs2 := b02.mono (Nat.le_trans hg (Nat.le_of_lt ltg))
  have cl := crS_le 24 48 l
  clear HWA bA aA hL hS hSd hC hS1 hS2 a1 a2 hb1 hb1' hv hb2 h hA hx0
  generalize (crS 24 48 l).2.2 = e at *
  generalize (crS 24 48 l).2.1 = l2 at *
  generalize (crS 24 48 l).1 = bs at *
  by_cases he : e = 0
  · subst he
    obtain ⟨g0, gR, rfl, br, _⟩ := hx2 rfl
    rw [if_pos rfl] at hv2 hu
    clear hx2
    have H := goon_ok g _ _ _ l2 w2 hg2 hv2 (by omega)
    go_wp2_with fail
    refine H.mono ?_
    rintro x w3 ⟨rfl, gc3, hr3, ho, hgc⟩
    have t3 : TK 63 w2 w3 := TK.of_only ho hg2
    have hA3 : AB w3 gA cs := t3 _ _ _ _ hA2 (by decide)
    have br3 := br.tk t3 (by decide) (by decide)
    have c9 := hA3.cell h9
    have f9 := hA3.free 9
    have b3 := bs2.trans (ho.below hg)
    have hr4 := hr3.put (by decide) (i := 9) hA3 (.slice (some ⟨gR, 0, none⟩) bs.length bs.length)
    have hA4 := hA3.put 9 (.slice (some ⟨gR, 0, none⟩) bs.length bs.length)
    have t4 : TK 25 w3 (w3.setCell ⟨gA, 9, none⟩ (.slice (some ⟨gR, 0, none⟩) bs.length bs.length)) := TK.of_only ((Only.refl gA w3).setCell 9 _) hA3
    have br4 := br3.tk t4 (by decide) (by decide)
    have b4 := b3.setCell (p := ⟨gA, 9, none⟩) ha (.slice (some ⟨gR, 0, none⟩) bs.length bs.length)
    have k4 : TKQ w _ := ((TKQ.of_below b02).trans (TKQ.of_tk t3)).trans (TKQ.of_tkr (TKR.put (i := 9) hA3 (.slice (some ⟨gR, 0, none⟩) bs.length bs.length)))
    have hba := br4.ba rfl (by have := cl.2; omega)
    clear H hr3 br br3 br4 hA3 t3 t4 hu hv2
    go_wp2
    go_end0
    rw [HR.out]
    exact ⟨b4, k4, .inl ⟨rfl, rfl, ⟨gc3, _, hr4⟩, _, hba, hA4⟩⟩
  · have H := goon_bad e he (.pointer (some ⟨g, 0, none⟩)) (.slice q2 m2 d2) w2
    go_wp2_with fail
    refine H.mono ?_
    rintro x w3 ⟨rfl, rfl⟩
    go_wp2
    refine ⟨rfl, ?_⟩
    rw [HR.out]
    exact ⟨bs2, TKQ.of_below b02, .inr ⟨he, rfl, hA2⟩⟩

end Go.Proofs.Ythkgbgkijdeaoaa

namespace Go.Proofs.Ythkgbgkijdeaoaa
open Go.RowKit

/-- The first of two errors. -/
def andE (a b : Int) : Int := if a = 0 then b else a
theorem andE_pos {a b : Int} (h : a = 0) : andE a b = b := if_pos h
theorem andE_neg {a b : Int} (h : a ≠ 0) : andE a b = a := if_neg h
theorem andE_z {a b : Int} (h : andE a b = 0) : a = 0 ∧ b = 0 := by
  unfold andE at h
  split at h
  · exact ⟨by assumption, h⟩
  · contradiction

/-- A request, but for its kind. -/
structure AP where
  id : List UInt8
  fr : Nat
  to : Nat
  ti : Nat
  so : Bool
  ep : Nat
  ix : Nat
  li : Nat
  bs : List (List UInt8 × List UInt8)
def AP0 : AP := ⟨[], 0, 0, 0, false, 0, 0, 0, []⟩

/-- Some numbers, one behind the other, into a request's cells. -/
def numsF : List Nat → List UInt8 → Array Value → Int × List UInt8 × Array Value
  | [], l, cs => (0, l, cs)
  | i :: r, l, cs => (andE (uintF l 2147483648).1 (numsF r (uintF l 2147483648).2.2 (cs.setIfInBounds i (.int .i64 ((uintF l 2147483648).2.1 : Int)))).1, (numsF r (uintF l 2147483648).2.2 (cs.setIfInBounds i (.int .i64 ((uintF l 2147483648).2.1 : Int)))).2)

/-- So many numbers, one behind the other. -/
def numsG : Nat → List UInt8 → Int × List UInt8 × List Nat
  | 0, l => (0, l, [])
  | n + 1, l => (andE (uintF l 2147483648).1 (numsG n (uintF l 2147483648).2.2).1, (numsG n (uintF l 2147483648).2.2).2.1, (uintF l 2147483648).2.1 :: (numsG n (uintF l 2147483648).2.2).2.2)

def dec1 (l : List UInt8) : Int × List UInt8 × AP := ((crS 24 48 l).2.2, (crS 24 48 l).2.1, { AP0 with bs := (crS 24 48 l).1 })
def dec2 (l : List UInt8) : Int × List UInt8 × AP := ((uintF l 1125899906842624).1, (uintF l 1125899906842624).2.2, { AP0 with ti := (uintF l 1125899906842624).2.1 })
def dec3 (l : List UInt8) : Int × List UInt8 × AP := ((andE (bytesF l 24).1 (uintF (bytesF l 24).2.2 2147483648).1), (uintF (bytesF l 24).2.2 2147483648).2.2, { AP0 with id := (bytesF l 24).2.1, to := (uintF (bytesF l 24).2.2 2147483648).2.1 })
def dec4 (l : List UInt8) : Int × List UInt8 × AP := ((andE (bytesF l 24).1 (andE (uintF (bytesF l 24).2.2 1125899906842624).1 (uintF (uintF (bytesF l 24).2.2 1125899906842624).2.2 2147483648).1)), (uintF (uintF (bytesF l 24).2.2 1125899906842624).2.2 2147483648).2.2, { AP0 with id := (bytesF l 24).2.1, ti := (uintF (bytesF l 24).2.2 1125899906842624).2.1, to := (uintF (uintF (bytesF l 24).2.2 1125899906842624).2.2 2147483648).2.1 })
def dec5 (l : List UInt8) : Int × List UInt8 × AP := ((andE (bytesF l 24).1 (numsG 2 (bytesF l 24).2.2).1), (numsG 2 (bytesF l 24).2.2).2.1, { AP0 with id := (bytesF l 24).2.1, fr := (numsG 2 (bytesF l 24).2.2).2.2.getD 0 0, to := (numsG 2 (bytesF l 24).2.2).2.2.getD 1 0 })
def dec6a (l : List UInt8) : Int × List UInt8 × AP := ((andE (numsG 2 l).1 (andE (flagF (numsG 2 l).2.1).1 (andE (bytesF (flagF (numsG 2 l).2.1).2.2 24).1 (uintF (bytesF (flagF (numsG 2 l).2.1).2.2 24).2.2 2147483648).1))), (uintF (bytesF (flagF (numsG 2 l).2.1).2.2 24).2.2 2147483648).2.2, { AP0 with fr := (numsG 2 l).2.2.getD 0 0, to := (numsG 2 l).2.2.getD 1 0, so := (flagF (numsG 2 l).2.1).2.1, id := (bytesF (flagF (numsG 2 l).2.1).2.2 24).2.1, li := (uintF (bytesF (flagF (numsG 2 l).2.1).2.2 24).2.2 2147483648).2.1 })
def dec6b (l : List UInt8) : Int × List UInt8 × AP := ((andE (numsG 2 l).1 (andE (flagF (numsG 2 l).2.1).1 (uintF (flagF (numsG 2 l).2.1).2.2 2147483648).1)), (uintF (flagF (numsG 2 l).2.1).2.2 2147483648).2.2, { AP0 with fr := (numsG 2 l).2.2.getD 0 0, to := (numsG 2 l).2.2.getD 1 0, so := (flagF (numsG 2 l).2.1).2.1, li := (uintF (flagF (numsG 2 l).2.1).2.2 2147483648).2.1 })
def dec7 (l : List UInt8) : Int × List UInt8 × AP := ((numsG 5 l).1, (numsG 5 l).2.1, { AP0 with fr := (numsG 5 l).2.2.getD 0 0, to := (numsG 5 l).2.2.getD 1 0, ep := (numsG 5 l).2.2.getD 2 0, ix := (numsG 5 l).2.2.getD 3 0, li := (numsG 5 l).2.2.getD 4 0 })
def dec10 (l : List UInt8) : Int × List UInt8 × AP := ((andE (bytesF l 24).1 (numsG 3 (bytesF l 24).2.2).1), (numsG 3 (bytesF l 24).2.2).2.1, { AP0 with id := (bytesF l 24).2.1, fr := (numsG 3 (bytesF l 24).2.2).2.2.getD 0 0, to := (numsG 3 (bytesF l 24).2.2).2.2.getD 1 0, li := (numsG 3 (bytesF l 24).2.2).2.2.getD 2 0 })
def dec6 (l : List UInt8) : Int × List UInt8 × AP := if (flagF (numsG 2 l).2.1).2.1 = true then dec6a l else dec6b l

/-- What a kind has. -/
def decB (k : Nat) (l : List UInt8) : Int × List UInt8 × AP :=
  if k = 1 then dec1 l else if k = 2 then dec2 l else if k = 3 then dec3 l else if k = 4 then dec4 l else if k = 5 then dec5 l else if k = 6 then dec6 l else if k = 7 then dec7 l else if k = 10 then dec10 l else if k = 8 ∨ k = 9 then (0, l, AP0) else (87, l, AP0)

end Go.Proofs.Ythkgbgkijdeaoaa
