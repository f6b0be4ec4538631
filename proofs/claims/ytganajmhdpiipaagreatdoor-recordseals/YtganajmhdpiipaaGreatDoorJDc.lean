/- What this text proves: the walk of record.Decode over this program: the record of bytes, or the error. What this text proves: plain facts (no program): what was put is read, with anything behind; what was read, put, is the bytes that were read. What this text holds: plain facts (and Decode's contract in one row): what was written of a record is read as it was; what was read, written, is what was read. -/
import Derived.Test.YtganajmhdpiipaaGreatDoorJRd
import Derived.Test.YtganajmhdpiipaaGreatDoorRcCan
import Derived.Deep.AppendLies
import Derived.Test.YtganajmhdpiipaaGreatDoorJEn
namespace Go.Proofs.YtganajmhdpiipaaGreatDoor
open Go.RowKit

/-- What is read of a record's bytes: it, what is left, the error. -/
def dcE (b : List UInt8) : Int × Nat × List UInt8 := rdU b 0 255
def dcT (b : List UInt8) : Int × Nat × List UInt8 := rdU (dcE b).2.2 (dcE b).1 1125899906842624
def dcTr (size : Int) (b : List UInt8) : Int × List UInt8 × List UInt8 := rdB (dcT b).2.2 (dcT b).1 size
def dcC (size : Int) (b : List UInt8) : Int × Nat × List UInt8 := rdU (dcTr size b).2.2 (dcTr size b).1 32
def dcLi (size : Int) (b : List UInt8) : Int × List UInt8 × List UInt8 := rdB (dcC size b).2.2 (dcC size b).1 size
def dcLk (size : Int) (b : List UInt8) : List (List UInt8) × List UInt8 × Int := lkS size (dcLi size b).2.2 (dcLi size b).1 (linksL (dcE b).2.1).length
def dcR (size : Int) (b : List UInt8) : Rc := ⟨((dcE b).2.1 : Int), ((dcT b).2.1 : Int), ((dcC size b).2.1 : Int), (dcTr size b).2.1, (dcLi size b).2.1, (dcLk size b).1⟩
/-- Whether the bytes are a record's. -/
def dcOk (size : Int) (b : List UInt8) : Bool := decide (endF (dcLk size b).2.1.length (dcLk size b).2.2 = 0) && canB size (dcR size b)

theorem cf_bytes (args : Array Value) (w : World) : (callFunc 24 args).run Tryz.prog w = .ok (.enter 24 args) w := by
  unfold callFunc
  go_simp
  rw [if_neg (by decide +kernel), if_neg (by decide +kernel)]

/-- Under way: the answer's block, the record's, the reader. -/
def DS (w0 : World) (r0 g gs : Nat) (cs : Array Value) (l : List UInt8) (e : Int) (w : World) : Prop :=
  (w.heap[r0]? = some (.cells #[.int .i64 0, .int .i64 0, .slice none 0 0, .int .i64 0, .slice none 0 0, .slice none 0 0] 25 (0, 0)) ∧ w.heap[gs]? = some (.cells cs 25 (0, 0)) ∧ RR w g l e ∧ Below w0.heap.size w0 w) ∧ r0 ≠ gs ∧ w0.heap.size ≤ r0 ∧ w0.heap.size ≤ g ∧ w0.heap.size ≤ gs

theorem DS.ne {w0 w : World} {r0 g gs : Nat} {cs : Array Value} {l : List UInt8} {e : Int} (h : DS w0 r0 g gs cs l e w) : g ≠ gs ∧ g ≠ r0 ∧ g < w.heap.size ∧ gs < w.heap.size ∧ r0 < w.heap.size := by
  obtain ⟨⟨h1, h2, h3, h4⟩, _⟩ := h
  obtain ⟨c, f, hg⟩ := h3.typed
  refine ⟨?_, ?_, (Array.getElem?_eq_some_iff.1 hg).1, (Array.getElem?_eq_some_iff.1 h2).1, (Array.getElem?_eq_some_iff.1 h1).1⟩
  · rintro rfl
    rw [hg] at h2
    simp at h2
  · rintro rfl
    rw [hg] at h1
    simp at h1

theorem DS.only {w0 w w' : World} {r0 g gs : Nat} {cs : Array Value} {l l' : List UInt8} {e e' : Int} (h : DS w0 r0 g gs cs l e w) (ho : Only g w w') (hr : RR w' g l' e') : DS w0 r0 g gs cs l' e' w' := by
  obtain ⟨n1, n2, n3, n4, n5⟩ := h.ne
  obtain ⟨⟨h1, h2, h3, h4⟩, h5, h6, h7, h8⟩ := h
  exact ⟨⟨(ho.block r0 (fun e => n2 e.symm) n5).trans h1, (ho.block gs (fun e => n1 e.symm) n4).trans h2, hr, h4.trans (ho.below h7)⟩, h5, h6, h7, h8⟩

theorem DS.later {w0 w w' : World} {r0 g gs : Nat} {cs : Array Value} {l : List UInt8} {e : Int} (h : DS w0 r0 g gs cs l e w) (hb : Below w.heap.size w w') : DS w0 r0 g gs cs l e w' := by
  obtain ⟨n1, n2, n3, n4, n5⟩ := h.ne
  obtain ⟨⟨h1, h2, h3, h4⟩, h5⟩ := h
  exact ⟨⟨(hb.block r0 n5).trans h1, (hb.block gs n4).trans h2, h3.later hb, h4.trans (hb.mono h4.size)⟩, h5⟩

theorem DS.put {w0 w : World} {r0 g gs : Nat} {cs : Array Value} {l : List UInt8} {e : Int} (h : DS w0 r0 g gs cs l e w) (i : Nat) (v : Value) : DS w0 r0 g gs (cs.setIfInBounds i v) l e (w.setCell ⟨gs, i, none⟩ v) ∧ TK 25 w (w.setCell ⟨gs, i, none⟩ v) := by
  obtain ⟨n1, n2, n3, n4, n5⟩ := h.ne
  obtain ⟨⟨h1, h2, h3, h4⟩, h5, h6, h7, h8⟩ := h
  have ho : Only gs w (w.setCell ⟨gs, i, none⟩ v) := (Only.refl gs w).setCell i v
  have t : TK 25 w (w.setCell ⟨gs, i, none⟩ v) := TK.of_only ho h2
  refine ⟨⟨⟨(ho.block r0 h5 n5).trans h1, ?_, h3.tk t (by decide) (by decide), h4.trans (ho.below h8)⟩, h5, h6, h7, h8⟩, t⟩
  rw [heap_setCell_same w gs i _ _ _ h2]

theorem DS.grown {w0 w w' : World} {r0 g gs base n : Nat} {cs : Array Value} {l : List UInt8} {e : Int} {y : Value} {vs : List Value} (h : DS w0 r0 g gs cs l e w) (hr : w.ownsRow base 22 1 y n vs) (hb : w0.heap.size ≤ base) (hg : w.grownBy w' y.ownBlock) : DS w0 r0 g gs cs l e w' := by
  have t := TK.of_grown hr hg
  obtain ⟨⟨h1, h2, h3, h4⟩, h5⟩ := h
  exact ⟨⟨t r0 _ _ _ h1 (by decide), t gs _ _ _ h2 (by decide), h3.tk t (by decide) (by decide), h4.grown hg h4.size (fun k hk => by have := (hr.lt k hk).1; omega)⟩, h5⟩

theorem DS.cells {w0 w : World} {r0 g gs : Nat} {a b c d e f : Value} {l : List UInt8} {er : Int} (h : DS w0 r0 g gs #[a, b, c, d, e, f] l er w) : (w.cell? ⟨gs, 0, none⟩ = some a ∧ w.cell? ⟨gs, 1, none⟩ = some b ∧ w.cell? ⟨gs, 2, none⟩ = some c ∧ w.cell? ⟨gs, 3, none⟩ = some d ∧ w.cell? ⟨gs, 4, none⟩ = some e ∧ w.cell? ⟨gs, 5, none⟩ = some f) ∧ ∀ i, w.frozen? ⟨gs, i, none⟩ = false := by
  obtain ⟨⟨h1, h2, h3, h4⟩, _⟩ := h
  refine ⟨⟨?_, ?_, ?_, ?_, ?_, ?_⟩, fun i => by simp [World.frozen?, h2]⟩ <;> (rw [cell_of_row _ _ _ _ _ _ h2]; rfl)

theorem DS.zero {w0 w : World} {r0 g gs : Nat} {cs : Array Value} {l : List UInt8} {er : Int} (h : DS w0 r0 g gs cs l er w) : (w.cell? ⟨r0, 0, none⟩ = some (.int .i64 0) ∧ w.cell? ⟨r0, 1, none⟩ = some (.int .i64 0) ∧ w.cell? ⟨r0, 2, none⟩ = some (.slice none 0 0) ∧ w.cell? ⟨r0, 3, none⟩ = some (.int .i64 0) ∧ w.cell? ⟨r0, 4, none⟩ = some (.slice none 0 0) ∧ w.cell? ⟨r0, 5, none⟩ = some (.slice none 0 0)) ∧ ∀ i, w.frozen? ⟨r0, i, none⟩ = false := by
  obtain ⟨⟨h1, h2, h3, h4⟩, _⟩ := h
  refine ⟨⟨?_, ?_, ?_, ?_, ?_, ?_⟩, fun i => by simp [World.frozen?, h1]⟩ <;> (rw [cell_of_row _ _ _ _ _ _ h1]; rfl)

/-- What Decode answers, of what was read. -/
def DecTold (ok : Bool) (r : Rc) (w : World) (x : Ending) (w' : World) : Prop :=
  (ok = false → x = .returned (.tuple #[.agg #[.int .i64 0, .int .i64 0, .slice none 0 0, .int .i64 0, .slice none 0 0, .slice none 0 0], .int .i64 5])) ∧
  (ok = true → ∃ tv lv kv, x = .returned (.tuple #[.agg #[.int .i64 r.e, .int .i64 r.t, tv, .int .i64 r.c, lv, kv], .int .i64 0]) ∧ HB w' tv r.tr ∧ HB w' lv r.li ∧ PA w' kv r.lk) ∧ Below w.heap.size w w'

set_option maxRecDepth 100000 in
set_option maxHeartbeats 8000000 in
theorem decode_core (size : Int) (v : Value) (b : List UInt8) (w : World) (hv : HB w v b) (hsz : b.length ≤ 140737488355000) (hTD : TD w)
    (e1 e2 e3 e4 e5 : Int) (n1 n2 n4 N : Nat) (r1 r2 r3 t3 r4 r5 t5 : List UInt8) (S : Nat → List (List UInt8)) (Sl : Nat → List UInt8) (Se : Nat → Int) (So : Nat → List UInt8)
    (hU1 : ∀ g w, RR w g b 0 → Calls Tryz.prog 45 #[.pointer (some ⟨g, 0, none⟩), .int .i64 255] w fun x w' => x = .returned (.int .i64 (n1 : Int)) ∧ RR w' g r1 e1 ∧ Only g w w')
    (hU2 : ∀ g w, RR w g r1 e1 → Calls Tryz.prog 45 #[.pointer (some ⟨g, 0, none⟩), .int .i64 1125899906842624] w fun x w' => x = .returned (.int .i64 (n2 : Int)) ∧ RR w' g r2 e2 ∧ Only g w w')
    (hB3 : ∀ g w, RR w g r2 e2 → Calls Tryz.prog 24 #[.pointer (some ⟨g, 0, none⟩), .int .i64 size] w fun x w' => ∃ v, x = .returned v ∧ ∃ p c, v = .slice p t3.length c ∧ HBN w' g (.slice p t3.length c) t3 ∧ RR w' g r3 e3 ∧ Only g w w')
    (hU4 : ∀ g w, RR w g r3 e3 → Calls Tryz.prog 45 #[.pointer (some ⟨g, 0, none⟩), .int .i64 32] w fun x w' => x = .returned (.int .i64 (n4 : Int)) ∧ RR w' g r4 e4 ∧ Only g w w')
    (hB5 : ∀ g w, RR w g r4 e4 → Calls Tryz.prog 24 #[.pointer (some ⟨g, 0, none⟩), .int .i64 size] w fun x w' => ∃ v, x = .returned v ∧ ∃ p c, v = .slice p t5.length c ∧ HBN w' g (.slice p t5.length c) t5 ∧ RR w' g r5 e5 ∧ Only g w w')
    (hBk : Hid (∀ k g w, RR w g (Sl k) (Se k) → Calls Tryz.prog 24 #[.pointer (some ⟨g, 0, none⟩), .int .i64 size] w fun x w' => ∃ v, x = .returned v ∧ ∃ p c, v = .slice p (So k).length c ∧ HBN w' g (.slice p (So k).length c) (So k) ∧ RR w' g (Sl (k + 1)) (Se (k + 1)) ∧ Only g w w'))
    (hS0 : Hid (S 0 = [] ∧ Sl 0 = r5 ∧ Se 0 = e5)) (hSk : Hid (∀ k, S (k + 1) = S k ++ [So k])) (hSl : Hid (∀ k, (S k).length = k)) (hN : Hid (N = (linksL n1).length)) (hn1 : n1 ≤ 255) (hN63 : N ≤ 63) :
    Calls Tryz.prog 23 #[.int .i64 size, v] w (DecTold (decide (endF (Sl N).length (Se N) = 0) && canB size ⟨(n1 : Int), (n2 : Int), (n4 : Int), t3, t5, S N⟩) ⟨(n1 : Int), (n2 : Int), (n4 : Int), t3, t5, S N⟩ w) := by
  have bA := (Below.refl w.heap.size w).alloc (Nat.le_refl _) (.cells #[.int .i64 0, .int .i64 0, .slice none 0 0, .int .i64 0, .slice none 0 0, .slice none 0 0] 25)
  have gA := heap_alloc_new w (.cells #[.int .i64 0, .int .i64 0, .slice none 0 0, .int .i64 0, .slice none 0 0, .slice none 0 0] 25)
  have hO := open_any v b _ (hv.later bA) (by omega)
  obtain ⟨p, c, rfl⟩ := hv.shape
  clear hv
  go_enter Tryz.func23, Tryz.ntmps23
  go_wp2_with fail
  obtain ⟨V, hV⟩ : ∃ V, V = w.alloc (.cells #[.int .i64 0, .int .i64 0, .slice none 0 0, .int .i64 0, .slice none 0 0, .slice none 0 0] 25) := ⟨_, rfl⟩
  rw [← hV] at bA gA hO
  try rw [← hV]
  refine hO.mono ?_
  rintro x w2 ⟨g, hg, rfl, x2, hb2⟩
  have b2 := bA.trans (hb2.mono bA.size)
  have g2 := (hb2.block _ (Array.getElem?_eq_some_iff.1 gA).1).trans gA
  have hr0 : w.heap.size < w2.heap.size := (Array.getElem?_eq_some_iff.1 g2).1
  have hgw : w.heap.size ≤ g := by have := (Array.getElem?_eq_some_iff.1 gA).1; omega
  have bC := (Below.refl w2.heap.size w2).alloc (Nat.le_refl _) (.cells #[.int .i64 0, .int .i64 0, .slice none 0 0, .int .i64 0, .slice none 0 0, .slice none 0 0] 25)
  have d2 : DS w w.heap.size g w2.heap.size #[.int .i64 0, .int .i64 0, .slice none 0 0, .int .i64 0, .slice none 0 0, .slice none 0 0] b 0 (w2.alloc (.cells #[.int .i64 0, .int .i64 0, .slice none 0 0, .int .i64 0, .slice none 0 0, .slice none 0 0] 25)) :=
    ⟨⟨(bC.block _ hr0).trans g2, heap_alloc_new w2 _, x2.later bC, b2.trans (bC.mono b2.size)⟩, by omega, Nat.le_refl _, hgw, by omega⟩
  clear hO hb2 b2 g2 bA gA x2 hV bC hg hgw
  have hU := hU1 g _ d2.1.2.2.1
  clear hU1
  go_wp2_with fail
  refine hU.mono ?_
  rintro x w3 ⟨rfl, r3', o3⟩
  have d3 := d2.only o3 r3'
  generalize w2.heap.size = gs at *
  clear hU d2 r3' o3
  obtain ⟨⟨c0, c1, c2, c3, c4, c5⟩, fz⟩ := d3.cells
  have z0 := fz 0
  obtain ⟨d4, t4⟩ := d3.put 0 (.int .i64 (n1 : Int))
  have hU := hU2 g _ d4.1.2.2.1
  clear hU2 fz t4
  go_wp2_with fail
  refine hU.mono ?_
  rintro x w5 ⟨rfl, r5', o5⟩
  have d5 := d4.only o5 r5'
  clear hU d4 d3 r5' o5 c0 c1 c2 c3 c4 c5 z0
  obtain ⟨⟨c0, c1, c2, c3, c4, c5⟩, fz⟩ := DS.cells (a := .int .i64 (n1 : Int)) (b := .int .i64 0) (c := .slice none 0 0) (d := .int .i64 0) (e := .slice none 0 0) (f := .slice none 0 0) d5
  have z1 := fz 1
  obtain ⟨d6, t6⟩ := d5.put 1 (.int .i64 (n2 : Int))
  have hU := hB3 g _ d6.1.2.2.1
  clear hB3 fz t6
  go_wp2_with fail
  refine hU.mono ?_
  rintro x w7 ⟨v7, rfl, p7, q7, rfl, h7, r7', o7⟩
  have d7 := d6.only o7 r7'
  clear hU d6 d5 r7' o7 c0 c1 c2 c3 c4 c5 z1
  obtain ⟨⟨c0, c1, c2, c3, c4, c5⟩, fz⟩ := DS.cells (a := .int .i64 (n1 : Int)) (b := .int .i64 (n2 : Int)) (c := .slice none 0 0) (d := .int .i64 0) (e := .slice none 0 0) (f := .slice none 0 0) d7
  have z2 := fz 2
  obtain ⟨d8, t8⟩ := d7.put 2 (.slice p7 t3.length q7)
  have h8 := h7.tk t8 (by decide)
  have hU := hU4 g _ d8.1.2.2.1
  clear hU4 fz t8 h7
  go_wp2_with fail
  refine hU.mono ?_
  rintro x w9 ⟨rfl, r9', o9⟩
  have d9 := d8.only o9 r9'
  have h9 := h8.only o9
  clear hU d8 d7 r9' o9 c0 c1 c2 c3 c4 c5 z2 h8
  obtain ⟨⟨c0, c1, c2, c3, c4, c5⟩, fz⟩ := DS.cells (a := .int .i64 (n1 : Int)) (b := .int .i64 (n2 : Int)) (c := .slice p7 t3.length q7) (d := .int .i64 0) (e := .slice none 0 0) (f := .slice none 0 0) d9
  have z3 := fz 3
  obtain ⟨d10, t10⟩ := d9.put 3 (.int .i64 (n4 : Int))
  have h10 := h9.tk t10 (by decide)
  have hU := hB5 g _ d10.1.2.2.1
  clear hB5 fz t10 h9
  go_wp2_with fail
  refine hU.mono ?_
  rintro x w11 ⟨v11, rfl, p11, q11, rfl, k11, r11', o11⟩
  have d11 := d10.only o11 r11'
  have h11 := h10.only o11
  clear hU d10 d9 r11' o11 c0 c1 c2 c3 c4 c5 z3 h10
  obtain ⟨⟨c0, c1, c2, c3, c4, c5⟩, fz⟩ := DS.cells (a := .int .i64 (n1 : Int)) (b := .int .i64 (n2 : Int)) (c := .slice p7 t3.length q7) (d := .int .i64 (n4 : Int)) (e := .slice none 0 0) (f := .slice none 0 0) d11
  have z4 := fz 4
  obtain ⟨d12, t12⟩ := d11.put 4 (.slice p11 t5.length q11)
  have h12 := h11.tk t12 (by decide)
  have k12 := k11.tk t12 (by decide)
  obtain ⟨⟨y0, y1, y2, y3, y4, y5⟩, fz2⟩ := DS.cells (a := .int .i64 (n1 : Int)) (b := .int .i64 (n2 : Int)) (c := .slice p7 t3.length q7) (d := .int .i64 (n4 : Int)) (e := .slice p11 t5.length q11) (f := .slice none 0 0) d12
  have hLC := linkCount_any n1 _ (by omega) (hTD.later d12.1.2.2.2)
  rw [← hN.out] at hLC
  clear fz fz2 t12 h11 k11
  go_wp2_with fail
  refine hLC.mono ?_
  rintro x w12 ⟨rfl, hw12⟩
  rw [← hw12] at d12 h12 k12
  clear hLC hw12 d11 c0 c1 c2 c3 c4 c5 z4 y0 y1 y2 y3 y4 y5
  replace d12 : DS w w.heap.size g gs #[.int .i64 (n1 : Int), .int .i64 (n2 : Int), .slice p7 t3.length q7, .int .i64 (n4 : Int), .slice p11 t5.length q11, .slice none 0 0] r5 e5 w12 := d12
  obtain ⟨i0, hi9, hz0, hz1, hz2⟩ := info_parts i_bytes
  have hw0s : w.heap.size ≤ w12.heap.size := d12.1.2.2.2.size
  go_wp2
  go_loopw [30] (fun v wr => ∃ (m : Nat) (y : Value), m ≤ N ∧ v = .int .i64 (m : Int) ∧ DS w w.heap.size g gs #[.int .i64 (n1 : Int), .int .i64 (n2 : Int), .slice p7 t3.length q7, .int .i64 (n4 : Int), .slice p11 t5.length q11, y] (Sl m) (Se m) wr ∧ RW wr w.heap.size g y (S m) ∧ HBN wr g (.slice p7 t3.length q7) t3 ∧ HBN wr g (.slice p11 t5.length q11) t5) (fun v _ => N - (intOf v).toNat)
  case atStart =>
    obtain ⟨s1, s2, s3⟩ := hS0.out
    exact ⟨0, _, Nat.zero_le _, rfl, by rw [s2, s3]; exact d12, by rw [s1]; exact RW.nil _ _ _, h12, k12⟩
  case round =>
    clear d12 h12 k12
    obtain ⟨m, y, hm, rfl, dr, hrw, hr3, hr5⟩ := hrel
    have hwr : w.heap.size ≤ wr.heap.size := dr.1.2.2.2.size
    by_cases hlt : m < N
    · have hlt2 : (m : Int) < (N : Int) := by omega
      have bD : Below wr.heap.size wr wr.drew := (Below.refl _ wr).drew
      have dd := dr.later bD
      have rwd := hrw.tk (TK.of_below (T := 68) bD) (by decide) (by decide)
      have h3d := hr3.later bD
      have h5d := hr5.later bD
      have hsm := hSl.out m
      have HSk : Hid (S (m + 1) = S m ++ [So m]) := hSk.out m
      have hTk2 := hBk.out m g _ dd.1.2.2.1
      obtain ⟨⟨_, _, _, _, _, c5⟩, _⟩ := dr.cells
      obtain ⟨⟨_, _, _, _, _, c5d⟩, _⟩ := dd.cells
      obtain ⟨pl, cpl, rfl⟩ := owns_shape hrw.choose_spec.2.1
      rw [hsm] at c5 c5d dd rwd
      clear hrw hr3 hr5 dr bD
      go_wp2
      go_region_law (first
        | (refine step_calls2 (by rfl) 24 _ _ _ _ (by rfl) _ _ (by rfl) (by rfl) (cf_bytes _ _) _ hTk2 ?_; rintro e w5 ⟨p5, c5', rfl, hx5, xr5, O5⟩; have dd5 := dd.only O5 xr5; obtain ⟨rdc, rdf, hty⟩ := dd.1.2.2.1.typed; have tk5 := TK.of_only O5 hty; obtain ⟨vs, r0, r1, r2⟩ := rwd.tk tk5 (by decide) (by decide); have h35 := h3d.only O5; have h55 := h5d.only O5; obtain ⟨⟨_, _, _, _, _, e1⟩, _⟩ := dd5.cells; have bB := (Below.refl _ w5).alloc (Nat.le_refl _) (.cells #[.slice p5 (So m).length c5'] 22); have e2 := cell_later bB e1; have s5 : w.heap.size ≤ w5.heap.size := dd5.1.2.2.2.size; rw [hsm] at r0 r1)
        | (refine step_append_lies _ (by rfl) _ _ _ (by rfl) w.heap.size 22 i0 _ 1 24 Tryz.underlying23 hi9 hz0 hz1 hz2 rfl (by omega) _ m vs (by rfl) (owns_later r1 bB) ⟨w5.heap.size, 0, none⟩ 1 1 [.slice p5 (So m).length c5'] (by rfl) (by rfl) (World.news_of_block (cs := #[.slice p5 (So m).length c5']) (t := 22) (fr := (0, 0)) (heap_alloc_new w5 _)) (by simp [Value.oneCell']) (by omega) (by unfold maxLen; omega) (by omega) (by simp; omega) (w5.heap.size + 1) (by simp) ?_; intro g7 cap7 w7 hown7 hgrow7 hat hlt7; have r1A := owns_later r1 bB; have t7 := TK.of_grown r1A hgrow7; have dd7 := (dd5.later bB).grown r1A (Nat.le_refl _) hgrow7; have rw7 := RW.snoc (w := w5) (ls := S m) (l := So m) (by rw [hsm]; exact r0) (by rw [hsm]; exact r1A) r2 hx5 bB hgrow7 (by rw [hsm]; exact hown7); have h37 := (h35.later bB).tk t7 (by decide); have h57 := (h55.later bB).tk t7 (by decide); obtain ⟨⟨_, _, _, _, _, x7⟩, fz7⟩ := dd7.cells; have z7 := fz7 5))
      all_goals
        obtain ⟨dd8, tt8⟩ := dd7.put 5 (.slice (some ⟨g7, 0, none⟩) (m + 1) cap7)
        have rw8 := rw7.tk tt8 (by decide) (by decide)
        have h38 := h37.tk tt8 (by decide)
        have h58 := h57.tk tt8 (by decide)
        rw [← HSk.out] at rw8
        clear r0 r1 r2 hgrow7 hown7 hat hlt7 e1 e2 bB xr5 O5 hx5 dd rwd h3d h5d c5 c5d hTk2 x7 z7 fz7 dd7 rw7 h37 h57 t7 r1A dd5 h35 h55 tk5 hty
        go_wp2
        go_roundw
        case rel => exact ⟨m + 1, _, by omega, by go_num, dd8, rw8, h38, h58⟩
        case measure => simp [intOf]; omega
    · obtain rfl : m = N := by omega
      obtain ⟨py, cy, hy⟩ := owns_shape hrw.choose_spec.2.1
      subst hy
      have hE := rr_end g (Sl m) (Se m) wr dr.1.2.2.1
      have hCn := can_any size (n1 : Int) (n2 : Int) (n4 : Int) _ _ _ t3 t5 (S m) wr hr3.1 hr5.1 hrw.pa (hTD.later dr.1.2.2.2)
      have hnm : ¬ (m : Int) < (m : Int) := by omega
      generalize hEN : endF (Sl m).length (Se m) = EN at *
      clear hEN hBk hS0 hSk hSl hN
      by_cases he : EN = 0
      · subst he
        have HD : Hid (decide ((0 : Int) = 0) = true) := rfl
        generalize hCC : canB size ⟨(n1 : Int), (n2 : Int), (n4 : Int), t3, t5, S m⟩ = CC at hCn
        have HCC : Hid (canB size ⟨(n1 : Int), (n2 : Int), (n4 : Int), t3, t5, S m⟩ = CC) := hCC
        clear hCC
        obtain ⟨⟨c0, c1, c2, c3, c4, c5⟩, _⟩ := dr.cells
        have hPA := hrw.pa
        cases CC with
        | false =>
          go_wp2_with fail
          refine hE.mono ?_
          rintro x w20 ⟨rfl, hw20⟩
          subst hw20
          clear hE
          go_wp2_with fail
          refine hCn.mono ?_
          rintro x w21 ⟨rfl, hb21⟩
          have d21 := dr.later hb21
          clear hCn c0 c1 c2 c3 c4 c5
          have hon : Only w.heap.size w21 (((((((w21).setCell ⟨w.heap.size, 0, none⟩ (.int .i64 0)).setCell ⟨w.heap.size, 1, none⟩ (.int .i64 0)).setCell ⟨w.heap.size, 2, none⟩ (.slice none 0 0)).setCell ⟨w.heap.size, 3, none⟩ (.int .i64 0)).setCell ⟨w.heap.size, 4, none⟩ (.slice none 0 0)).setCell ⟨w.heap.size, 5, none⟩ (.slice none 0 0)) := ((((((Only.refl _ w21).setCell 0 _).setCell 1 _).setCell 2 _).setCell 3 _).setCell 4 _).setCell 5 _
          have bf : Below w.heap.size w (((((((w21).setCell ⟨w.heap.size, 0, none⟩ (.int .i64 0)).setCell ⟨w.heap.size, 1, none⟩ (.int .i64 0)).setCell ⟨w.heap.size, 2, none⟩ (.slice none 0 0)).setCell ⟨w.heap.size, 3, none⟩ (.int .i64 0)).setCell ⟨w.heap.size, 4, none⟩ (.slice none 0 0)).setCell ⟨w.heap.size, 5, none⟩ (.slice none 0 0)) := d21.1.2.2.2.trans (hon.below (Nat.le_refl _))
          obtain ⟨⟨x0, x1, x2, x3, x4, x5⟩, fx⟩ := d21.zero
          have f0 := fx 0
          have f1 := fx 1
          have f2 := fx 2
          have f3 := fx 3
          have f4 := fx 4
          have f5 := fx 5
          clear hon hrw hr3 hr5 dr d21 fx hPA
          go_wp2
          refine bodyPost_ret (v := .tuple #[.agg #[.int .i64 0, .int .i64 0, .slice none 0 0, .int .i64 0, .slice none 0 0, .slice none 0 0], .int .i64 5]) ?_ rfl ?_
          · simp only [results, Tryz.results23]
            go_simp
          · rw [HCC.out]
            exact ⟨fun _ => rfl, fun h => by simp at h, bf⟩
        | true =>
          go_wp2_with fail
          refine hE.mono ?_
          rintro x w20 ⟨rfl, hw20⟩
          subst hw20
          clear hE
          go_wp2_with fail
          refine hCn.mono ?_
          rintro x w21 ⟨rfl, hb21⟩
          have d21 := dr.later hb21
          obtain ⟨⟨y0, y1, y2, y3, y4, y5⟩, _⟩ := d21.cells
          clear hCn c0 c1 c2 c3 c4 c5
          have hon : Only w.heap.size w21 (((((((w21).setCell ⟨w.heap.size, 0, none⟩ (.int .i64 (n1 : Int))).setCell ⟨w.heap.size, 1, none⟩ (.int .i64 (n2 : Int))).setCell ⟨w.heap.size, 2, none⟩ (.slice p7 t3.length q7)).setCell ⟨w.heap.size, 3, none⟩ (.int .i64 (n4 : Int))).setCell ⟨w.heap.size, 4, none⟩ (.slice p11 t5.length q11)).setCell ⟨w.heap.size, 5, none⟩ (.slice py (S m).length cy)) := ((((((Only.refl _ w21).setCell 0 _).setCell 1 _).setCell 2 _).setCell 3 _).setCell 4 _).setCell 5 _
          have bf : Below w.heap.size w (((((((w21).setCell ⟨w.heap.size, 0, none⟩ (.int .i64 (n1 : Int))).setCell ⟨w.heap.size, 1, none⟩ (.int .i64 (n2 : Int))).setCell ⟨w.heap.size, 2, none⟩ (.slice p7 t3.length q7)).setCell ⟨w.heap.size, 3, none⟩ (.int .i64 (n4 : Int))).setCell ⟨w.heap.size, 4, none⟩ (.slice p11 t5.length q11)).setCell ⟨w.heap.size, 5, none⟩ (.slice py (S m).length cy)) := d21.1.2.2.2.trans (hon.below (Nat.le_refl _))
          obtain ⟨⟨x0, x1, x2, x3, x4, x5⟩, fx⟩ := d21.zero
          have f0 := fx 0
          have f1 := fx 1
          have f2 := fx 2
          have f3 := fx 3
          have f4 := fx 4
          have f5 := fx 5
          have tk := TK.of_only (T := 25) hon d21.1.1
          have q3 := ((hr3.later hb21).tk tk (by decide)).1
          have q5 := ((hr5.later hb21).tk tk (by decide)).1
          have qk := ((hrw.tk (TK.of_below (T := 68) hb21) (by decide) (by decide)).tk tk (by decide) (by decide)).pa
          clear hon hrw hr3 hr5 dr d21 fx tk hPA
          go_wp2
          refine bodyPost_ret (v := .tuple #[.agg #[.int .i64 (n1 : Int), .int .i64 (n2 : Int), .slice p7 t3.length q7, .int .i64 (n4 : Int), .slice p11 t5.length q11, .slice py (S m).length cy], .int .i64 0]) ?_ rfl ?_
          · simp only [results, Tryz.results23]
            go_simp
          · rw [HCC.out]
            exact ⟨fun h => by simp at h, fun _ => ⟨_, _, _, rfl, q3, q5, qk⟩, bf⟩
      · have hne : (EN != 0) = true := by simpa using he
        have HD : Hid (decide (EN = 0) = false) := by simpa [Hid] using he
        go_wp2_with fail
        refine hE.mono ?_
        rintro x w20 ⟨rfl, hw20⟩
        subst hw20
        clear hE hCn
        have hon : Only w.heap.size w20 (((((((w20).setCell ⟨w.heap.size, 0, none⟩ (.int .i64 0)).setCell ⟨w.heap.size, 1, none⟩ (.int .i64 0)).setCell ⟨w.heap.size, 2, none⟩ (.slice none 0 0)).setCell ⟨w.heap.size, 3, none⟩ (.int .i64 0)).setCell ⟨w.heap.size, 4, none⟩ (.slice none 0 0)).setCell ⟨w.heap.size, 5, none⟩ (.slice none 0 0)) := ((((((Only.refl _ w20).setCell 0 _).setCell 1 _).setCell 2 _).setCell 3 _).setCell 4 _).setCell 5 _
        have bf : Below w.heap.size w (((((((w20).setCell ⟨w.heap.size, 0, none⟩ (.int .i64 0)).setCell ⟨w.heap.size, 1, none⟩ (.int .i64 0)).setCell ⟨w.heap.size, 2, none⟩ (.slice none 0 0)).setCell ⟨w.heap.size, 3, none⟩ (.int .i64 0)).setCell ⟨w.heap.size, 4, none⟩ (.slice none 0 0)).setCell ⟨w.heap.size, 5, none⟩ (.slice none 0 0)) := dr.1.2.2.2.trans (hon.below (Nat.le_refl _))
        obtain ⟨⟨x0, x1, x2, x3, x4, x5⟩, fx⟩ := dr.zero
        have f0 := fx 0
        have f1 := fx 1
        have f2 := fx 2
        have f3 := fx 3
        have f4 := fx 4
        have f5 := fx 5
        clear hon hrw hr3 hr5 dr fx he
        go_wp2
        refine bodyPost_ret (v := .tuple #[.agg #[.int .i64 0, .int .i64 0, .slice none 0 0, .int .i64 0, .slice none 0 0, .slice none 0 0], .int .i64 5]) ?_ rfl ?_
        · simp only [results, Tryz.results23]
          go_simp
        · rw [HD.out]
          exact ⟨fun _ => rfl, fun h => by simp at h, bf⟩

end Go.Proofs.YtganajmhdpiipaaGreatDoor

namespace Go.Proofs.YtganajmhdpiipaaGreatDoor

theorem cnt_byte (n : Nat) (h : n < 2 ^ 64) : (UInt8.ofNat (cnt n)).toNat = cnt n := by
  have := cnt_le8 n h
  simp
  omega

theorem uintF_put (n : Nat) (more : List UInt8) (most : Int) (h : n ≤ 4611686018427387904) (hm : (n : Int) ≤ most) : uintF (numL n ++ more) most = (0, n, more) := by
  have h64 : n < 2 ^ 64 := by omega
  have hc := cnt_byte n h64
  have h8 := cnt_le8 n h64
  have hl := ndigs_length n
  unfold numL
  simp only [List.cons_append, uintF]
  rw [hc]
  have ht : (ndigs n ++ more).take (cnt n) = ndigs n := by rw [← hl, List.take_left]
  have hd : (ndigs n ++ more).drop (cnt n) = more := by rw [← hl, List.drop_left]
  have hv := valL_digs 8 n (by rw [show (256 : Nat) ^ 8 = 2 ^ 64 from rfl]; exact h64) (Nat.le_refl _)
  rw [ht, hd, hv, if_neg (by omega), if_neg (by rw [List.length_append]; omega), if_neg, if_neg (by omega), if_neg (by omega)]
  intro e
  cases hdg : ndigs n with
  | nil => rw [hdg] at e; cases e
  | cons d r =>
    rw [hdg] at e
    have := ndigs_head n h64 d r hdg
    simp at e
    exact this e

theorem bytesF_put (s more : List UInt8) (most : Int) (h : s.length ≤ 4611686018427387904) (hm : (s.length : Int) ≤ most) : bytesF (bytesL s ++ more) most = (0, s, more) := by
  unfold bytesF bytesL
  rw [List.append_assoc, uintF_put s.length (s ++ more) most h hm]
  simp only [ne_eq, not_true, if_false]
  rw [if_neg (by rw [List.length_append]; omega), List.take_left, List.drop_left]

theorem flagF_put (b : Bool) (more : List UInt8) : flagF (flagL b ++ more) = (0, b, more) := by
  cases b <;> simp [flagL, flagF]

theorem uintF_back (l : List UInt8) (most : Int) (h : (uintF l most).1 = 0) : l = numL (uintF l most).2.1 ++ (uintF l most).2.2 ∧ (uintF l most).2.1 ≤ 4611686018427387904 ∧ ((uintF l most).2.1 : Int) ≤ most := by
  cases l with
  | nil => simp [uintF] at h
  | cons c r =>
    by_cases h1 : 8 < c.toNat
    · simp only [uintF] at h; rw [if_pos h1] at h; simp at h
    by_cases h2 : r.length < c.toNat
    · simp only [uintF] at h; rw [if_neg h1, if_pos h2] at h; simp at h
    by_cases h3 : (r.take c.toNat).head? = some 0
    · simp only [uintF] at h; rw [if_neg h1, if_neg h2, if_pos h3] at h; simp at h
    by_cases h4 : 4611686018427387904 < valL (r.take c.toNat)
    · simp only [uintF] at h; rw [if_neg h1, if_neg h2, if_neg h3, if_pos h4] at h; simp at h
    by_cases h5 : most < (valL (r.take c.toNat) : Int)
    · simp only [uintF] at h; rw [if_neg h1, if_neg h2, if_neg h3, if_neg h4, if_pos h5] at h; simp at h
    have e : uintF (c :: r) most = (0, valL (r.take c.toNat), r.drop c.toNat) := by simp only [uintF]; rw [if_neg h1, if_neg h2, if_neg h3, if_neg h4, if_neg h5]
    rw [e]
    refine ⟨?_, by simp only; omega, by simp only; omega⟩
    simp only
    have hl : (r.take c.toNat).length = c.toNat := by rw [List.length_take]; omega
    have hh : ∀ d r', r.take c.toNat = d :: r' → d ≠ 0 := fun d r' e0 h0 => h3 (by rw [e0, h0]; rfl)
    have hc := cnt_val _ (by omega) hh
    have hd := ndigs_val _ (by omega) hh
    unfold numL
    rw [hd, hc, hl]
    rw [List.cons_append, List.take_append_drop]
    congr 1
    apply UInt8.toNat_inj.1
    simp

theorem bytesF_back (l : List UInt8) (most : Int) (h : (bytesF l most).1 = 0) : l = bytesL (bytesF l most).2.1 ++ (bytesF l most).2.2 ∧ ((bytesF l most).2.1.length : Int) ≤ most := by
  have hb := uintF_back l most
  unfold bytesF at h ⊢
  generalize hu : uintF l most = u at *
  obtain ⟨e, n, r⟩ := u
  simp only at h hb ⊢
  by_cases h1 : e ≠ 0
  · rw [if_pos h1] at h
    exact absurd h h1
  · rw [if_neg h1] at h ⊢
    by_cases h2 : r.length < n
    · rw [if_pos h2] at h
      simp at h
    · rw [if_neg h2]
      have := hb (by omega)
      have hl : (r.take n).length = n := by rw [List.length_take]; omega
      refine ⟨?_, by simp only; omega⟩
      simp only
      unfold bytesL
      rw [hl, List.append_assoc, List.take_append_drop]
      exact this.1

theorem flagF_back (l : List UInt8) (h : (flagF l).1 = 0) : l = flagL (flagF l).2.1 ++ (flagF l).2.2 := by
  cases l with
  | nil => simp [flagF] at h
  | cons x r =>
    by_cases h1 : 1 < x.toNat
    · simp only [flagF] at h; rw [if_pos h1] at h; simp at h
    · have e : flagF (x :: r) = (0, x == 1, r) := by simp only [flagF]; rw [if_neg h1]
      rw [e]
      simp only [flagL]
      rcases Nat.eq_zero_or_pos x.toNat with h0 | h0
      · obtain rfl : x = 0 := UInt8.toNat_inj.1 (by simpa using h0)
        rfl
      · obtain rfl : x = 1 := UInt8.toNat_inj.1 (by simp; omega)
        rfl

end Go.Proofs.YtganajmhdpiipaaGreatDoor

namespace Go.Proofs.YtganajmhdpiipaaGreatDoor
open Go.RowKit

theorem decode_any (size : Int) (v : Value) (b : List UInt8) (w : World) (hv : HB w v b) (hsz : b.length ≤ 140737488355000) (hTD : TD w) :
    Calls Tryz.prog 23 #[.int .i64 size, v] w (DecTold (dcOk size b) (dcR size b) w) := by
  have l1 : (dcE b).2.2.length ≤ b.length := rdU_le b 0 255
  have l2 : (dcT b).2.2.length ≤ (dcE b).2.2.length := rdU_le _ _ _
  have l3 : (dcTr size b).2.2.length ≤ (dcT b).2.2.length := rdB_le _ _ _
  have l4 : (dcC size b).2.2.length ≤ (dcTr size b).2.2.length := rdU_le _ _ _
  have l5 : (dcLi size b).2.2.length ≤ (dcC size b).2.2.length := rdB_le _ _ _
  have m1 : ((dcE b).2.1 : Int) ≤ 255 := rdU_most b 0 255 (by omega)
  exact decode_core size v b w hv hsz hTD (dcE b).1 (dcT b).1 (dcTr size b).1 (dcC size b).1 (dcLi size b).1 (dcE b).2.1 (dcT b).2.1 (dcC size b).2.1 (linksL (dcE b).2.1).length
    (dcE b).2.2 (dcT b).2.2 (dcTr size b).2.2 (dcTr size b).2.1 (dcC size b).2.2 (dcLi size b).2.2 (dcLi size b).2.1
    (fun k => (lkS size (dcLi size b).2.2 (dcLi size b).1 k).1) (fun k => (lkS size (dcLi size b).2.2 (dcLi size b).1 k).2.1) (fun k => (lkS size (dcLi size b).2.2 (dcLi size b).1 k).2.2) (fun k => (rdB (lkS size (dcLi size b).2.2 (dcLi size b).1 k).2.1 (lkS size (dcLi size b).2.2 (dcLi size b).1 k).2.2 size).2.1)
    (fun g w h => ruint_all g b 0 255 w h)
    (fun g w h => ruint_all g _ _ _ w h)
    (fun g w h => rbytes_all g _ _ _ w h (by omega))
    (fun g w h => ruint_all g _ _ _ w h)
    (fun g w h => rbytes_all g _ _ _ w h (by omega))
    (fun k g w h => rbytes_all g _ _ _ w h (by have := lkS_le size (dcLi size b).2.2 (dcLi size b).1 k; omega))
    ⟨rfl, rfl, rfl⟩ (fun _ => rfl) (fun k => lkS_len _ _ _ k) rfl (by omega) (linksL_len _ (by omega))

theorem rdU_put (n : Nat) (more : List UInt8) (most : Int) (h : n ≤ 4611686018427387904) (hm : (n : Int) ≤ most) : rdU (numL n ++ more) 0 most = (0, n, more) := by
  unfold rdU
  rw [if_pos rfl]
  exact uintF_put n more most h hm
theorem rdB_put (s more : List UInt8) (most : Int) (h : s.length ≤ 4611686018427387904) (hm : (s.length : Int) ≤ most) : rdB (bytesL s ++ more) 0 most = (0, s, more) := by
  unfold rdB
  rw [if_pos rfl]
  exact bytesF_put s more most h hm

theorem putL_cons (l : List UInt8) (ls : List (List UInt8)) : putL (l :: ls) = bytesL l ++ putL ls := by simp [putL]

theorem lkS_put (size : Int) (more : List UInt8) (ls : List (List UInt8)) (hz : ∀ x ∈ ls, (x.length : Int) ≤ size ∧ x.length ≤ 32) : ∀ k, k ≤ ls.length → lkS size (putL ls ++ more) 0 k = (ls.take k, putL (ls.drop k) ++ more, 0) := by
  intro k
  induction k with
  | zero => intro _; simp [lkS]
  | succ k ih =>
    intro hk
    have e := ih (by omega)
    have hlt : k < ls.length := by omega
    have hx := hz ls[k] (List.getElem_mem hlt)
    simp only [lkS, e]
    rw [List.drop_eq_getElem_cons hlt, putL_cons, List.append_assoc, rdB_put _ _ size (by omega) (by omega)]
    simp only
    rw [List.take_add_one, List.getElem?_eq_getElem hlt]
    rfl

theorem clampN_int (n : Int) (h0 : 0 ≤ n) (h : n ≤ 4611686018427387904) : ((clampN n : Nat) : Int) = n := by unfold clampN; omega

theorem sized_all {size : Int} {ls : List (List UInt8)} (h : sizedB size ls = true) : ∀ x ∈ ls, (x.length : Int) = size := by
  intro x hx
  unfold sizedB at h
  simpa using List.all_eq_true.1 h x hx

/-- Whether bytes, texts of so many read at most, are a record's. -/
def dcOkM (most size : Int) (b : List UInt8) : Bool := decide (endF (dcLk most b).2.1.length (dcLk most b).2.2 = 0) && canB size (dcR most b)

/-- What was written is read. -/
theorem dec_encM (most size : Int) (r : Rc) (h : canB size r = true) (hmo : size ≤ most) : dcOkM most size (encL r) = true ∧ dcR most (encL r) = r := by
  obtain ⟨q1, q2, q3, q4, q5, q6, q7, q8, q9, q10, q11, q12⟩ := (canB_iff size r).1 h
  have a1 := clampN_int r.e q3 (by omega)
  have a2 := clampN_int r.t q5 (by omega)
  have a3 := clampN_int r.c q7 (by omega)
  have hE : encL r = numL (clampN r.e) ++ (numL (clampN r.t) ++ (bytesL r.tr ++ (numL (clampN r.c) ++ (bytesL r.li ++ (putL r.lk ++ []))))) := by simp [encL]
  have e1 : dcE (encL r) = (0, clampN r.e, numL (clampN r.t) ++ (bytesL r.tr ++ (numL (clampN r.c) ++ (bytesL r.li ++ (putL r.lk ++ []))))) := by
    unfold dcE
    rw [hE]
    exact rdU_put _ _ _ (by omega) (by omega)
  have e2 : dcT (encL r) = (0, clampN r.t, bytesL r.tr ++ (numL (clampN r.c) ++ (bytesL r.li ++ (putL r.lk ++ [])))) := by
    unfold dcT
    rw [e1]
    exact rdU_put _ _ _ (by omega) (by omega)
  have e3 : dcTr most (encL r) = (0, r.tr, numL (clampN r.c) ++ (bytesL r.li ++ (putL r.lk ++ []))) := by
    unfold dcTr
    rw [e2]
    exact rdB_put _ _ _ (by omega) (by omega)
  have e4 : dcC most (encL r) = (0, clampN r.c, bytesL r.li ++ (putL r.lk ++ [])) := by
    unfold dcC
    rw [e3]
    exact rdU_put _ _ _ (by omega) (by omega)
  have e5 : dcLi most (encL r) = (0, r.li, putL r.lk ++ []) := by
    unfold dcLi
    rw [e4]
    exact rdB_put _ _ _ (by omega) (by omega)
  have hte : (clampN r.e) = r.e.toNat := by omega
  have e6 : dcLk most (encL r) = (r.lk, [], 0) := by
    unfold dcLk
    rw [e5, e1]
    simp only
    rw [hte, ← q9, lkS_put most [] r.lk (fun x hx => ⟨by have := sized_all q12 x hx; omega, sized_le q12 q2 x hx⟩) _ (Nat.le_refl _)]
    simp [putL]
  have hR : dcR most (encL r) = r := by
    unfold dcR
    rw [e1, e2, e3, e4, e5, e6]
    simp only [a1, a2, a3]
  refine ⟨?_, hR⟩
  unfold dcOkM
  rw [hR, h, e6]
  simp [endF]

theorem dec_enc (size : Int) (r : Rc) (h : canB size r = true) : dcOk size (encL r) = true ∧ dcR size (encL r) = r := dec_encM size size r h (Int.le_refl _)

theorem rdB_zero {l : List UInt8} {e most : Int} (h : (rdB l e most).1 = 0) : e = 0 ∧ l = bytesL (rdB l e most).2.1 ++ (rdB l e most).2.2 := by
  unfold rdB at h ⊢
  by_cases he : e = 0
  · rw [if_pos he] at h ⊢
    exact ⟨he, (bytesF_back l most h).1⟩
  · rw [if_neg he] at h
    exact absurd h he
theorem rdU_zero {l : List UInt8} {e most : Int} (h : (rdU l e most).1 = 0) : e = 0 ∧ l = numL (rdU l e most).2.1 ++ (rdU l e most).2.2 ∧ (rdU l e most).2.1 ≤ 4611686018427387904 := by
  unfold rdU at h ⊢
  by_cases he : e = 0
  · rw [if_pos he] at h ⊢
    have := uintF_back l most h
    exact ⟨he, this.1, this.2.1⟩
  · rw [if_neg he] at h
    exact absurd h he

theorem lkS_zero (size : Int) (l : List UInt8) (e : Int) : ∀ k, (lkS size l e k).2.2 = 0 → e = 0 ∧ l = putL (lkS size l e k).1 ++ (lkS size l e k).2.1 := by
  intro k
  induction k with
  | zero => intro h; exact ⟨h, by simp [lkS, putL]⟩
  | succ k ih =>
    intro h
    simp only [lkS] at h ⊢
    obtain ⟨h1, h2⟩ := rdB_zero h
    obtain ⟨h3, h4⟩ := ih h1
    refine ⟨h3, ?_⟩
    rw [putL_snoc, List.append_assoc, ← h2]
    exact h4

/-- What was read, written, is what was read. -/
theorem enc_decM (most size : Int) (b : List UInt8) (h : dcOkM most size b = true) : canB size (dcR most b) = true ∧ encL (dcR most b) = b := by
  unfold dcOkM at h
  simp only [Bool.and_eq_true, decide_eq_true_eq] at h
  obtain ⟨h1, h2⟩ := h
  refine ⟨h2, ?_⟩
  unfold endF at h1
  have he : (dcLk most b).2.2 = 0 := by
    split at h1
    · omega
    · exact h1
  have hl : (dcLk most b).2.1 = [] := by
    rcases Nat.eq_zero_or_pos (dcLk most b).2.1.length with h | h
    · exact List.eq_nil_of_length_eq_zero h
    · rw [if_pos ⟨he, h⟩] at h1
      omega
  obtain ⟨k5, p5⟩ := lkS_zero most _ _ _ he
  obtain ⟨k4, p4⟩ := rdB_zero (show (dcLi most b).1 = 0 from k5)
  obtain ⟨k3, p3, u3⟩ := rdU_zero (show (dcC most b).1 = 0 from k4)
  obtain ⟨k2, p2⟩ := rdB_zero (show (dcTr most b).1 = 0 from k3)
  obtain ⟨k1, p1, u1⟩ := rdU_zero (show (dcT b).1 = 0 from k2)
  obtain ⟨_, p0, u0⟩ := rdU_zero (show (dcE b).1 = 0 from k1)
  change (dcLi most b).2.2 = putL (dcLk most b).1 ++ (dcLk most b).2.1 at p5
  change (dcC most b).2.2 = bytesL (dcLi most b).2.1 ++ (dcLi most b).2.2 at p4
  change (dcTr most b).2.2 = numL (dcC most b).2.1 ++ (dcC most b).2.2 at p3
  change (dcT b).2.2 = bytesL (dcTr most b).2.1 ++ (dcTr most b).2.2 at p2
  change (dcE b).2.2 = numL (dcT b).2.1 ++ (dcT b).2.2 at p1
  change b = numL (dcE b).2.1 ++ (dcE b).2.2 at p0
  change (dcC most b).2.1 ≤ _ at u3
  change (dcT b).2.1 ≤ _ at u1
  change (dcE b).2.1 ≤ _ at u0
  have hb : b = encL (dcR most b) := by
    conv => lhs; rw [p0, p1, p2, p3, p4, p5, hl]
    unfold encL dcR
    simp only
    rw [clampN_nat _ u0, clampN_nat _ u1, clampN_nat _ u3]
    simp
  exact hb.symm

theorem enc_dec (size : Int) (b : List UInt8) (h : dcOk size b = true) : canB size (dcR size b) = true ∧ encL (dcR size b) = b := enc_decM size size b h

end Go.Proofs.YtganajmhdpiipaaGreatDoor
