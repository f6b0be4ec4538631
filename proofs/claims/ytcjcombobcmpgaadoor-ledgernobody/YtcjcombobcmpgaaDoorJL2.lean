/- What this text proves: what a log keeps while records are put in (the device lives), and one Append of any short record; what room a record wants (plain). What this text proves: a ledger with its log and its device in memory, and what stays of it; plain facts. -/
import Derived.Test.YtcjcombobcmpgaaDoorJSgApp3
import Derived.Test.YtcjcombobcmpgaaDoorJL1
import Derived.Test.YtcjcombobcmpgaaDoorJLgCount
namespace Go.Proofs.YtcjcombobcmpgaaDoor
open Go.RowKit

theorem room_yes (N k n : Nat) (h1 : 1 ≤ n) (h2 : n ≤ 4000) (h : k + (tsec n + 1) ≤ N) : n ≤ roomF N k := by unfold tsec at h; unfold roomF; omega
theorem room_no (N k n : Nat) (h1 : 1 ≤ n) (h : N < k + (tsec n + 1)) : roomF N k < n := by unfold tsec at h; unfold roomF; omega

/-- A log on a device that lives, behind i records at most. -/
def RmI (w : World) (base g bd bn N i : Nat) (wr : World) : Prop :=
  ∃ (k : Nat) (s : DevS) (bm c : Nat) (pr : Option Addr) (cr : Nat) (ls : List (List UInt8)), LB wr g bd (N : Int) (k : Int) (.slice pr ls.length cr) false ∧ RB wr base (.slice pr ls.length cr) ls ∧ Dev wr bd bn bm s ∧ Alive s N c ∧ c ≤ 200 * i ∧ ls.length ≤ i ∧ k ≤ N ∧ w.heap.size ≤ bm ∧ (∀ l ∈ ls, l.length ≤ 4000) ∧ Below w.heap.size w wr

theorem RmI.more {w : World} {base g bd bn N i : Nat} {wr : World} (h : RmI w base g bd bn N i wr) : RmI w base g bd bn N (i + 1) wr := by
  obtain ⟨k, s, bm, c, pr, cr, ls, h1, h2, h3, h4, h5, h6, h7, h8, h9, h10⟩ := h
  exact ⟨k, s, bm, c, pr, cr, ls, h1, h2, h3, h4, by omega, by omega, h7, h8, h9, h10⟩

theorem RmI.below {w : World} {base g bd bn N i : Nat} {wr : World} (h : RmI w base g bd bn N i wr) : Below w.heap.size w wr := by
  obtain ⟨k, s, bm, c, pr, cr, ls, h1, h2, h3, h4, h5, h6, h7, h8, h9, h10⟩ := h
  exact h10

theorem RmI.later {w : World} {base g bd bn N i : Nat} {wr w' : World} (h : RmI w base g bd bn N i wr) (hb : Below wr.heap.size wr w') : RmI w base g bd bn N i w' := by
  obtain ⟨k, s, bm, c, pr, cr, ls, h1, h2, h3, h4, h5, h6, h7, h8, h9, h10⟩ := h
  exact ⟨k, s, bm, c, pr, cr, ls, h1.same (hb.block _ h1.lt), h2.later hb, h3.later hb, h4, h5, h6, h7, h8, h9, h10.trans (hb.mono h10.size)⟩

/-- What a record that goes in leaves. -/
theorem RmI.put {w : World} {base g bd bn N c k : Nat} {wr w' : World} {s' : DevS} {bm bm' : Nat} {rs rs' : Value} {ls : List (List UInt8)} {i : Nat} {b : List UInt8} {r : Nat} {vs : List Value} (hw : Below w.heap.size w wr) (hbd : w.heap.size ≤ bd) (hbn : w.heap.size ≤ bn) (hg : w.heap.size ≤ g) (hbase : w.heap.size ≤ base) (ho : wr.ownsRow base 50 1 rs r vs) (hbm : w.heap.size ≤ bm) (hc : c ≤ 200 * i) (hl : ls.length ≤ i) (h9 : ∀ l ∈ ls, l.length ≤ 4000) (hb4 : b.length ≤ 4000) (hk : k + (tsec b.length + 1) ≤ N)
    (d : Dev w' bd bn bm' s') (a : Alive s' N (c + 200)) (e : bm' = bm ∨ wr.heap.size ≤ bm') (l : LB w' g bd (N : Int) ((k + (tsec b.length + 1) : Nat) : Int) rs' false) (o : RB w' base rs' (ls ++ [b])) (p : Part (fun q => q = bd ∨ q = bn ∨ q = bm ∨ q = g ∨ some q = rs.ownBlock) wr w') : RmI w base g bd bn N (i + 1) w' := by
  obtain ⟨pr, cr, rfl⟩ := o.pa.shape
  have hz := hw.size
  refine ⟨_, s', bm', c + 200, pr, cr, ls ++ [b], l, o, d, a, by omega, by simp; omega, hk, by omega, ?_, hw.trans (p.below hz ?_)⟩
  · intro x hx
    rcases List.mem_append.1 hx with h | h
    · exact h9 x h
    · simp at h; subst h; exact hb4
  · rintro q (e | e | e | e | e)
    · omega
    · omega
    · omega
    · omega
    · have := (ho.lt q e.symm).1; omega

set_option maxRecDepth 100000 in
set_option maxHeartbeats 1000000 in
theorem rm_step {w : World} {base g bd bn N i : Nat} {wr : World} (h : RmI w base g bd bn N i wr) (hT : Tabs w) (hs3 : 3 ≤ w.heap.size) (hbd : w.heap.size ≤ bd) (hbn : w.heap.size ≤ bn) (hg : w.heap.size ≤ g) (hbase : w.heap.size ≤ base) (hbase2 : base ≤ wr.heap.size) (hi : i ≤ 100) (hN : N ≤ 16384) (b : List UInt8) (p : Option Addr) (cp : Nat) (hv : HB w (.slice p b.length cp) b) (hb4 : b.length ≤ 4000) :
    Calls Tryd.prog 13 #[.pointer (some ⟨g, 0, none⟩), .slice p b.length cp] wr fun e w' => ∃ z : Int, e = .returned (.int .i64 z) ∧ RmI w base g bd bn N (i + 1) w' ∧ wr.heap.size ≤ w'.heap.size := by
  have h0 := h
  obtain ⟨k, s, bm, c, pr, cr, ls, h1, h2, h3, h4, h5, h6, h7, h8, h9, h10⟩ := h
  by_cases hb : 1 ≤ b.length
  · by_cases hf : N < k + (tsec b.length + 1)
    · refine (append_full (p := p) (cp := cp) h1 hb hb4 hf ⟨hN, h7⟩).mono ?_
      rintro e w' ⟨rfl, hb'⟩
      exact ⟨4, rfl, (h0.later hb').more, hb'.size⟩
    · obtain ⟨vs, ho1, _⟩ := id h2
      have hvb : ∀ a, p = some a → a.block ≠ bd ∧ a.block ≠ bn ∧ a.block ≠ bm := by
        intro a ha
        subst ha
        obtain ⟨b', o', e, hc⟩ := hv.addr (by omega)
        cases e
        obtain ⟨x, hx⟩ : ∃ x, b[0]? = some x := ⟨_, List.getElem?_eq_getElem (by omega)⟩
        have := cell_in (hc 0 x hx)
        refine ⟨?_, ?_, ?_⟩ <;> (show b' ≠ _; omega)
      refine (append_log (base := base) h1 h2 hbase2 h3 h4 (hT.later h10) ⟨by omega, by omega, by omega⟩ (hv.later h10) hvb hb hb4 (by omega) hN (by omega) (by omega)).mono ?_
      rintro e w' ⟨rfl, s', bm', rs', d, a, e1, l, o, pt⟩
      exact ⟨0, rfl, RmI.put h10 hbd hbn hg hbase ho1 h8 h5 h6 h9 hb4 (by omega) d a e1 l o pt, pt.size⟩
  · refine (append_arg (p := p) (cp := cp) h1 (by omega)).mono ?_
    rintro e w' ⟨rfl, rfl⟩
    exact ⟨1, rfl, h0.more, Nat.le_refl _⟩

theorem pa_of {w : World} {base : Nat} {v : Value} {ls : List (List UInt8)} {vs : List Value} (h1 : w.ownsRow base 50 1 v ls.length vs) (h2 : ∀ (j : Nat) u l, vs[j]? = some u → ls[j]? = some l → HB w u l) : PA w v ls := by
  have hl := h1.1
  rw [Nat.mul_one] at hl
  obtain ⟨_, q⟩ := h1
  rcases q with ⟨e0, h0⟩ | ⟨g, cap, cur, rfl, hb, hg, hle, hm, hsz, ht⟩
  · have h3 := List.eq_nil_of_length_eq_zero h0
    subst h3
    rw [e0]
    exact ⟨none, 0, [], rfl, Nat.le_refl _, Nat.zero_le _, fun _ => rfl, rfl, fun h => absurd rfl h, fun i x l h => by simp at h⟩
  · refine ⟨_, cap, vs, rfl, by simpa using hle, hm, (fun h => by cases h), by simp [hl], fun _ => ⟨g, 0, rfl, fun i x hx => ?_⟩, fun j u l hu hl => h2 j u l hu hl⟩
    rw [Nat.zero_add, cell_of_row w g i cur 50 (0, 0) hg]
    have hi : i < vs.length := (List.getElem?_eq_some_iff.1 hx).1
    rw [← ht, List.getElem?_take, if_pos (by omega)] at hx
    simpa using hx

theorem pa_snoc {w : World} {base : Nat} {v u : Value} {ls : List (List UInt8)} {b : List UInt8} {vs : List Value} (h1 : w.ownsRow base 50 1 v (ls.length + 1) (vs ++ [u])) (hvl : vs.length = ls.length) (h2 : ∀ (j : Nat) u l, vs[j]? = some u → ls[j]? = some l → HB w u l) (hu : HB w u b) : PA w v (ls ++ [b]) := by
  refine pa_of (vs := vs ++ [u]) (base := base) (by simpa using h1) fun j y l hy hl => ?_
  by_cases hj : j < ls.length
  · rw [List.getElem?_append_left (by omega)] at hy
    rw [List.getElem?_append_left hj] at hl
    exact h2 j y l hy hl
  · rw [List.getElem?_append_right (by omega), hvl] at hy
    rw [List.getElem?_append_right (by omega)] at hl
    cases hjk : j - ls.length with
    | zero =>
      rw [hjk] at hy hl
      simp at hy hl
      subst hy; subst hl
      exact hu
    | succ m => rw [hjk] at hy; simp at hy

theorem dev_lt {w : World} {bd bn bm : Nat} {s : DevS} (h : Dev w bd bn bm s) : bd < w.heap.size ∧ bn < w.heap.size ∧ bm < w.heap.size := by
  have h1 := h.db
  obtain ⟨cs, h2, _⟩ := h.sr
  obtain ⟨D, ⟨es, clock, h3, _⟩, _⟩ := h.dm
  unfold DB at h1
  exact ⟨(Array.getElem?_eq_some_iff.1 h1).1, (Array.getElem?_eq_some_iff.1 h2).1, (Array.getElem?_eq_some_iff.1 h3).1⟩

theorem sty_put {w w' : World} {g bd bn bm base r : Nat} {n k : Int} {rs : Value} {st : Bool} {s : DevS} {vs : List Value} (d : Dev w bd bn bm s) (l : LB w g bd n k rs st) (o : w.ownsRow base 50 1 rs r vs) (p : Part (fun q => q = bd ∨ q = bn ∨ q = bm ∨ q = g ∨ some q = rs.ownBlock) w w') : Sty 5 w w' := by
  refine Sty.of_part p ?_
  have h1 := d.db
  obtain ⟨cs, h2, _⟩ := d.sr
  obtain ⟨D, ⟨es, clock, h3, _⟩, _⟩ := d.dm
  unfold DB at h1
  unfold LB at l
  rintro q cur fr (rfl | rfl | rfl | rfl | e) hq
  · rw [h1] at hq; simp at hq
  · rw [h2] at hq; simp at hq
  · rw [h3] at hq; simp at hq
  · rw [l] at hq; simp at hq
  · rcases o.2 with ⟨rfl, _⟩ | ⟨g', cap, cur', rfl, _, hg', _⟩
    · cases e
    · obtain rfl : q = g' := by simpa [Value.ownBlock] using e
      rw [hg'] at hq
      simp at hq

end Go.Proofs.YtcjcombobcmpgaaDoor

namespace Go.Proofs.YtcjcombobcmpgaaDoor
open Go.RowKit

/-- The ledger in block g with its log and its device; all of it lies from B on. -/
def LS (B g gl N kk K : Nat) (s h mi mk ch ar ca pg n c t : Int) (ls : List (List UInt8)) (w : World) : Prop :=
  ∃ (bd bn bm base cc cr : Nat) (pr : Option Addr) (st : DevS), LG w g gl s h mi mk ch ar ca pg n c t ∧ LB w gl bd (N : Int) (kk : Int) (.slice pr ls.length cr) false ∧ RB w base (.slice pr ls.length cr) ls ∧ base ≤ w.heap.size ∧ B ≤ base ∧ Dev w bd bn bm st ∧ Alive st N cc ∧ cc ≤ K ∧ (B ≤ bd ∧ B ≤ bn ∧ B ≤ bm) ∧ B ≤ gl ∧ B ≤ g

theorem LS.later {B g gl N kk K : Nat} {s h mi mk ch ar ca pg n c t : Int} {ls : List (List UInt8)} {w w' : World} (H : LS B g gl N kk K s h mi mk ch ar ca pg n c t ls w) (hb : Below w.heap.size w w') : LS B g gl N kk K s h mi mk ch ar ca pg n c t ls w' := by
  obtain ⟨bd, bn, bm, base, cc, cr, pr, st, h1, h2, h3, h4, h5, h6, h7, h8, h9, h10, h11⟩ := H
  exact ⟨bd, bn, bm, base, cc, cr, pr, st, h1.same (hb.block _ h1.lt), h2.same (hb.block _ h2.lt), h3.later hb, Nat.le_trans h4 hb.size, h5, h6.later hb, h7, h8, h9, h10, h11⟩

theorem sty_putT {T : TypeId} (t1 : 44 ≠ T) (t2 : 111 ≠ T) (t3 : 72 ≠ T) (t4 : 50 ≠ T) {w w' : World} {g bd bn bm base r : Nat} {n k : Int} {rs : Value} {st : Bool} {s : DevS} {vs : List Value} (d : Dev w bd bn bm s) (l : LB w g bd n k rs st) (o : w.ownsRow base 50 1 rs r vs) (p : Part (fun q => q = bd ∨ q = bn ∨ q = bm ∨ q = g ∨ some q = rs.ownBlock) w w') : Sty T w w' := by
  refine Sty.of_part p ?_
  have h1 := d.db
  obtain ⟨cs, h2, _⟩ := d.sr
  obtain ⟨D, ⟨es, clock, h3, _⟩, _⟩ := d.dm
  unfold DB at h1
  unfold LB at l
  rintro q cur fr (rfl | rfl | rfl | rfl | e) hq
  · rw [h1] at hq; simp only [Option.some.injEq, Obj.cells.injEq] at hq; exact t1 hq.2.1
  · rw [h2] at hq; simp only [Option.some.injEq, Obj.cells.injEq] at hq; exact t2 hq.2.1
  · rw [h3] at hq; simp at hq
  · rw [l] at hq; simp only [Option.some.injEq, Obj.cells.injEq] at hq; exact t3 hq.2.1
  · rcases o.2 with ⟨rfl, _⟩ | ⟨g', cap, cur', rfl, _, hg', _⟩
    · cases e
    · obtain rfl : q = g' := by simpa [Value.ownBlock] using e
      rw [hg'] at hq
      simp only [Option.some.injEq, Obj.cells.injEq] at hq
      exact t4 hq.2.1

/-- A store into the ledger's own block leaves its log and its device. -/
theorem only_lg {w w' : World} {g gl bd bn bm base r : Nat} {s h mi mk ch ar ca pg n c t N k : Int} {rs : Value} {st : DevS} {sp : Bool} {vs : List Value} (kg : LG w g gl s h mi mk ch ar ca pg n c t) (ho : Only g w w') (d : Dev w bd bn bm st) (l : LB w gl bd N k rs sp) (o : w.ownsRow base 50 1 rs r vs) : Dev w' bd bn bm st ∧ LB w' gl bd N k rs sp ∧ Sty 5 w w' ∧ ∀ b, rs.ownBlock = some b → w'.heap[b]? = w.heap[b]? := by
  have h1 := d.db
  obtain ⟨cs, h2, _⟩ := id d.sr
  obtain ⟨D, ⟨es, clock, h3, _⟩, _⟩ := id d.dm
  unfold DB at h1
  unfold LG at kg
  have l0 := l
  unfold LB at l
  refine ⟨d.same ?_, l0.same (ho.block gl ?_ l0.lt), ?_, ?_⟩
  · rintro q (rfl | rfl | rfl)
    · exact ho.block _ (by rintro rfl; rw [kg] at h1; simp at h1) (Array.getElem?_eq_some_iff.1 h1).1
    · exact ho.block _ (by rintro rfl; rw [kg] at h2; simp at h2) (Array.getElem?_eq_some_iff.1 h2).1
    · exact ho.block _ (by rintro rfl; rw [kg] at h3; simp at h3) (Array.getElem?_eq_some_iff.1 h3).1
  · rintro rfl
    rw [kg] at l
    simp at l
  · intro q cur fr hq
    rw [ho.block q (by rintro rfl; rw [kg] at hq; simp at hq) (Array.getElem?_eq_some_iff.1 hq).1]
    exact hq
  · intro b hb
    rcases o.2 with ⟨rfl, _⟩ | ⟨g', cap, cur', rfl, _, hg', _⟩
    · cases hb
    · obtain rfl : b = g' := by simpa [Value.ownBlock] using hb.symm
      exact ho.block _ (by rintro rfl; rw [kg] at hg'; simp at hg') (Array.getElem?_eq_some_iff.1 hg').1

end Go.Proofs.YtcjcombobcmpgaaDoor
