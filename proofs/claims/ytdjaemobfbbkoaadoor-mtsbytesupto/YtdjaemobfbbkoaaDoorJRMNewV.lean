/- What this text holds: the document's keys (annalsref06) in memory (no walk). What this text proves: a law for a walk: an append of a slice of bytes onto a row that the call owns, at a step of a region that draws. -/
import Derived.Test.YtdjaemobfbbkoaaDoorJMSign
import Derived.Test.YtdjaemobfbbkoaaDoorJRKeys
import Derived.Test.YtdjaemobfbbkoaaDoorJBackP
namespace Go.Proofs.YtdjaemobfbbkoaaDoor
open Go.RowKit

/-- Block g holds the document's keys. -/
def RKO (w : World) (g : Nat) (n h : Int) (sv lv : Value) : Prop := w.heap[g]? = some (.cells #[.int .i64 n, .int .i64 h, sv, lv] 70 (0, 0))
theorem RKO.lt {w : World} {g : Nat} {n h : Int} {sv lv : Value} (k : RKO w g n h sv lv) : g < w.heap.size := (Array.getElem?_eq_some_iff.1 k).1
theorem RKO.cells {w : World} {g : Nat} {n h : Int} {sv lv : Value} (k : RKO w g n h sv lv) : w.cell? ⟨g, 0, none⟩ = some (.int .i64 n) ∧ w.cell? ⟨g, 1, none⟩ = some (.int .i64 h) ∧ w.cell? ⟨g, 2, none⟩ = some sv ∧ w.cell? ⟨g, 3, none⟩ = some lv := by
  refine ⟨?_, ?_, ?_, ?_⟩ <;> rw [cell_of_row w g _ _ _ _ k] <;> rfl
theorem RKO.free {w : World} {g : Nat} {n h : Int} {sv lv : Value} (k : RKO w g n h sv lv) (i : Nat) : w.frozen? ⟨g, i, none⟩ = false := by
  unfold RKO at k
  simp [World.frozen?, k]
theorem RKO.later {w w' : World} {g : Nat} {n h : Int} {sv lv : Value} (k : RKO w g n h sv lv) (hb : Below w.heap.size w w') : RKO w' g n h sv lv := (hb.block g k.lt).trans k
theorem RKO.put3 {w : World} {g : Nat} {n h : Int} {sv lv : Value} (k : RKO w g n h sv lv) (x : Value) : RKO (w.setCell ⟨g, 3, none⟩ x) g n h sv x := by
  unfold RKO; rw [heap_setCell_same w g 3 _ _ _ k]; rfl

theorem TL.box {w w' : World} {gs base n h m : Nat} {seed : List UInt8} {v : Value} {cs : Array Value} {t : TypeId} {fr : Nat × Nat} (r : TL w base n h seed v m) (hg : w.heap[gs]? = some (.cells cs t fr)) (ht : t ≠ 5) (ho : Only gs w w') (hB : gs < base) : TL w' base n h seed v m := by
  obtain ⟨vs, h1, h2⟩ := r
  exact ⟨vs, owns_only h1 ho hB, fun j u hu => (h2 j u hu).box hg ht ho hB⟩

/-- A level is put behind the others, and told to the keys. -/
theorem lev_put {W3 W w6 : World} {g B n h m : Nat} {seed : List UInt8} {sv lv v6 x : Value} {vs : List Value} (k : RKO W g n h sv lv) (hgB : g < B) (O : Only g W3 W) (hB3 : W3.heap.size ≤ B) (o : W.ownsRow B 28 1 lv m vs) (q : ∀ (j : Nat) u, vs[j]? = some u → RS W B u (2 ^ (h - j)) (treeS n seed j)) (rx : RS W B x (2 ^ (h - m)) (treeS n seed m)) (hs : HB W sv seed) (ts : TB W sv)
    (hg : W.grownBy w6 lv.ownBlock) (o6 : w6.ownsRow B 28 1 v6 (m + 1) (vs ++ [x])) :
    RKO w6 g n h sv lv ∧ RKO (w6.setCell ⟨g, 3, none⟩ v6) g n h sv v6 ∧ TL (w6.setCell ⟨g, 3, none⟩ v6) B n h seed v6 (m + 1) ∧ RS (w6.setCell ⟨g, 3, none⟩ v6) B x (2 ^ (h - m)) (treeS n seed m) ∧ HB (w6.setCell ⟨g, 3, none⟩ v6) sv seed ∧ TB (w6.setCell ⟨g, 3, none⟩ v6) sv ∧ Only g W3 (w6.setCell ⟨g, 3, none⟩ v6) := by
  have hfar : ∀ j, j < B → some j ≠ lv.ownBlock := fun j hj e => by have := (o.lt j e.symm).1; omega
  have k6 : RKO w6 g n h sv lv := by
    unfold RKO
    rw [hg.block g k.lt (hfar g hgB)]
    exact k
  have t6 := TL.snoc o q rx hg o6
  have r6 := rx.grown o hg
  obtain ⟨hs6, ts6⟩ := hb_grownR o hg hs ts
  have O67 := (Only.refl g w6).setCell 3 v6
  obtain ⟨hs7, ts7⟩ := hb_box k6 (by decide) O67 hs6 ts6
  have hlt := k.lt
  have O6 : Only g W3 w6 := by
    refine ⟨O.1.grown hg (by omega) (fun j hj => by have := (o.lt j hj).1; omega), fun j hj hj2 => ?_⟩
    rw [hg.block j (Nat.lt_of_lt_of_le hj2 O.size) (hfar j (by omega))]
    exact O.2 j hj hj2
  exact ⟨k6, k6.put3 v6, t6.box k6 (by decide) O67 hgB, r6.box k6 (by decide) O67 hgB, hs7, ts7, O6.trans O67⟩

/-- A slice of no byte in a new block is owned. -/
theorem owns_none (w : World) (e : TypeId) : (w.alloc (.cells #[] e)).ownsRow w.heap.size e 1 (.slice (some ⟨w.heap.size, 0, none⟩) 0 0) 0 [] :=
  ⟨rfl, .inr ⟨w.heap.size, 0, #[], rfl, Nat.le_refl _, heap_alloc_new w _, Nat.le_refl _, Nat.zero_le _, rfl, rfl⟩⟩

end Go.Proofs.YtdjaemobfbbkoaaDoor

namespace Go.Proofs.YtdjaemobfbbkoaaDoor
open Go.RowKit

theorem step_append_hb {P : Program} {w : World} {ops : Array Oper} {o : Oper} {a : Act} {K : Act → World → Prop} {Q : Exit → Act → World → Prop} {E : Prop} (hgd : o.guard = none) (s x : Operand) (t : TypeId)
    (ho : o.op = .call { callee := .builtin .append, args := #[s, x], argTypes := #[t, t] })
    (base : Nat) (e : TypeId) (ht : P.underlying t = some (.slice e)) (hi0 : (P.info? e).map (fun i => (i.zero, i.size, i.bytes)) = some (some (.int .u8 0), 1, 1))
    (v : Value) (n : Nat) (xs : List Value) (hs : a.eval s = v) (hown : w.ownsRow base e 1 v n xs)
    (p : Option Addr) (m c : Nat) (l : List UInt8) (hx : a.eval x = .slice p m c) (hsrc : HB w (.slice p m c) l)
    (hpos : 0 < m) (hbytes : n + m ≤ 140737488355328) (hbase : base ≤ w.heap.size)
    (h : ∀ g cap w', w'.ownsRow base e 1 (.slice (some ⟨g, 0, none⟩) (n + m) cap) (n + m) (xs ++ bcs l) → w.grownBy w' v.ownBlock → K (a.put o.dst (.slice (some ⟨g, 0, none⟩) (n + m) cap)) w') :
    if Region.wanted o (yielded ops a.tmps) = true then Oper.wp P o a w K Q else E := by
  obtain ⟨i, hi, hz, h1, h2⟩ := info_parts hi0
  have hm := hsrc.len.1
  obtain ⟨b, o', rfl, hc⟩ := hsrc.addr hpos
  exact step_append_lies w hgd s x t ho base e i (.int .u8 0) 1 1 ht hi hz h1 h2 rfl (by decide) v n xs hs hown ⟨b, o', none⟩ m c (bcs l) hx (by rw [bcs_length]; omega) hsrc.cells (bcs_one l) hpos (by unfold maxLen; omega) (by omega) hbase w.heap.size rfl (fun g cap w' q1 q2 _ _ => h g cap w' q1 q2)

/-- So onto a slice of none. -/
theorem step_append_hb0 {P : Program} {w : World} {ops : Array Oper} {o : Oper} {a : Act} {K : Act → World → Prop} {Q : Exit → Act → World → Prop} {E : Prop} (hgd : o.guard = none) (s x : Operand) (t : TypeId)
    (ho : o.op = .call { callee := .builtin .append, args := #[s, x], argTypes := #[t, t] })
    (base : Nat) (e : TypeId) (ht : P.underlying t = some (.slice e)) (hi0 : (P.info? e).map (fun i => (i.zero, i.size, i.bytes)) = some (some (.int .u8 0), 1, 1))
    (v : Value) (hs : a.eval s = v) (hown : w.ownsRow base e 1 v 0 [])
    (p : Option Addr) (m c : Nat) (l : List UInt8) (hx : a.eval x = .slice p m c) (hsrc : HB w (.slice p m c) l)
    (hpos : 0 < m) (hbytes : m ≤ 140737488355328) (hbase : base ≤ w.heap.size)
    (h : ∀ g cap w', w'.ownsRow base e 1 (.slice (some ⟨g, 0, none⟩) m cap) m (bcs l) → w.grownBy w' v.ownBlock → K (a.put o.dst (.slice (some ⟨g, 0, none⟩) m cap)) w') :
    if Region.wanted o (yielded ops a.tmps) = true then Oper.wp P o a w K Q else E :=
  step_append_hb hgd s x t ho base e ht hi0 v 0 [] hs hown p m c l hx hsrc hpos (by omega) hbase (fun g cap w' q1 q2 => by
    have e0 : 0 + m = m := by omega
    rw [e0] at q1 ⊢
    exact h g cap w' q1 q2)

/-- What another block holds stays where one block is written. -/
theorem cell_ony {g b o : Nat} {w w' : World} {v : Value} (ho : Only g w w') (hc : w.cell? ⟨b, o, none⟩ = some v) (hb : b ≠ g) : w'.cell? ⟨b, o, none⟩ = some v := by
  rw [World.cell?_of_block (w := w) (ho.block b hb (cell_lt hc))]
  exact hc

/-- Bytes are put behind a signature's path. -/
theorem path_put {W3 wr wA w6 : World} {gs m : Nat} {sig : Nat → List UInt8} {a b y x v6 : Value} {vs : List Value} (O : Only gs W3 wr) (hb : Below wr.heap.size wr wA) (hgs : gs < W3.heap.size) (g0 : wr.heap[gs]? = some (.cells #[a, b, y] 30 (0, 0))) (r1 : wA.ownsRow W3.heap.size 22 1 y m vs) (r2 : ∀ (j : Nat) u, vs[j]? = some u → HB wA u (sig j) ∧ TB wA u) (hx : HB wA x (sig m)) (tx : TB wA x) (hg : wA.grownBy w6 y.ownBlock) (ho : w6.ownsRow W3.heap.size 22 1 v6 (m + 1) (vs ++ [x])) :
    w6.heap[gs]? = some (.cells #[a, b, y] 30 (0, 0)) ∧ (w6.setCell ⟨gs, 2, none⟩ v6).heap[gs]? = some (.cells #[a, b, v6] 30 (0, 0)) ∧ RS (w6.setCell ⟨gs, 2, none⟩ v6) W3.heap.size v6 (m + 1) sig ∧ Only gs W3 (w6.setCell ⟨gs, 2, none⟩ v6) := by
  have s3 := O.size
  have sA := hb.size
  have OA : Only gs W3 wA := O.trans (Only.of_below hb (by omega))
  have hfar : ∀ j, j < W3.heap.size → some j ≠ y.ownBlock := fun j hj e => by have := (r1.lt j e.symm).1; omega
  have g6 : w6.heap[gs]? = some (.cells #[a, b, y] 30 (0, 0)) := by
    rw [hg.block gs (by omega) (hfar gs hgs), hb.block gs (by omega)]
    exact g0
  have O6 : Only gs W3 w6 := by
    refine ⟨OA.1.grown hg (by omega) (fun j hj => by have := (r1.lt j hj).1; omega), fun j hj hj2 => ?_⟩
    rw [hg.block j (by omega) (hfar j hj2)]
    exact OA.2 j hj hj2
  have O67 := (Only.refl gs w6).setCell 2 v6
  have g7 : (w6.setCell ⟨gs, 2, none⟩ v6).heap[gs]? = some (.cells #[a, b, v6] 30 (0, 0)) := by
    rw [heap_setCell_same w6 gs 2 _ _ _ g6]; rfl
  exact ⟨g6, g7, (RS.snoc r1 r2 hx tx hg ho).box g6 (by decide) O67 hgs, O6.trans O67⟩

end Go.Proofs.YtdjaemobfbbkoaaDoor
