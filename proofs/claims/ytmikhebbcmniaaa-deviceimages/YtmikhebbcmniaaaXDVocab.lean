/- What this text holds: the document's device in memory: its block, its two rows of rows of bytes, its row of yes and no (plain facts, no walk). -/
import Derived.Test.YtmikhebbcmniaaaDWriteN
namespace Go.Proofs.Ytmikhebbcmniaaa
open Go.RowKit Go.Maps

/-- Where v points, there is a block of bytes. -/
def TBy (w : World) (v : Value) : Prop := ∀ b o n c, v = .slice (some ⟨b, o, none⟩) n c → ∃ cur fr, w.heap[b]? = some (.cells cur 5 fr)

/-- Blocks of a type stay. -/
def Sty (T : TypeId) (w w' : World) : Prop := ∀ (k : Nat) cur fr, w.heap[k]? = some (.cells cur T fr) → w'.heap[k]? = some (.cells cur T fr)

theorem Sty.trans {T : TypeId} {a b c : World} (h1 : Sty T a b) (h2 : Sty T b c) : Sty T a c := fun k cur fr h => h2 k cur fr (h1 k cur fr h)
theorem Sty.of_below {T : TypeId} {w w' : World} (h : Below w.heap.size w w') : Sty T w w' := fun k _ _ hk => (h.block k (Array.getElem?_eq_some_iff.1 hk).1).trans hk
theorem Sty.of_part {T : TypeId} {S : Nat → Prop} {w w' : World} (h : Part S w w') (hS : ∀ k cur fr, S k → w.heap[k]? = some (.cells cur T fr) → False) : Sty T w w' :=
  fun k cur fr hk => (h.2 k (Array.getElem?_eq_some_iff.1 hk).1 (fun s => hS k cur fr s hk)).trans hk
theorem Sty.setCell {T T' : TypeId} {w : World} {g i : Nat} {x : Value} {cs : Array Value} {f : Nat × Nat} (hg : w.heap[g]? = some (.cells cs T' f)) (hT : T' ≠ T) : Sty T w (w.setCell ⟨g, i, none⟩ x) := by
  intro k cur fr hk
  rw [heap_setCell_other w ⟨g, i, none⟩ k x ?_]
  · exact hk
  · rintro rfl
    rw [hg] at hk
    simp only [Option.some.injEq, Obj.cells.injEq] at hk
    exact hT hk.2.1

/-- Bytes in a block of bytes. -/
def HBT (w : World) (v : Value) (l : List UInt8) : Prop := HB w v l ∧ TBy w v
theorem HBT.sty {w w' : World} {v : Value} {l : List UInt8} (h : HBT w v l) (t : Sty 5 w w') : HBT w' v l := by
  obtain ⟨⟨p, cap, e, h1, h2, h3, h4⟩, h5⟩ := h
  refine ⟨⟨p, cap, e, h1, h2, h3, fun hn => ?_⟩, fun b o n c ev => ?_⟩
  · obtain ⟨b, o, rfl, hc⟩ := h4 hn
    refine ⟨b, o, rfl, fun i x hx => ?_⟩
    obtain ⟨cur, fr, hb⟩ := h5 b o _ _ e
    rw [World.cell?_of_block (w := w) ((t b cur fr hb).trans hb.symm)]
    exact hc i x hx
  · obtain ⟨cur, fr, hb⟩ := h5 b o n c ev
    exact ⟨cur, fr, t b cur fr hb⟩
theorem TBy.of_owns {w : World} {base n : Nat} {v : Value} {xs : List Value} (h : w.ownsRow base 5 1 v n xs) : TBy w v := by
  intro b o m c e
  rcases h.2 with ⟨rfl, _⟩ | ⟨g, cap, cur, rfl, _, hg, _⟩
  · cases e
  · simp only [Value.slice.injEq, Option.some.injEq, Addr.mk.injEq] at e
    obtain ⟨⟨rfl, _, _⟩, _⟩ := e
    exact ⟨cur, _, hg⟩
theorem HBT.of_owns {w : World} {base n : Nat} {v : Value} {l : List UInt8} (h : w.ownsRow base 5 1 v n (bcs l)) : HBT w v l := ⟨HB.of_owns h, TBy.of_owns h⟩

/-- Block g holds rows of bytes, the first n told. -/
def RR (w : World) (g n : Nat) (sig : Nat → List UInt8) : Prop :=
  ∃ cs : Array Value, w.heap[g]? = some (.cells cs 31 (0, 0)) ∧ n ≤ cs.size ∧ ∀ j, j < n → ∃ u, cs[j]? = some u ∧ HBT w u (sig j)

theorem RR.same {w w' : World} {g n : Nat} {sig : Nat → List UInt8} (h : RR w g n sig) (e : w'.heap[g]? = w.heap[g]?) (t : Sty 5 w w') : RR w' g n sig := by
  obtain ⟨cs, h1, h2, h3⟩ := h
  refine ⟨cs, e.trans h1, h2, fun j hj => ?_⟩
  obtain ⟨u, q1, q2⟩ := h3 j hj
  exact ⟨u, q1, q2.sty t⟩
theorem RR.lt {w : World} {g n : Nat} {sig : Nat → List UInt8} (h : RR w g n sig) : g < w.heap.size := by
  obtain ⟨cs, h1, _⟩ := h
  exact (Array.getElem?_eq_some_iff.1 h1).1
theorem RR.cell {w : World} {g n : Nat} {sig : Nat → List UInt8} (h : RR w g n sig) (j : Nat) (hj : j < n) : ∃ u, w.cell? ⟨g, j, none⟩ = some u ∧ HBT w u (sig j) := by
  obtain ⟨cs, h1, h2, h3⟩ := h
  obtain ⟨u, q1, q2⟩ := h3 j hj
  exact ⟨u, by rw [cell_of_row w g j _ _ _ h1]; exact q1, q2⟩
theorem RR.free {w : World} {g n : Nat} {sig : Nat → List UInt8} (h : RR w g n sig) (j : Nat) : w.frozen? ⟨g, j, none⟩ = false := by
  obtain ⟨cs, h1, _⟩ := h
  simp [World.frozen?, h1]
theorem RR.put {w : World} {g n : Nat} {sig : Nat → List UInt8} (h : RR w g n sig) (i : Nat) (x : Value) (l : List UInt8) (hx : HBT w x l) : RR (w.setCell ⟨g, i, none⟩ x) g n (fun j => if j = i then l else sig j) := by
  obtain ⟨cs, h1, h2, h3⟩ := h
  have t : Sty 5 w (w.setCell ⟨g, i, none⟩ x) := Sty.setCell h1 (by decide)
  refine ⟨cs.setIfInBounds i x, heap_setCell_same w g i _ _ _ h1, by simpa using h2, fun j hj => ?_⟩
  by_cases hji : j = i
  · subst hji
    refine ⟨x, by rw [Array.getElem?_setIfInBounds_self_of_lt (by omega)], ?_⟩
    simp only [if_true]
    exact hx.sty t
  · obtain ⟨u, q1, q2⟩ := h3 j hj
    refine ⟨u, by rw [Array.getElem?_setIfInBounds_ne (by omega)]; exact q1, ?_⟩
    simp only [if_neg hji]
    exact q2.sty t

/-- Block g holds yes and no, the first n told. -/
def RW (w : World) (g n : Nat) (wt : Nat → Bool) : Prop :=
  ∃ cs : Array Value, w.heap[g]? = some (.cells cs 4 (0, 0)) ∧ n ≤ cs.size ∧ ∀ j, j < n → cs[j]? = some (.bool (wt j))
theorem RW.same {w w' : World} {g n : Nat} {wt : Nat → Bool} (h : RW w g n wt) (e : w'.heap[g]? = w.heap[g]?) : RW w' g n wt := by
  obtain ⟨cs, h1, h2, h3⟩ := h
  exact ⟨cs, e.trans h1, h2, h3⟩
theorem RW.lt {w : World} {g n : Nat} {wt : Nat → Bool} (h : RW w g n wt) : g < w.heap.size := by
  obtain ⟨cs, h1, _⟩ := h
  exact (Array.getElem?_eq_some_iff.1 h1).1
theorem RW.cell {w : World} {g n : Nat} {wt : Nat → Bool} (h : RW w g n wt) (j : Nat) (hj : j < n) : w.cell? ⟨g, j, none⟩ = some (.bool (wt j)) := by
  obtain ⟨cs, h1, h2, h3⟩ := h
  rw [cell_of_row w g j _ _ _ h1]; exact h3 j hj
theorem RW.free {w : World} {g n : Nat} {wt : Nat → Bool} (h : RW w g n wt) (j : Nat) : w.frozen? ⟨g, j, none⟩ = false := by
  obtain ⟨cs, h1, _⟩ := h
  simp [World.frozen?, h1]
theorem RW.put {w : World} {g n : Nat} {wt : Nat → Bool} (h : RW w g n wt) (i : Nat) (b : Bool) : RW (w.setCell ⟨g, i, none⟩ (.bool b)) g n (fun j => if j = i then b else wt j) := by
  obtain ⟨cs, h1, h2, h3⟩ := h
  refine ⟨cs.setIfInBounds i (.bool b), heap_setCell_same w g i _ _ _ h1, by simpa using h2, fun j hj => ?_⟩
  by_cases hji : j = i
  · subst hji
    rw [Array.getElem?_setIfInBounds_self_of_lt (by omega)]
    simp
  · rw [Array.getElem?_setIfInBounds_ne (by omega)]
    simp only [if_neg hji]
    exact h3 j hj

/-- Block g holds the six fields of the document's device. -/
def XB (w : World) (bx bl bk bw cl ck cw n : Nat) (fuse : Int) (dead : Bool) (ch : Int) : Prop :=
  w.heap[bx]? = some (.cells #[.slice (some ⟨bl, 0, none⟩) n cl, .slice (some ⟨bk, 0, none⟩) n ck, .slice (some ⟨bw, 0, none⟩) n cw, .int .i64 fuse, .bool dead, .int .i64 ch] 74 (0, 0))

theorem XB.cells {w : World} {bx bl bk bw cl ck cw n : Nat} {f : Int} {d : Bool} {c : Int} (h : XB w bx bl bk bw cl ck cw n f d c) : w.cell? ⟨bx, 0, none⟩ = some (.slice (some ⟨bl, 0, none⟩) n cl) ∧ w.cell? ⟨bx, 1, none⟩ = some (.slice (some ⟨bk, 0, none⟩) n ck) ∧ w.cell? ⟨bx, 2, none⟩ = some (.slice (some ⟨bw, 0, none⟩) n cw) ∧ w.cell? ⟨bx, 3, none⟩ = some (.int .i64 f) ∧ w.cell? ⟨bx, 4, none⟩ = some (.bool d) ∧ w.cell? ⟨bx, 5, none⟩ = some (.int .i64 c) := by
  refine ⟨?_, ?_, ?_, ?_, ?_, ?_⟩ <;> rw [cell_of_row w bx _ _ _ _ h] <;> rfl
theorem XB.lt {w : World} {bx bl bk bw cl ck cw n : Nat} {f : Int} {d : Bool} {c : Int} (h : XB w bx bl bk bw cl ck cw n f d c) : bx < w.heap.size := (Array.getElem?_eq_some_iff.1 h).1
theorem XB.free {w : World} {bx bl bk bw cl ck cw n : Nat} {f : Int} {d : Bool} {c : Int} (h : XB w bx bl bk bw cl ck cw n f d c) (i : Nat) : w.frozen? ⟨bx, i, none⟩ = false := by
  unfold XB at h
  simp [World.frozen?, h]
theorem XB.put3 {w : World} {bx bl bk bw cl ck cw n : Nat} {f : Int} {d : Bool} {c : Int} (h : XB w bx bl bk bw cl ck cw n f d c) (x : Int) : XB (w.setCell ⟨bx, 3, none⟩ (.int .i64 x)) bx bl bk bw cl ck cw n x d c := by
  unfold XB; rw [heap_setCell_same w bx 3 _ _ _ h]; rfl
theorem XB.put4 {w : World} {bx bl bk bw cl ck cw n : Nat} {f : Int} {d : Bool} {c : Int} (h : XB w bx bl bk bw cl ck cw n f d c) (x : Bool) : XB (w.setCell ⟨bx, 4, none⟩ (.bool x)) bx bl bk bw cl ck cw n f x c := by
  unfold XB; rw [heap_setCell_same w bx 4 _ _ _ h]; rfl
theorem XB.put5 {w : World} {bx bl bk bw cl ck cw n : Nat} {f : Int} {d : Bool} {c : Int} (h : XB w bx bl bk bw cl ck cw n f d c) (x : Int) : XB (w.setCell ⟨bx, 5, none⟩ (.int .i64 x)) bx bl bk bw cl ck cw n f d x := by
  unfold XB; rw [heap_setCell_same w bx 5 _ _ _ h]; rfl

/-- The document's device: what is in its rows. -/
structure XG (w : World) (bx bl bk bw cl ck cw n : Nat) (now kept : Nat → List UInt8) (wt : Nat → Bool) (f : Int) (d : Bool) (c : Int) : Prop where
  db : XB w bx bl bk bw cl ck cw n f d c
  l : RR w bl n now
  k : RR w bk n kept
  w : RW w bw n wt
  ne : bl ≠ bk
  cp : n ≤ cl ∧ cl ≤ maxLen

theorem XG.nes {w : World} {bx bl bk bw cl ck cw n : Nat} {now kept : Nat → List UInt8} {wt : Nat → Bool} {f : Int} {d : Bool} {c : Int} (h : XG w bx bl bk bw cl ck cw n now kept wt f d c) : bx ≠ bl ∧ bx ≠ bk ∧ bx ≠ bw ∧ bl ≠ bw ∧ bk ≠ bw := by
  have h1 := h.db
  obtain ⟨c1, h2, _⟩ := h.l
  obtain ⟨c2, h3, _⟩ := h.k
  obtain ⟨c3, h4, _⟩ := h.w
  unfold XB at h1
  refine ⟨?_, ?_, ?_, ?_, ?_⟩ <;> rintro rfl
  · rw [h1] at h2; simp at h2
  · rw [h1] at h3; simp at h3
  · rw [h1] at h4; simp at h4
  · rw [h2] at h4; simp at h4
  · rw [h3] at h4; simp at h4

theorem XG.sty {w w' : World} {bx bl bk bw cl ck cw n : Nat} {now kept : Nat → List UInt8} {wt : Nat → Bool} {f : Int} {d : Bool} {c : Int} (h : XG w bx bl bk bw cl ck cw n now kept wt f d c) (t1 : Sty 74 w w') (t2 : Sty 31 w w') (t3 : Sty 4 w w') (t4 : Sty 5 w w') : XG w' bx bl bk bw cl ck cw n now kept wt f d c := by
  obtain ⟨h1, h2, h3, h4, h5, h6⟩ := h
  refine ⟨t1 _ _ _ h1, h2.same ?_ t4, h3.same ?_ t4, h4.same ?_, h5, h6⟩
  · obtain ⟨cs, q, _⟩ := h2; exact (t2 _ _ _ q).trans q.symm
  · obtain ⟨cs, q, _⟩ := h3; exact (t2 _ _ _ q).trans q.symm
  · obtain ⟨cs, q, _⟩ := h4; exact (t3 _ _ _ q).trans q.symm
theorem XG.later {w w' : World} {bx bl bk bw cl ck cw n : Nat} {now kept : Nat → List UInt8} {wt : Nat → Bool} {f : Int} {d : Bool} {c : Int} (h : XG w bx bl bk bw cl ck cw n now kept wt f d c) (hb : Below w.heap.size w w') : XG w' bx bl bk bw cl ck cw n now kept wt f d c :=
  h.sty (Sty.of_below hb) (Sty.of_below hb) (Sty.of_below hb) (Sty.of_below hb)

theorem XG.put3 {w : World} {bx bl bk bw cl ck cw n : Nat} {now kept : Nat → List UInt8} {wt : Nat → Bool} {f : Int} {d : Bool} {c : Int} (h : XG w bx bl bk bw cl ck cw n now kept wt f d c) (x : Int) : XG (w.setCell ⟨bx, 3, none⟩ (.int .i64 x)) bx bl bk bw cl ck cw n now kept wt x d c := by
  have hn := h.nes
  have t : Sty 5 w (w.setCell ⟨bx, 3, none⟩ (.int .i64 x)) := Sty.setCell h.db (by decide)
  exact ⟨h.db.put3 x, h.l.same (heap_setCell_other _ _ _ _ (fun e => hn.1 e.symm)) t, h.k.same (heap_setCell_other _ _ _ _ (fun e => hn.2.1 e.symm)) t, h.w.same (heap_setCell_other _ _ _ _ (fun e => hn.2.2.1 e.symm)), h.ne, h.cp⟩
theorem XG.put4 {w : World} {bx bl bk bw cl ck cw n : Nat} {now kept : Nat → List UInt8} {wt : Nat → Bool} {f : Int} {d : Bool} {c : Int} (h : XG w bx bl bk bw cl ck cw n now kept wt f d c) (x : Bool) : XG (w.setCell ⟨bx, 4, none⟩ (.bool x)) bx bl bk bw cl ck cw n now kept wt f x c := by
  have hn := h.nes
  have t : Sty 5 w (w.setCell ⟨bx, 4, none⟩ (.bool x)) := Sty.setCell h.db (by decide)
  exact ⟨h.db.put4 x, h.l.same (heap_setCell_other _ _ _ _ (fun e => hn.1 e.symm)) t, h.k.same (heap_setCell_other _ _ _ _ (fun e => hn.2.1 e.symm)) t, h.w.same (heap_setCell_other _ _ _ _ (fun e => hn.2.2.1 e.symm)), h.ne, h.cp⟩
theorem XG.put5 {w : World} {bx bl bk bw cl ck cw n : Nat} {now kept : Nat → List UInt8} {wt : Nat → Bool} {f : Int} {d : Bool} {c : Int} (h : XG w bx bl bk bw cl ck cw n now kept wt f d c) (x : Int) : XG (w.setCell ⟨bx, 5, none⟩ (.int .i64 x)) bx bl bk bw cl ck cw n now kept wt f d x := by
  have hn := h.nes
  have t : Sty 5 w (w.setCell ⟨bx, 5, none⟩ (.int .i64 x)) := Sty.setCell h.db (by decide)
  exact ⟨h.db.put5 x, h.l.same (heap_setCell_other _ _ _ _ (fun e => hn.1 e.symm)) t, h.k.same (heap_setCell_other _ _ _ _ (fun e => hn.2.1 e.symm)) t, h.w.same (heap_setCell_other _ _ _ _ (fun e => hn.2.2.1 e.symm)), h.ne, h.cp⟩
theorem XG.putL {w : World} {bx bl bk bw cl ck cw n : Nat} {now kept : Nat → List UInt8} {wt : Nat → Bool} {f : Int} {d : Bool} {c : Int} (h : XG w bx bl bk bw cl ck cw n now kept wt f d c) (i : Nat) (x : Value) (l : List UInt8) (hx : HBT w x l) : XG (w.setCell ⟨bl, i, none⟩ x) bx bl bk bw cl ck cw n (fun j => if j = i then l else now j) kept wt f d c := by
  have hn := h.nes
  obtain ⟨cs, q, _⟩ := h.l
  have t : Sty 5 w (w.setCell ⟨bl, i, none⟩ x) := Sty.setCell q (by decide)
  exact ⟨(heap_setCell_other _ _ _ _ (fun e => hn.1 e)).trans h.db, h.l.put i x l hx, h.k.same (heap_setCell_other _ _ _ _ (fun e => h.ne e.symm)) t, h.w.same (heap_setCell_other _ _ _ _ (fun e => hn.2.2.2.1 e.symm)), h.ne, h.cp⟩
theorem XG.putK {w : World} {bx bl bk bw cl ck cw n : Nat} {now kept : Nat → List UInt8} {wt : Nat → Bool} {f : Int} {d : Bool} {c : Int} (h : XG w bx bl bk bw cl ck cw n now kept wt f d c) (i : Nat) (x : Value) (l : List UInt8) (hx : HBT w x l) : XG (w.setCell ⟨bk, i, none⟩ x) bx bl bk bw cl ck cw n now (fun j => if j = i then l else kept j) wt f d c := by
  have hn := h.nes
  obtain ⟨cs, q, _⟩ := h.k
  have t : Sty 5 w (w.setCell ⟨bk, i, none⟩ x) := Sty.setCell q (by decide)
  exact ⟨(heap_setCell_other _ _ _ _ (fun e => hn.2.1 e)).trans h.db, h.l.same (heap_setCell_other _ _ _ _ (fun e => h.ne e)) t, h.k.put i x l hx, h.w.same (heap_setCell_other _ _ _ _ (fun e => hn.2.2.2.2 e.symm)), h.ne, h.cp⟩
theorem XG.putW {w : World} {bx bl bk bw cl ck cw n : Nat} {now kept : Nat → List UInt8} {wt : Nat → Bool} {f : Int} {d : Bool} {c : Int} (h : XG w bx bl bk bw cl ck cw n now kept wt f d c) (i : Nat) (b : Bool) : XG (w.setCell ⟨bw, i, none⟩ (.bool b)) bx bl bk bw cl ck cw n now kept (fun j => if j = i then b else wt j) f d c := by
  have hn := h.nes
  obtain ⟨cs, q, _⟩ := h.w
  have t : Sty 5 w (w.setCell ⟨bw, i, none⟩ (.bool b)) := Sty.setCell q (by decide)
  exact ⟨(heap_setCell_other _ _ _ _ (fun e => hn.2.2.1 e)).trans h.db, h.l.same (heap_setCell_other _ _ _ _ (fun e => hn.2.2.2.1 e)) t, h.k.same (heap_setCell_other _ _ _ _ (fun e => hn.2.2.2.2 e)) t, h.w.put i b, h.ne, h.cp⟩
theorem XG.congr {w : World} {bx bl bk bw cl ck cw n : Nat} {now kept now' kept' : Nat → List UInt8} {wt wt' : Nat → Bool} {f : Int} {d : Bool} {c : Int} (h : XG w bx bl bk bw cl ck cw n now kept wt f d c) (e1 : ∀ j, j < n → now j = now' j) (e2 : ∀ j, j < n → kept j = kept' j) (e3 : ∀ j, j < n → wt j = wt' j) : XG w bx bl bk bw cl ck cw n now' kept' wt' f d c := by
  obtain ⟨h1, ⟨c1, a1, a2, a3⟩, ⟨c2, b1, b2, b3⟩, ⟨c3, d1, d2, d3⟩, h5, h6⟩ := h
  refine ⟨h1, ⟨c1, a1, a2, fun j hj => ?_⟩, ⟨c2, b1, b2, fun j hj => ?_⟩, ⟨c3, d1, d2, fun j hj => ?_⟩, h5, h6⟩
  · rw [← e1 j hj]; exact a3 j hj
  · rw [← e2 j hj]; exact b3 j hj
  · rw [← e3 j hj]; exact d3 j hj

def nowF (s : DevS) : Nat → List UInt8 := fun j => s.now.getD j []
def keptF (s : DevS) : Nat → List UInt8 := fun j => (s.old j).getD (s.now.getD j [])
def waitF (s : DevS) : Nat → Bool := fun j => (s.old j).isSome

/-- The document's device has s. -/
structure XDev (w : World) (bx bl bk bw cl ck cw : Nat) (s : DevS) : Prop where
  ok : s.Ok
  g : XG w bx bl bk bw cl ck cw s.now.length (nowF s) (keptF s) (waitF s) s.fuse s.dead (s.ch : Int)

/-- Its blocks. -/
def xS (bx bl bk bw : Nat) : Nat → Prop := fun k => k = bx ∨ k = bl ∨ k = bk ∨ k = bw

theorem XDev.later {w w' : World} {bx bl bk bw cl ck cw : Nat} {s : DevS} (h : XDev w bx bl bk bw cl ck cw s) (hb : Below w.heap.size w w') : XDev w' bx bl bk bw cl ck cw s := ⟨h.ok, h.g.later hb⟩
/-- The program's device changes, the document's stays. -/
theorem XDev.dev {w w' : World} {bx bl bk bw cl ck cw bd bn bm : Nat} {s t : DevS} (h : XDev w bx bl bk bw cl ck cw s) (hd : Dev w bd bn bm t) (hp : Part (dS bd bn bm) w w') : XDev w' bx bl bk bw cl ck cw s := by
  have h1 := hd.db
  obtain ⟨c2, h2, _⟩ := hd.sr
  obtain ⟨D, ⟨es, clock, h3, _⟩, _⟩ := hd.dm
  unfold DB at h1
  have key : ∀ T : TypeId, 65 ≠ T → 76 ≠ T → Sty T w w' := fun T n1 n2 => Sty.of_part hp (by
    rintro k cur fr (rfl | rfl | rfl) hk
    · rw [h1] at hk; simp only [Option.some.injEq, Obj.cells.injEq] at hk; exact n1 hk.2.1
    · rw [h2] at hk; simp only [Option.some.injEq, Obj.cells.injEq] at hk; exact n2 hk.2.1
    · rw [h3] at hk; simp at hk)
  exact ⟨h.ok, h.g.sty (key _ (by decide) (by decide)) (key _ (by decide) (by decide)) (key _ (by decide) (by decide)) (key _ (by decide) (by decide))⟩
/-- The document's device changes, the program's stays. -/
theorem Dev.xdev {w w' : World} {bx bl bk bw cl ck cw bd bn bm : Nat} {s t : DevS} (hd : Dev w bd bn bm t) (h : XDev w bx bl bk bw cl ck cw s) (hp : Part (xS bx bl bk bw) w w') : Dev w' bd bn bm t := by
  have h1 := hd.db
  obtain ⟨c2, h2, _⟩ := hd.sr
  obtain ⟨D, ⟨es, clock, h3, _⟩, _⟩ := hd.dm
  have g1 := h.g.db
  obtain ⟨c4, g2, _⟩ := h.g.l
  obtain ⟨c5, g3, _⟩ := h.g.k
  obtain ⟨c6, g4, _⟩ := h.g.w
  unfold DB at h1
  unfold XB at g1
  refine hd.part hp ⟨?_, ?_, ?_⟩ <;> rintro (rfl | rfl | rfl | rfl)
  · rw [h1] at g1; simp at g1
  · rw [h1] at g2; simp at g2
  · rw [h1] at g3; simp at g3
  · rw [h1] at g4; simp at g4
  · rw [h2] at g1; simp at g1
  · rw [h2] at g2; simp at g2
  · rw [h2] at g3; simp at g3
  · rw [h2] at g4; simp at g4
  · rw [h3] at g1; simp at g1
  · rw [h3] at g2; simp at g2
  · rw [h3] at g3; simp at g3
  · rw [h3] at g4; simp at g4

theorem nowF_row {s : DevS} (h : s.Ok) (j : Nat) (hj : j < s.now.length) : s.now[j]? = some (nowF s j) ∧ (nowF s j).length = 64 := by
  have e : s.now[j]? = some (nowF s j) := by
    unfold nowF
    rw [List.getElem?_eq_getElem hj, List.getD_eq_getElem?_getD, List.getElem?_eq_getElem hj]
    rfl
  exact ⟨e, h.rows _ (List.mem_of_getElem? e)⟩

end Go.Proofs.Ytmikhebbcmniaaa
