/- What this text holds: a device in memory: its block, its sectors' block, its map's; worlds that part in given blocks alone (no walk). -/
import Derived.Test.YtnmjggljicanmaaDoorDPlain
import Derived.Maps.OwnSet
import Derived.Deep.MidRow
import Derived.Lib.SlKeysI
namespace Go.Proofs.YtnmjggljicanmaaDoor
open Go.RowKit Go.Maps

/-- The second world grew out of the first one, and of what was there nothing is changed but the blocks of S. -/
def Part (S : Nat → Prop) (w w' : World) : Prop := Below 0 w w' ∧ ∀ k, k < w.heap.size → ¬ S k → w'.heap[k]? = w.heap[k]?

theorem Part.refl (S : Nat → Prop) (w : World) : Part S w w := ⟨Below.refl _ _, fun _ _ _ => rfl⟩
theorem Part.size {S : Nat → Prop} {w w' : World} (h : Part S w w') : w.heap.size ≤ w'.heap.size := h.1.size
theorem Part.trans {S T : Nat → Prop} {a b c : World} (h1 : Part S a b) (h2 : Part T b c) (hT : ∀ k, k < a.heap.size → T k → S k) : Part S a c :=
  ⟨h1.1.trans h2.1, fun k hk hs => (h2.2 k (Nat.lt_of_lt_of_le hk h1.size) (fun t => hs (hT k hk t))).trans (h1.2 k hk hs)⟩
theorem Part.mono {S T : Nat → Prop} {a b : World} (h : Part S a b) (hT : ∀ k, k < a.heap.size → S k → T k) : Part T a b := ⟨h.1, fun k hk ht => h.2 k hk (fun s => ht (hT k hk s))⟩
theorem Part.of_below {S : Nat → Prop} {w w' : World} (h : Below w.heap.size w w') : Part S w w' := ⟨h.mono (Nat.zero_le _), fun k hk _ => h.block k hk⟩
theorem Part.below {S : Nat → Prop} {w w' : World} {B : Nat} (h : Part S w w') (hB : B ≤ w.heap.size) (hS : ∀ k, S k → B ≤ k) : Below B w w' :=
  ⟨h.1.os, h.1.tape, h.1.output, h.1.size, fun k hk => h.2 k (by omega) (fun s => by have := hS k s; omega)⟩
theorem Part.setCell {S : Nat → Prop} {a w : World} (h : Part S a w) (p : Addr) (u : Value) (hp : S p.block) : Part S a (w.setCell p u) :=
  ⟨h.1.setCell (Nat.zero_le _) u, fun k hk hs => by rw [heap_setCell_other w p k u (fun e => hs (e ▸ hp))]; exact h.2 k hk hs⟩
theorem Part.alloc {S : Nat → Prop} {a w : World} (h : Part S a w) (o : Obj) : Part S a (w.alloc o) :=
  ⟨h.1.alloc (Nat.zero_le _) o, fun k hk hs => by rw [Below.heap_alloc w o k (Nat.lt_of_lt_of_le hk h.size)]; exact h.2 k hk hs⟩
theorem Part.drew {S : Nat → Prop} {a w : World} (h : Part S a w) : Part S a w.drew := ⟨h.1.drew, fun k hk hs => h.2 k hk hs⟩
theorem Part.grown {S : Nat → Prop} {a w w' : World} {row : Option Nat} (h : Part S a w) (hg : w.grownBy w' row) (hr : ∀ b, row = some b → S b) : Part S a w' :=
  ⟨h.1.grown hg (Nat.zero_le _) (fun _ _ => Nat.zero_le _), fun k hk hs => by
    have h1 : w'.heap[k]? = w.heap[k]? := hg.block k (Nat.lt_of_lt_of_le hk h.size) (fun e => hs (hr k e.symm))
    rw [h1]; exact h.2 k hk hs⟩

theorem heap_setCells_far (g : Nat) : ∀ (vs : List Value) (o : Nat) (w : World) (k : Nat), k ≠ g → (w.setCells g o vs).heap[k]? = w.heap[k]?
  | [], _, _, _, _ => rfl
  | v :: vs, o, w, k, hk => by
    rw [World.setCells, heap_setCells_far g vs (o + 1) _ k hk, heap_setCell_other w ⟨g, o, none⟩ k v hk]
theorem size_setCells (g : Nat) : ∀ (vs : List Value) (o : Nat) (w : World), (w.setCells g o vs).heap.size = w.heap.size
  | [], _, _ => rfl
  | v :: vs, o, w => by rw [World.setCells, size_setCells g vs]; simp
theorem below_setCells0 (g : Nat) : ∀ (vs : List Value) (o : Nat) (a w : World), Below 0 a w → Below 0 a (w.setCells g o vs)
  | [], _, _, _, h => h
  | v :: vs, o, a, w, h => by rw [World.setCells]; exact below_setCells0 g vs (o + 1) a _ (h.setCell (Nat.zero_le _) v)
theorem Part.setCells {S : Nat → Prop} {a w : World} (h : Part S a w) (g o : Nat) (vs : List Value) (hp : S g) : Part S a (w.setCells g o vs) :=
  ⟨below_setCells0 g vs o a w h.1, fun k hk hs => by rw [heap_setCells_far g vs o w k (fun e => hs (e ▸ hp))]; exact h.2 k hk hs⟩
theorem block_setCells (g : Nat) (t : TypeId) : ∀ (vs : List Value) (o : Nat) (w : World) (cs : Array Value), w.heap[g]? = some (.cells cs t (0, 0)) → ∃ cs', (w.setCells g o vs).heap[g]? = some (.cells cs' t (0, 0)) ∧ cs'.size = cs.size
  | [], _, _, cs, h => ⟨cs, h, rfl⟩
  | v :: vs, o, w, cs, h => by
    rw [World.setCells]
    obtain ⟨cs', h1, h2⟩ := block_setCells g t vs (o + 1) (w.setCell ⟨g, o, none⟩ v) _ (heap_setCell_same w g o _ _ _ h)
    exact ⟨cs', h1, by rw [h2]; simp⟩

/-- Block g holds rows of 64 bytes, one behind the other (and perhaps room behind them). -/
def SR (w : World) (g : Nat) (now : List (List UInt8)) : Prop := ∃ cs : Array Value, w.heap[g]? = some (.cells cs 60 (0, 0)) ∧ ∀ (j : Nat) x, now.flatten[j]? = some x → cs[j]? = some (bc x)

theorem SR.same {w w' : World} {g : Nat} {now : List (List UInt8)} (h : SR w g now) (e : w'.heap[g]? = w.heap[g]?) : SR w' g now := by
  obtain ⟨cs, h1, h2⟩ := h
  exact ⟨cs, e.trans h1, h2⟩
theorem SR.lt {w : World} {g : Nat} {now : List (List UInt8)} (h : SR w g now) : g < w.heap.size := by
  obtain ⟨cs, h1, h2⟩ := h
  exact (Array.getElem?_eq_some_iff.1 h1).1
theorem SR.cell {w : World} {g : Nat} {now : List (List UInt8)} (h : SR w g now) (j : Nat) (x : UInt8) (hx : now.flatten[j]? = some x) : w.cell? ⟨g, j, none⟩ = some (bc x) := by
  obtain ⟨cs, h1, h2⟩ := h
  rw [cell_of_row w g j _ _ _ h1]
  exact h2 j x hx
theorem SR.range {w : World} {g : Nat} {now : List (List UInt8)} (h : SR w g now) (hr : ∀ r ∈ now, r.length = 64) (i : Nat) (r : List UInt8) (hi : now[i]? = some r) : w.rangeAt g (i * 64) (bcs r) := by
  intro j v hv
  have hj : j < r.length := by
    have := (List.getElem?_eq_some_iff.1 hv).1
    rwa [bcs_length] at this
  rw [hr r (List.mem_of_getElem? hi)] at hj
  rw [bcs_get] at hv
  obtain ⟨x, hx, rfl⟩ := Option.map_eq_some_iff.1 hv
  refine h.cell _ x ?_
  rw [flat_get now hr i j hj, hi]
  exact hx
theorem SR.there {w : World} {g : Nat} {now : List (List UInt8)} (h : SR w g now) (hr : ∀ r ∈ now, r.length = 64) (i : Nat) (hi : i < now.length) : w.there g (i * 64) 64 := by
  intro j hj
  refine ⟨?_, ?_⟩
  · have hl : j < (now[i]).length := by rw [hr _ (List.getElem_mem hi)]; exact hj
    have := h.cell (i * 64 + j) ((now[i])[j]) (by rw [flat_get now hr i j hj, List.getElem?_eq_getElem hi]; simp [List.getElem?_eq_getElem hl])
    rw [this]
    rfl
  · obtain ⟨cs, h1, h2⟩ := h
    simp [World.frozen?, h1]
theorem SR.put {w : World} {g : Nat} {now : List (List UInt8)} (h : SR w g now) (hr : ∀ r ∈ now, r.length = 64) (i : Nat) (hi : i < now.length) (l : List UInt8) (hl : l.length = 64) : SR (w.setCells g (i * 64) (bcs l)) g (now.set i l) := by
  have ht := h.there hr i hi
  obtain ⟨cs, h1, h2⟩ := h
  obtain ⟨cs', e1, e2⟩ := block_setCells g 60 (bcs l) (i * 64) w cs h1
  have hr' : ∀ r ∈ now.set i l, r.length = 64 := fun r h => by
    rcases List.mem_or_eq_of_mem_set h with h | h
    · exact hr r h
    · exact h ▸ hl
  refine ⟨cs', e1, fun m x hx => ?_⟩
  have c1 : (w.setCells g (i * 64) (bcs l)).cell? ⟨g, m, none⟩ = cs'[m]? := by rw [cell_of_row _ g m _ _ _ e1]
  rw [← c1]
  have hm : m = m / 64 * 64 + m % 64 := by omega
  have hmm : m % 64 < 64 := by omega
  by_cases hin : i * 64 ≤ m ∧ m < i * 64 + 64
  · have e3 : m / 64 = i := by omega
    have e4 : m = i * 64 + m % 64 := by omega
    have hb : m % 64 < (bcs l).length := by rw [bcs_length]; omega
    have c2 := World.cell?_setCells_in g (bcs l) (i * 64) w (fun j hj => (ht j (by rw [bcs_length] at hj; omega)).1) (m % 64) hb
    rw [← e4] at c2
    rw [c2, ← List.getElem?_eq_getElem hb, bcs_get]
    rw [e4, flat_get _ hr' i _ hmm, List.getElem?_set_self hi] at hx
    have hx2 : l[m % 64]? = some x := hx
    rw [hx2]
    rfl
  · have c2 := World.cell?_setCells_out g (bcs l) (i * 64) w ⟨g, m, none⟩ (fun _ _ => by simp only [bcs_length, hl]; omega)
    rw [c2, cell_of_row w g m _ _ _ h1]
    refine h2 m x ?_
    rw [hm, flat_get _ hr' _ _ hmm, List.getElem?_set_ne (by omega)] at hx
    rw [hm, flat_get _ hr _ _ hmm]
    exact hx

/-- How an element of the map reads: as it is. -/
def hR (v : Value) : Option (DataW Value × List MemPlace) := some (.held v, [])
/-- A row of bytes as an array. -/
def secV (l : List UInt8) : Value := .agg (bcs l).toArray

/-- What the map is. -/
def MapIs (D : DataW Value) (old : Nat → Option (List UInt8)) : Prop :=
  (∀ x : Int, Maps.has D (.int .i64 x) = true ↔ ∃ i : Nat, x = (i : Int) ∧ (old i).isSome = true) ∧ ∀ (i : Nat) l, old i = some l → ∀ zd, D.atKey (.int .i64 (i : Int)) zd = .held (secV l)

theorem mapIs_empty : MapIs (.map []) (fun _ => none) := ⟨fun x => by simp [Maps.has], fun i l h => by cases h⟩
theorem mapIs_has {D : DataW Value} {old : Nat → Option (List UInt8)} (h : MapIs D old) (i : Nat) : Maps.has D (.int .i64 (i : Int)) = (old i).isSome := by
  cases e : (old i).isSome
  · cases hh : Maps.has D (.int .i64 (i : Int))
    · rfl
    · obtain ⟨j, hj, h2⟩ := (h.1 _).1 hh
      obtain rfl : i = j := by omega
      rw [e] at h2; cases h2
  · exact (h.1 _).2 ⟨i, rfl, e⟩
theorem keyLit (x : Int) : WideAt.IsKeyLit (.int .i64 x) := True.intro
theorem mapIs_put {D : DataW Value} {old : Nat → Option (List UInt8)} (h : MapIs D old) (hm : IsMap D) (i : Nat) (l : List UInt8) : MapIs (D.put (.int .i64 (i : Int)) (.held (secV l))) (fun j => if j = i then some l else old j) := by
  refine ⟨fun x => ?_, fun j m e zd => ?_⟩
  · by_cases hx : x = (i : Int)
    · subst hx
      rw [Maps.has_put_same hm (keyLit _)]
      exact ⟨fun _ => ⟨i, rfl, by simp⟩, fun _ => rfl⟩
    · rw [Maps.has_put_other (by simpa using hx), h.1 x]
      constructor
      · rintro ⟨j, rfl, hj⟩
        exact ⟨j, rfl, by simp only; rw [if_neg (by omega)]; exact hj⟩
      · rintro ⟨j, rfl, hj⟩
        simp only at hj
        rw [if_neg (by omega)] at hj
        exact ⟨j, rfl, hj⟩
  · by_cases hj : j = i
    · subst hj
      simp only at e
      rw [if_pos trivial] at e
      cases e
      exact Maps.atKey_put_same hm (keyLit _) _ _
    · simp only at e
      rw [if_neg hj] at e
      rw [Maps.atKey_put_other (by simp; omega)]
      exact h.2 j m e zd

/-- Block g holds a device's five fields. -/
def DB (w : World) (g bn bm n cp : Nat) (fuse : Int) (dead : Bool) (ch : Int) : Prop :=
  w.heap[g]? = some (.cells #[.slice (some ⟨bn, 0, none⟩) n cp, .map (some bm), .int .i64 fuse, .bool dead, .int .i64 ch] 58 (0, 0))

theorem DB.cells {w : World} {g bn bm n cp : Nat} {f : Int} {d : Bool} {c : Int} (h : DB w g bn bm n cp f d c) : w.cell? ⟨g, 0, none⟩ = some (.slice (some ⟨bn, 0, none⟩) n cp) ∧ w.cell? ⟨g, 1, none⟩ = some (.map (some bm)) ∧ w.cell? ⟨g, 2, none⟩ = some (.int .i64 f) ∧ w.cell? ⟨g, 3, none⟩ = some (.bool d) ∧ w.cell? ⟨g, 4, none⟩ = some (.int .i64 c) := by
  refine ⟨?_, ?_, ?_, ?_, ?_⟩ <;> rw [cell_of_row w g _ _ _ _ h] <;> rfl
theorem DB.same {w w' : World} {g bn bm n cp : Nat} {f : Int} {d : Bool} {c : Int} (h : DB w g bn bm n cp f d c) (e : w'.heap[g]? = w.heap[g]?) : DB w' g bn bm n cp f d c := e.trans h
theorem DB.lt {w : World} {g bn bm n cp : Nat} {f : Int} {d : Bool} {c : Int} (h : DB w g bn bm n cp f d c) : g < w.heap.size := (Array.getElem?_eq_some_iff.1 h).1
theorem DB.free {w : World} {g bn bm n cp : Nat} {f : Int} {d : Bool} {c : Int} (h : DB w g bn bm n cp f d c) (i : Nat) : w.frozen? ⟨g, i, none⟩ = false := by
  unfold DB at h
  simp [World.frozen?, h]
theorem DB.put1 {w : World} {g bn bm n cp : Nat} {f : Int} {d : Bool} {c : Int} (h : DB w g bn bm n cp f d c) (m : Nat) : DB (w.setCell ⟨g, 1, none⟩ (.map (some m))) g bn m n cp f d c := by
  unfold DB; rw [heap_setCell_same w g 1 _ _ _ h]; rfl
theorem DB.put2 {w : World} {g bn bm n cp : Nat} {f : Int} {d : Bool} {c : Int} (h : DB w g bn bm n cp f d c) (x : Int) : DB (w.setCell ⟨g, 2, none⟩ (.int .i64 x)) g bn bm n cp x d c := by
  unfold DB; rw [heap_setCell_same w g 2 _ _ _ h]; rfl
theorem DB.put3 {w : World} {g bn bm n cp : Nat} {f : Int} {d : Bool} {c : Int} (h : DB w g bn bm n cp f d c) (x : Bool) : DB (w.setCell ⟨g, 3, none⟩ (.bool x)) g bn bm n cp f x c := by
  unfold DB; rw [heap_setCell_same w g 3 _ _ _ h]; rfl
theorem DB.put4 {w : World} {g bn bm n cp : Nat} {f : Int} {d : Bool} {c : Int} (h : DB w g bn bm n cp f d c) (x : Int) : DB (w.setCell ⟨g, 4, none⟩ (.int .i64 x)) g bn bm n cp f d x := by
  unfold DB; rw [heap_setCell_same w g 4 _ _ _ h]; rfl

/-- Block g holds a map of sectors. -/
def DM (w : World) (g n : Nat) (old : Nat → Option (List UInt8)) : Prop := ∃ D, w.ownsMap Tryd.prog 3 hR g n D ∧ MapIs D old

theorem DM.same {w w' : World} {g n : Nat} {old : Nat → Option (List UInt8)} (h : DM w g n old) (e : w'.heap[g]? = w.heap[g]?) : DM w' g n old := by
  obtain ⟨D, ⟨es, clock, h1, h2, h3, h4⟩, h5⟩ := h
  exact ⟨D, ⟨es, clock, e.trans h1, h2, h3, h4⟩, h5⟩
theorem DM.lt {w : World} {g n : Nat} {old : Nat → Option (List UInt8)} (h : DM w g n old) : g < w.heap.size := by
  obtain ⟨D, h1, _⟩ := h
  exact h1.lt
theorem DM.made (w : World) (n : Nat) : DM (w.alloc (.map #[] 0)) w.heap.size n (fun _ => none) := ⟨_, (World.ownsMap_made w Tryd.prog 3 hR).mono (Nat.zero_le _), mapIs_empty⟩

/-- A device at the blocks bd, bn, bm has s. -/
structure Dev (w : World) (bd bn bm : Nat) (s : DevS) : Prop where
  ok : s.Ok
  db : DB w bd bn bm s.now.length s.cap s.fuse s.dead (s.ch : Int)
  sr : SR w bn s.now
  dm : DM w bm s.ch s.old

theorem Dev.ne {w : World} {bd bn bm : Nat} {s : DevS} (h : Dev w bd bn bm s) : bd ≠ bn ∧ bd ≠ bm ∧ bn ≠ bm := by
  have h1 := h.db
  obtain ⟨cs, h2, _⟩ := h.sr
  obtain ⟨D, ⟨es, clock, h3, _⟩, _⟩ := h.dm
  unfold DB at h1
  refine ⟨?_, ?_, ?_⟩ <;> rintro rfl
  · rw [h1] at h2; simp at h2
  · rw [h1] at h3; simp at h3
  · rw [h2] at h3; simp at h3
theorem Dev.same {w w' : World} {bd bn bm : Nat} {s : DevS} (h : Dev w bd bn bm s) (e : ∀ k, k = bd ∨ k = bn ∨ k = bm → w'.heap[k]? = w.heap[k]?) : Dev w' bd bn bm s :=
  ⟨h.ok, h.db.same (e bd (.inl rfl)), h.sr.same (e bn (.inr (.inl rfl))), h.dm.same (e bm (.inr (.inr rfl)))⟩
theorem Dev.part {w w' : World} {bd bn bm : Nat} {s : DevS} {S : Nat → Prop} (h : Dev w bd bn bm s) (hp : Part S w w') (hS : ¬ S bd ∧ ¬ S bn ∧ ¬ S bm) : Dev w' bd bn bm s :=
  h.same (by
    rintro k (rfl | rfl | rfl)
    · exact hp.2 _ h.db.lt hS.1
    · exact hp.2 _ h.sr.lt hS.2.1
    · exact hp.2 _ h.dm.lt hS.2.2)
theorem Dev.later {w w' : World} {bd bn bm : Nat} {s : DevS} (h : Dev w bd bn bm s) (hp : Below w.heap.size w w') : Dev w' bd bn bm s :=
  h.part (S := fun _ => False) (Part.of_below hp) ⟨id, id, id⟩

/-- The blocks of a device. -/
def dS (bd bn bm : Nat) : Nat → Prop := fun k => k = bd ∨ k = bn ∨ k = bm

end Go.Proofs.YtnmjggljicanmaaDoor
