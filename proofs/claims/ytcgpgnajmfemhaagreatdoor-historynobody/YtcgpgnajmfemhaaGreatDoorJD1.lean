/- What this text holds: plain facts (no program): what a device has, what its changes and a crash make of it; rows of 64 bytes one behind the other. What this text holds: a device in memory: its block, its sectors' block, its map's; worlds that part in given blocks alone (no walk). What this text proves: the walks of a device's missing, has, change, settle, Sync, Fuse, Dead and Changes over this program. What this text proves: what a look into a device's map of sectors, and a store into it, do, over this program. -/
import Derived.Test.YtcgpgnajmfemhaaGreatDoorJOw
import Derived.Maps.OwnSet
import Derived.Deep.MidRow
import Derived.Lib.SlKeysI
import Derived.BigQuiet
import Derived.Deep.WholeRow
namespace Go.Proofs.YtcgpgnajmfemhaaGreatDoor

/-- What a device has: what was written last, of the sectors that wait what they were, how many changes are left (-1: no fuse), whether it has stopped, how many changes were done, how much room its sectors' row has. -/
structure DevS where
  now : List (List UInt8)
  old : Nat → Option (List UInt8)
  fuse : Int
  dead : Bool
  ch : Nat
  cap : Nat

/-- A device that may be. -/
structure DevS.Ok (s : DevS) : Prop where
  pos : 1 ≤ s.now.length
  most : s.now.length ≤ 16384
  rows : ∀ r ∈ s.now, r.length = 64
  olds : ∀ i l, s.old i = some l → i < s.now.length ∧ l.length = 64
  fuse0 : -1 ≤ s.fuse
  fuse1 : s.fuse ≤ 9223372036854775807
  chs : s.ch ≤ 1099511627776

/-- Does it stop here? -/
def DevS.stops (s : DevS) : Bool := s.dead || s.fuse == 0

/-- A change is counted. -/
def DevS.counted (s : DevS) : DevS := if s.stops then { s with dead := true } else { s with fuse := if s.fuse = -1 then -1 else s.fuse - 1, ch := s.ch + 1 }
def DevS.err (s : DevS) : Int := if s.stops then 70 else 0

def oldW (s : DevS) (i : Nat) : Nat → Option (List UInt8) := fun j => if j = i then (match s.old i with | some l => some l | none => s.now[i]?) else s.old j

/-- A sector is written. -/
def DevS.write (s : DevS) (i : Nat) (l : List UInt8) : DevS := if s.stops then s.counted else { s.counted with old := oldW s i, now := s.now.set i l }
/-- All is synced. -/
def DevS.sync (s : DevS) : DevS := if s.stops then s.counted else { s.counted with old := fun _ => none }
def DevS.fused (s : DevS) (n : Int) : DevS := { s with fuse := n }

/-- The sectors that wait, rising. -/
def DevS.waits (s : DevS) : List Nat := (List.range s.now.length).filter fun i => (s.old i).isSome

/-- Does keep have a byte at k that is not 0? -/
def keeps (keep : List UInt8) (k : Nat) : Bool := match keep[k]? with | some b => b != 0 | none => false

/-- What is left behind a crash, of the sectors that wait, from the k-th on. -/
def crashTo (old : Nat → Option (List UInt8)) (keep : List UInt8) (now : List (List UInt8)) : List Nat → Nat → List (List UInt8)
  | [], _ => now
  | i :: r, k => crashTo old keep (if keeps keep k then now else now.set i ((old i).getD [])) r (k + 1)

def DevS.crash (s : DevS) (keep : List UInt8) : DevS := { s with now := crashTo s.old keep s.now s.waits 0, old := fun _ => none, fuse := -1, dead := false }

theorem counted_now (s : DevS) : s.counted.now = s.now := by unfold DevS.counted; split <;> rfl
theorem counted_old (s : DevS) : s.counted.old = s.old := by unfold DevS.counted; split <;> rfl
theorem counted_cap (s : DevS) : s.counted.cap = s.cap := by unfold DevS.counted; split <;> rfl
theorem counted_ch (s : DevS) : s.counted.ch ≤ s.ch + 1 := by unfold DevS.counted; split <;> simp

theorem DevS.Ok.counted {s : DevS} (h : s.Ok) (hc : s.ch + 1 ≤ 1099511627776) : s.counted.Ok := by
  obtain ⟨h1, h2, h3, h4, h5, h6, h7⟩ := h
  unfold DevS.counted
  split
  · exact ⟨h1, h2, h3, h4, h5, h6, h7⟩
  · rename_i hs
    simp [DevS.stops] at hs
    refine ⟨h1, h2, h3, h4, ?_, ?_, hc⟩ <;> simp only <;> split <;> omega

theorem DevS.Ok.write {s : DevS} (h : s.Ok) (hc : s.ch + 1 ≤ 1099511627776) (i : Nat) (l : List UInt8) (hi : i < s.now.length) (hl : l.length = 64) : (s.write i l).Ok := by
  unfold DevS.write
  split
  · exact h.counted hc
  · obtain ⟨h1, h2, h3, h4, h5, h6, h7⟩ := h.counted hc
    rw [counted_now] at h1 h2 h3 h4
    rw [counted_old] at h4
    refine ⟨by simpa using h1, by simpa using h2, ?_, ?_, h5, h6, h7⟩
    · intro r hr
      rcases List.mem_or_eq_of_mem_set hr with h | h
      · exact h3 r h
      · exact h ▸ hl
    · intro j m hj
      simp only [oldW] at hj
      simp only [List.length_set]
      split at hj
      · rename_i e
        subst e
        split at hj
        · rename_i l' e2
          cases hj
          exact h4 _ _ e2
        · exact ⟨hi, h3 m (List.mem_of_getElem? hj)⟩
      · exact h4 _ _ hj

theorem DevS.Ok.sync {s : DevS} (h : s.Ok) (hc : s.ch + 1 ≤ 1099511627776) : s.sync.Ok := by
  unfold DevS.sync
  split
  · exact h.counted hc
  · obtain ⟨h1, h2, h3, h4, h5, h6, h7⟩ := h.counted hc
    exact ⟨h1, h2, h3, fun i l e => (by cases e), h5, h6, h7⟩

theorem DevS.Ok.fused {s : DevS} (h : s.Ok) (n : Int) (h0 : 0 ≤ n) (h1 : n ≤ 9223372036854775807) : (s.fused n).Ok := by
  obtain ⟨a1, a2, a3, a4, a5, a6, a7⟩ := h
  exact ⟨a1, a2, a3, a4, by simp only [DevS.fused]; omega, h1, a7⟩

theorem crashTo_rows (old : Nat → Option (List UInt8)) (keep : List UInt8) (N : Nat) (ho : ∀ i l, old i = some l → i < N ∧ l.length = 64) : ∀ (ws : List Nat) (k : Nat) (now : List (List UInt8)), now.length = N → (∀ i ∈ ws, (old i).isSome = true) → (∀ r ∈ now, r.length = 64) →
    (crashTo old keep now ws k).length = N ∧ ∀ r ∈ crashTo old keep now ws k, r.length = 64
  | [], _, now, hn, _, hr => ⟨hn, hr⟩
  | i :: ws, k, now, hn, hw, hr => by
    unfold crashTo
    refine crashTo_rows old keep N ho ws (k + 1) _ ?_ (fun j hj => hw j (List.mem_cons_of_mem _ hj)) ?_
    · split
      · exact hn
      · simpa using hn
    · split
      · exact hr
      · intro r h
        rcases List.mem_or_eq_of_mem_set h with h | h
        · exact hr r h
        · obtain ⟨l, hl⟩ := Option.isSome_iff_exists.1 (hw i List.mem_cons_self)
          rw [hl] at h
          rw [h]
          exact (ho i l hl).2

theorem waits_some (s : DevS) : ∀ i ∈ s.waits, (s.old i).isSome = true := fun _ hi => (List.mem_filter.1 hi).2
theorem waits_lt (s : DevS) : ∀ i ∈ s.waits, i < s.now.length := fun _ hi => List.mem_range.1 (List.mem_filter.1 hi).1

theorem DevS.Ok.crash {s : DevS} (h : s.Ok) (keep : List UInt8) : (s.crash keep).Ok := by
  obtain ⟨h1, h2, h3, h4, h5, h6, h7⟩ := h
  obtain ⟨e1, e2⟩ := crashTo_rows s.old keep s.now.length h4 s.waits 0 s.now rfl (waits_some s) h3
  refine ⟨?_, ?_, e2, fun i l e => (by cases e), by simp [DevS.crash], by simp [DevS.crash], h7⟩
  · simp only [DevS.crash, e1]; exact h1
  · simp only [DevS.crash, e1]; exact h2

theorem flat_get (L : List (List UInt8)) (h : ∀ r ∈ L, r.length = 64) (i j : Nat) (hj : j < 64) : L.flatten[i * 64 + j]? = (L[i]?).bind fun r => r[j]? := by
  induction L generalizing i with
  | nil => simp
  | cons r L ih =>
    have hr := h r List.mem_cons_self
    cases i with
    | zero =>
      rw [List.flatten_cons, Nat.zero_mul, Nat.zero_add, List.getElem?_append_left (by omega)]
      simp
    | succ i =>
      rw [List.flatten_cons, List.getElem?_append_right (by omega), hr, show (i + 1) * 64 + j - 64 = i * 64 + j by omega, ih (fun r hr => h r (List.mem_cons_of_mem _ hr))]
      simp

theorem flat_len (L : List (List UInt8)) (h : ∀ r ∈ L, r.length = 64) : L.flatten.length = L.length * 64 := by
  induction L with
  | nil => rfl
  | cons r L ih =>
    rw [List.flatten_cons, List.length_append, h r List.mem_cons_self, ih (fun r hr => h r (List.mem_cons_of_mem _ hr)), List.length_cons]
    omega

end Go.Proofs.YtcgpgnajmfemhaaGreatDoor

namespace Go.Proofs.YtcgpgnajmfemhaaGreatDoor
open Go.RowKit Go.Maps

/-- The second world grew out of the first one, and of what was there nothing is changed but the blocks of S. -/
def Part (S : Nat → Prop) (w w' : World) : Prop := Below 0 w w' ∧ ∀ k, k < w.heap.size → ¬ S k → w'.heap[k]? = w.heap[k]?

theorem Part.refl (S : Nat → Prop) (w : World) : Part S w w := ⟨Below.refl _ _, fun _ _ _ => rfl⟩
theorem Part.size {S : Nat → Prop} {w w' : World} (h : Part S w w') : w.heap.size ≤ w'.heap.size := h.1.size
theorem Part.trans {S T : Nat → Prop} {a b c : World} (h1 : Part S a b) (h2 : Part T b c) (hT : ∀ k, k < a.heap.size → T k → S k) : Part S a c :=
  ⟨h1.1.trans h2.1, fun k hk hs => (h2.2 k (Nat.lt_of_lt_of_le hk h1.size) (fun t => hs (hT k hk t))).trans (h1.2 k hk hs)⟩
theorem Part.mono {S T : Nat → Prop} {a b : World} (h : Part S a b) (hT : ∀ k, k < a.heap.size → S k → T k) : Part T a b := ⟨h.1, fun k hk ht => h.2 k hk (fun s => ht (hT k hk s))⟩
theorem Part.of_below {S : Nat → Prop} {w w' : World} (h : Below w.heap.size w w') : Part S w w' := ⟨h.mono (Nat.zero_le _), fun k hk _ => h.block k hk⟩
theorem Part.below {S : Nat → Prop} {w w' : World} {B : Nat} (h : Part S w w') (hB : B ≤ w.heap.size) (hS : ∀ k, S k → B ≤ k) : Below B w w' :=
  ⟨h.1.os, h.1.tape, h.1.output, h.1.size, fun k hk => h.2 k (by omega) (fun s => by have := hS k s; omega)⟩
theorem Part.setCell {S : Nat → Prop} {a w : World} (h : Part S a w) (p : Addr) (u : Value) (hp : S p.block) : Part S a (w.setCell p u) :=
  ⟨h.1.setCell (Nat.zero_le _) u, fun k hk hs => by rw [heap_setCell_other w p k u (fun e => hs (e ▸ hp))]; exact h.2 k hk hs⟩
theorem Part.alloc {S : Nat → Prop} {a w : World} (h : Part S a w) (o : Obj) : Part S a (w.alloc o) :=
  ⟨h.1.alloc (Nat.zero_le _) o, fun k hk hs => by rw [Below.heap_alloc w o k (Nat.lt_of_lt_of_le hk h.size)]; exact h.2 k hk hs⟩
theorem Part.drew {S : Nat → Prop} {a w : World} (h : Part S a w) : Part S a w.drew := ⟨h.1.drew, fun k hk hs => h.2 k hk hs⟩
theorem Part.grown {S : Nat → Prop} {a w w' : World} {row : Option Nat} (h : Part S a w) (hg : w.grownBy w' row) (hr : ∀ b, row = some b → S b) : Part S a w' :=
  ⟨h.1.grown hg (Nat.zero_le _) (fun _ _ => Nat.zero_le _), fun k hk hs => by
    have h1 : w'.heap[k]? = w.heap[k]? := hg.block k (Nat.lt_of_lt_of_le hk h.size) (fun e => hs (hr k e.symm))
    rw [h1]; exact h.2 k hk hs⟩

theorem heap_setCells_far (g : Nat) : ∀ (vs : List Value) (o : Nat) (w : World) (k : Nat), k ≠ g → (w.setCells g o vs).heap[k]? = w.heap[k]?
  | [], _, _, _, _ => rfl
  | v :: vs, o, w, k, hk => by
    rw [World.setCells, heap_setCells_far g vs (o + 1) _ k hk, heap_setCell_other w ⟨g, o, none⟩ k v hk]
theorem size_setCells (g : Nat) : ∀ (vs : List Value) (o : Nat) (w : World), (w.setCells g o vs).heap.size = w.heap.size
  | [], _, _ => rfl
  | v :: vs, o, w => by rw [World.setCells, size_setCells g vs]; simp
theorem below_setCells0 (g : Nat) : ∀ (vs : List Value) (o : Nat) (a w : World), Below 0 a w → Below 0 a (w.setCells g o vs)
  | [], _, _, _, h => h
  | v :: vs, o, a, w, h => by rw [World.setCells]; exact below_setCells0 g vs (o + 1) a _ (h.setCell (Nat.zero_le _) v)
theorem Part.setCells {S : Nat → Prop} {a w : World} (h : Part S a w) (g o : Nat) (vs : List Value) (hp : S g) : Part S a (w.setCells g o vs) :=
  ⟨below_setCells0 g vs o a w h.1, fun k hk hs => by rw [heap_setCells_far g vs o w k (fun e => hs (e ▸ hp))]; exact h.2 k hk hs⟩
theorem block_setCells (g : Nat) (t : TypeId) : ∀ (vs : List Value) (o : Nat) (w : World) (cs : Array Value), w.heap[g]? = some (.cells cs t (0, 0)) → ∃ cs', (w.setCells g o vs).heap[g]? = some (.cells cs' t (0, 0)) ∧ cs'.size = cs.size
  | [], _, _, cs, h => ⟨cs, h, rfl⟩
  | v :: vs, o, w, cs, h => by
    rw [World.setCells]
    obtain ⟨cs', h1, h2⟩ := block_setCells g t vs (o + 1) (w.setCell ⟨g, o, none⟩ v) _ (heap_setCell_same w g o _ _ _ h)
    exact ⟨cs', h1, by rw [h2]; simp⟩

/-- Block g holds rows of 64 bytes, one behind the other (and perhaps room behind them). -/
def SR (w : World) (g : Nat) (now : List (List UInt8)) : Prop := ∃ cs : Array Value, w.heap[g]? = some (.cells cs 214 (0, 0)) ∧ ∀ (j : Nat) x, now.flatten[j]? = some x → cs[j]? = some (bc x)

theorem SR.same {w w' : World} {g : Nat} {now : List (List UInt8)} (h : SR w g now) (e : w'.heap[g]? = w.heap[g]?) : SR w' g now := by
  obtain ⟨cs, h1, h2⟩ := h
  exact ⟨cs, e.trans h1, h2⟩
theorem SR.lt {w : World} {g : Nat} {now : List (List UInt8)} (h : SR w g now) : g < w.heap.size := by
  obtain ⟨cs, h1, h2⟩ := h
  exact (Array.getElem?_eq_some_iff.1 h1).1
theorem SR.cell {w : World} {g : Nat} {now : List (List UInt8)} (h : SR w g now) (j : Nat) (x : UInt8) (hx : now.flatten[j]? = some x) : w.cell? ⟨g, j, none⟩ = some (bc x) := by
  obtain ⟨cs, h1, h2⟩ := h
  rw [cell_of_row w g j _ _ _ h1]
  exact h2 j x hx
theorem SR.range {w : World} {g : Nat} {now : List (List UInt8)} (h : SR w g now) (hr : ∀ r ∈ now, r.length = 64) (i : Nat) (r : List UInt8) (hi : now[i]? = some r) : w.rangeAt g (i * 64) (bcs r) := by
  intro j v hv
  have hj : j < r.length := by
    have := (List.getElem?_eq_some_iff.1 hv).1
    rwa [bcs_length] at this
  rw [hr r (List.mem_of_getElem? hi)] at hj
  rw [bcs_get] at hv
  obtain ⟨x, hx, rfl⟩ := Option.map_eq_some_iff.1 hv
  refine h.cell _ x ?_
  rw [flat_get now hr i j hj, hi]
  exact hx
theorem SR.there {w : World} {g : Nat} {now : List (List UInt8)} (h : SR w g now) (hr : ∀ r ∈ now, r.length = 64) (i : Nat) (hi : i < now.length) : w.there g (i * 64) 64 := by
  intro j hj
  refine ⟨?_, ?_⟩
  · have hl : j < (now[i]).length := by rw [hr _ (List.getElem_mem hi)]; exact hj
    have := h.cell (i * 64 + j) ((now[i])[j]) (by rw [flat_get now hr i j hj, List.getElem?_eq_getElem hi]; simp [List.getElem?_eq_getElem hl])
    rw [this]
    rfl
  · obtain ⟨cs, h1, h2⟩ := h
    simp [World.frozen?, h1]
theorem SR.put {w : World} {g : Nat} {now : List (List UInt8)} (h : SR w g now) (hr : ∀ r ∈ now, r.length = 64) (i : Nat) (hi : i < now.length) (l : List UInt8) (hl : l.length = 64) : SR (w.setCells g (i * 64) (bcs l)) g (now.set i l) := by
  have ht := h.there hr i hi
  obtain ⟨cs, h1, h2⟩ := h
  obtain ⟨cs', e1, e2⟩ := block_setCells g 214 (bcs l) (i * 64) w cs h1
  have hr' : ∀ r ∈ now.set i l, r.length = 64 := fun r h => by
    rcases List.mem_or_eq_of_mem_set h with h | h
    · exact hr r h
    · exact h ▸ hl
  refine ⟨cs', e1, fun m x hx => ?_⟩
  have c1 : (w.setCells g (i * 64) (bcs l)).cell? ⟨g, m, none⟩ = cs'[m]? := by rw [cell_of_row _ g m _ _ _ e1]
  rw [← c1]
  have hm : m = m / 64 * 64 + m % 64 := by omega
  have hmm : m % 64 < 64 := by omega
  by_cases hin : i * 64 ≤ m ∧ m < i * 64 + 64
  · have e3 : m / 64 = i := by omega
    have e4 : m = i * 64 + m % 64 := by omega
    have hb : m % 64 < (bcs l).length := by rw [bcs_length]; omega
    have c2 := World.cell?_setCells_in g (bcs l) (i * 64) w (fun j hj => (ht j (by rw [bcs_length] at hj; omega)).1) (m % 64) hb
    rw [← e4] at c2
    rw [c2, ← List.getElem?_eq_getElem hb, bcs_get]
    rw [e4, flat_get _ hr' i _ hmm, List.getElem?_set_self hi] at hx
    have hx2 : l[m % 64]? = some x := hx
    rw [hx2]
    rfl
  · have c2 := World.cell?_setCells_out g (bcs l) (i * 64) w ⟨g, m, none⟩ (fun _ _ => by simp only [bcs_length, hl]; omega)
    rw [c2, cell_of_row w g m _ _ _ h1]
    refine h2 m x ?_
    rw [hm, flat_get _ hr' _ _ hmm, List.getElem?_set_ne (by omega)] at hx
    rw [hm, flat_get _ hr _ _ hmm]
    exact hx

/-- How an element of the map reads: as it is. -/
def hR (v : Value) : Option (DataW Value × List MemPlace) := some (.held v, [])
/-- A row of bytes as an array. -/
def secV (l : List UInt8) : Value := .agg (bcs l).toArray

/-- What the map is. -/
def MapIs (D : DataW Value) (old : Nat → Option (List UInt8)) : Prop :=
  (∀ x : Int, Maps.has D (.int .i64 x) = true ↔ ∃ i : Nat, x = (i : Int) ∧ (old i).isSome = true) ∧ ∀ (i : Nat) l, old i = some l → ∀ zd, D.atKey (.int .i64 (i : Int)) zd = .held (secV l)

theorem mapIs_empty : MapIs (.map []) (fun _ => none) := ⟨fun x => by simp [Maps.has], fun i l h => by cases h⟩
theorem mapIs_has {D : DataW Value} {old : Nat → Option (List UInt8)} (h : MapIs D old) (i : Nat) : Maps.has D (.int .i64 (i : Int)) = (old i).isSome := by
  cases e : (old i).isSome
  · cases hh : Maps.has D (.int .i64 (i : Int))
    · rfl
    · obtain ⟨j, hj, h2⟩ := (h.1 _).1 hh
      obtain rfl : i = j := by omega
      rw [e] at h2; cases h2
  · exact (h.1 _).2 ⟨i, rfl, e⟩
theorem keyLit (x : Int) : WideAt.IsKeyLit (.int .i64 x) := True.intro
theorem mapIs_put {D : DataW Value} {old : Nat → Option (List UInt8)} (h : MapIs D old) (hm : IsMap D) (i : Nat) (l : List UInt8) : MapIs (D.put (.int .i64 (i : Int)) (.held (secV l))) (fun j => if j = i then some l else old j) := by
  refine ⟨fun x => ?_, fun j m e zd => ?_⟩
  · by_cases hx : x = (i : Int)
    · subst hx
      rw [Maps.has_put_same hm (keyLit _)]
      exact ⟨fun _ => ⟨i, rfl, by simp⟩, fun _ => rfl⟩
    · rw [Maps.has_put_other (by simpa using hx), h.1 x]
      constructor
      · rintro ⟨j, rfl, hj⟩
        exact ⟨j, rfl, by simp only; rw [if_neg (by omega)]; exact hj⟩
      · rintro ⟨j, rfl, hj⟩
        simp only at hj
        rw [if_neg (by omega)] at hj
        exact ⟨j, rfl, hj⟩
  · by_cases hj : j = i
    · subst hj
      simp only at e
      rw [if_pos trivial] at e
      cases e
      exact Maps.atKey_put_same hm (keyLit _) _ _
    · simp only at e
      rw [if_neg hj] at e
      rw [Maps.atKey_put_other (by simp; omega)]
      exact h.2 j m e zd

/-- Block g holds a device's five fields. -/
def DB (w : World) (g bn bm n cp : Nat) (fuse : Int) (dead : Bool) (ch : Int) : Prop :=
  w.heap[g]? = some (.cells #[.slice (some ⟨bn, 0, none⟩) n cp, .map (some bm), .int .i64 fuse, .bool dead, .int .i64 ch] 197 (0, 0))

theorem DB.cells {w : World} {g bn bm n cp : Nat} {f : Int} {d : Bool} {c : Int} (h : DB w g bn bm n cp f d c) : w.cell? ⟨g, 0, none⟩ = some (.slice (some ⟨bn, 0, none⟩) n cp) ∧ w.cell? ⟨g, 1, none⟩ = some (.map (some bm)) ∧ w.cell? ⟨g, 2, none⟩ = some (.int .i64 f) ∧ w.cell? ⟨g, 3, none⟩ = some (.bool d) ∧ w.cell? ⟨g, 4, none⟩ = some (.int .i64 c) := by
  refine ⟨?_, ?_, ?_, ?_, ?_⟩ <;> rw [cell_of_row w g _ _ _ _ h] <;> rfl
theorem DB.same {w w' : World} {g bn bm n cp : Nat} {f : Int} {d : Bool} {c : Int} (h : DB w g bn bm n cp f d c) (e : w'.heap[g]? = w.heap[g]?) : DB w' g bn bm n cp f d c := e.trans h
theorem DB.lt {w : World} {g bn bm n cp : Nat} {f : Int} {d : Bool} {c : Int} (h : DB w g bn bm n cp f d c) : g < w.heap.size := (Array.getElem?_eq_some_iff.1 h).1
theorem DB.free {w : World} {g bn bm n cp : Nat} {f : Int} {d : Bool} {c : Int} (h : DB w g bn bm n cp f d c) (i : Nat) : w.frozen? ⟨g, i, none⟩ = false := by
  unfold DB at h
  simp [World.frozen?, h]
theorem DB.put1 {w : World} {g bn bm n cp : Nat} {f : Int} {d : Bool} {c : Int} (h : DB w g bn bm n cp f d c) (m : Nat) : DB (w.setCell ⟨g, 1, none⟩ (.map (some m))) g bn m n cp f d c := by
  unfold DB; rw [heap_setCell_same w g 1 _ _ _ h]; rfl
theorem DB.put2 {w : World} {g bn bm n cp : Nat} {f : Int} {d : Bool} {c : Int} (h : DB w g bn bm n cp f d c) (x : Int) : DB (w.setCell ⟨g, 2, none⟩ (.int .i64 x)) g bn bm n cp x d c := by
  unfold DB; rw [heap_setCell_same w g 2 _ _ _ h]; rfl
theorem DB.put3 {w : World} {g bn bm n cp : Nat} {f : Int} {d : Bool} {c : Int} (h : DB w g bn bm n cp f d c) (x : Bool) : DB (w.setCell ⟨g, 3, none⟩ (.bool x)) g bn bm n cp f x c := by
  unfold DB; rw [heap_setCell_same w g 3 _ _ _ h]; rfl
theorem DB.put4 {w : World} {g bn bm n cp : Nat} {f : Int} {d : Bool} {c : Int} (h : DB w g bn bm n cp f d c) (x : Int) : DB (w.setCell ⟨g, 4, none⟩ (.int .i64 x)) g bn bm n cp f d x := by
  unfold DB; rw [heap_setCell_same w g 4 _ _ _ h]; rfl

/-- Block g holds a map of sectors. -/
def DM (w : World) (g n : Nat) (old : Nat → Option (List UInt8)) : Prop := ∃ D, w.ownsMap Tryz.prog 3 hR g n D ∧ MapIs D old

theorem DM.same {w w' : World} {g n : Nat} {old : Nat → Option (List UInt8)} (h : DM w g n old) (e : w'.heap[g]? = w.heap[g]?) : DM w' g n old := by
  obtain ⟨D, ⟨es, clock, h1, h2, h3, h4⟩, h5⟩ := h
  exact ⟨D, ⟨es, clock, e.trans h1, h2, h3, h4⟩, h5⟩
theorem DM.lt {w : World} {g n : Nat} {old : Nat → Option (List UInt8)} (h : DM w g n old) : g < w.heap.size := by
  obtain ⟨D, h1, _⟩ := h
  exact h1.lt
theorem DM.made (w : World) (n : Nat) : DM (w.alloc (.map #[] 0)) w.heap.size n (fun _ => none) := ⟨_, (World.ownsMap_made w Tryz.prog 3 hR).mono (Nat.zero_le _), mapIs_empty⟩

/-- A device at the blocks bd, bn, bm has s. -/
structure Dev (w : World) (bd bn bm : Nat) (s : DevS) : Prop where
  ok : s.Ok
  db : DB w bd bn bm s.now.length s.cap s.fuse s.dead (s.ch : Int)
  sr : SR w bn s.now
  dm : DM w bm s.ch s.old

theorem Dev.ne {w : World} {bd bn bm : Nat} {s : DevS} (h : Dev w bd bn bm s) : bd ≠ bn ∧ bd ≠ bm ∧ bn ≠ bm := by
  have h1 := h.db
  obtain ⟨cs, h2, _⟩ := h.sr
  obtain ⟨D, ⟨es, clock, h3, _⟩, _⟩ := h.dm
  unfold DB at h1
  refine ⟨?_, ?_, ?_⟩ <;> rintro rfl
  · rw [h1] at h2; simp at h2
  · rw [h1] at h3; simp at h3
  · rw [h2] at h3; simp at h3
theorem Dev.same {w w' : World} {bd bn bm : Nat} {s : DevS} (h : Dev w bd bn bm s) (e : ∀ k, k = bd ∨ k = bn ∨ k = bm → w'.heap[k]? = w.heap[k]?) : Dev w' bd bn bm s :=
  ⟨h.ok, h.db.same (e bd (.inl rfl)), h.sr.same (e bn (.inr (.inl rfl))), h.dm.same (e bm (.inr (.inr rfl)))⟩
theorem Dev.part {w w' : World} {bd bn bm : Nat} {s : DevS} {S : Nat → Prop} (h : Dev w bd bn bm s) (hp : Part S w w') (hS : ¬ S bd ∧ ¬ S bn ∧ ¬ S bm) : Dev w' bd bn bm s :=
  h.same (by
    rintro k (rfl | rfl | rfl)
    · exact hp.2 _ h.db.lt hS.1
    · exact hp.2 _ h.sr.lt hS.2.1
    · exact hp.2 _ h.dm.lt hS.2.2)
theorem Dev.later {w w' : World} {bd bn bm : Nat} {s : DevS} (h : Dev w bd bn bm s) (hp : Below w.heap.size w w') : Dev w' bd bn bm s :=
  h.part (S := fun _ => False) (Part.of_below hp) ⟨id, id, id⟩

/-- The blocks of a device. -/
def dS (bd bn bm : Nat) : Nat → Prop := fun k => k = bd ∨ k = bn ∨ k = bm

end Go.Proofs.YtcgpgnajmfemhaaGreatDoor

namespace Go.Proofs.YtcgpgnajmfemhaaGreatDoor
open Go.RowKit Go.Maps

set_option maxRecDepth 100000 in
set_option maxHeartbeats 400000 in
theorem miss_nil (w : World) : Calls Tryz.prog 151 #[.pointer none] w fun e w' => e = .returned (.bool true) ∧ w' = w := by
  go_enter Tryz.func151, Tryz.ntmps151
  go_wp2
  go_ret
  exact ⟨rfl, rfl⟩

/-- A device that no call made. -/
def Raw (w : World) (g : Nat) : Prop := w.cell? ⟨g, 0, none⟩ = some (.slice none 0 0)

set_option maxRecDepth 100000 in
set_option maxHeartbeats 400000 in
theorem miss_raw (g : Nat) (w : World) (h : Raw w g) : Calls Tryz.prog 151 #[.pointer (some ⟨g, 0, none⟩)] w fun e w' => e = .returned (.bool true) ∧ w' = w := by
  have h0 : w.cell? ⟨g, 0, none⟩ = some (.slice none 0 0) := h
  clear h
  go_enter Tryz.func151, Tryz.ntmps151
  go_wp2
  go_ret
  exact ⟨rfl, rfl⟩

set_option maxRecDepth 100000 in
set_option maxHeartbeats 400000 in
theorem miss_no {bd bn bm : Nat} {s : DevS} {w : World} (h : Dev w bd bn bm s) : Calls Tryz.prog 151 #[.pointer (some ⟨bd, 0, none⟩)] w fun e w' => e = .returned (.bool false) ∧ w' = w := by
  obtain ⟨c0, c1, c2, c3, c4⟩ := h.db.cells
  have hp := h.ok.pos
  have hq := h.ok.most
  generalize s.now.length = n at *
  have hn : ¬ (n : Int) = 0 := by omega
  clear h
  go_enter Tryz.func151, Tryz.ntmps151
  go_wp2
  go_ret
  exact ⟨by simp; omega, rfl⟩

set_option maxRecDepth 100000 in
set_option maxHeartbeats 400000 in
theorem has_any {bd bn bm : Nat} {s : DevS} {w : World} (h : Dev w bd bn bm s) (i : Int) : Calls Tryz.prog 152 #[.pointer (some ⟨bd, 0, none⟩), .int .i64 i] w fun e w' => e = .returned (.bool (decide (0 ≤ i ∧ i < (s.now.length : Int)))) ∧ w' = w := by
  obtain ⟨c0, c1, c2, c3, c4⟩ := h.db.cells
  have hq := h.ok.most
  generalize s.now.length = n at *
  clear h
  by_cases h0 : 0 ≤ i
  · go_enter Tryz.func152, Tryz.ntmps152
    go_wp2
    go_ret
    exact ⟨by simp [h0], rfl⟩
  · have h0' : i < 0 := by omega
    go_enter Tryz.func152, Tryz.ntmps152
    go_wp2
    go_ret
    exact ⟨by simp; omega, rfl⟩

theorem wrapM (x : Int) (h0 : -9223372036854775808 ≤ x) (h1 : x ≤ 9223372036854775807) : IntKind.i64.wrap x = x := by
  rw [IntKind.wrap_i64]
  omega

set_option maxRecDepth 100000 in
set_option maxHeartbeats 800000 in
theorem change_any {bd bn bm : Nat} {s : DevS} {w : World} (h : Dev w bd bn bm s) (hc : s.ch + 1 ≤ 1099511627776) : Calls Tryz.prog 193 #[.pointer (some ⟨bd, 0, none⟩)] w fun e w' => e = .returned (.int .i64 s.err) ∧ Dev w' bd bn bm s.counted ∧ Part (fun k => k = bd) w w' := by
  have hok := h.ok.counted hc
  have hne := h.ne
  have hlt := h.dm.lt
  have hdev : ∀ w', DB w' bd bn bm s.counted.now.length s.counted.cap s.counted.fuse s.counted.dead (s.counted.ch : Int) → Part (fun k => k = bd) w w' → Dev w' bd bn bm s.counted := by
    intro w' hd hp
    refine ⟨hok, hd, ?_, ?_⟩
    · rw [counted_now]; exact h.sr.same (hp.2 bn h.sr.lt (fun e => hne.1 e.symm))
    · rw [counted_old]
      obtain ⟨D, h1, h2⟩ := h.dm.same (hp.2 bm h.dm.lt (fun e => hne.2.1 e.symm))
      exact ⟨D, h1.mono (by unfold DevS.counted; split <;> simp), h2⟩
  have hdb := h.db
  obtain ⟨c0, c1, c2, c3, c4⟩ := hdb.cells
  have f2 := hdb.free 2
  have f3 := hdb.free 3
  have f4 := hdb.free 4
  have hF0 := h.ok.fuse0
  have hF1 := h.ok.fuse1
  obtain ⟨now, old, fuse, dead, ch, cap⟩ := s
  simp only at *
  clear h hok hlt
  by_cases hz : fuse = 0
  · subst hz
    have hfin := hdev (w.setCell ⟨bd, 3, none⟩ (.bool true)) (by simpa [DevS.counted, DevS.stops] using hdb.put3 true) ((Part.refl _ w).setCell _ _ rfl)
    have hdb2 := (hdb.put3 true).cells
    clear hdb hdev
    go_enter Tryz.func193, Tryz.ntmps193
    go_wp2
    go_ret
    exact ⟨by simp [DevS.err, DevS.stops], hfin, (Part.refl _ w).setCell _ _ rfl⟩
  · cases dead
    · by_cases hm : fuse = -1
      · subst hm
        have hfin := hdev (w.setCell ⟨bd, 4, none⟩ (.int .i64 ((ch : Int) + 1))) (by simpa [DevS.counted, DevS.stops] using hdb.put4 ((ch : Int) + 1)) ((Part.refl _ w).setCell _ _ rfl)
        have hw : wrap64 ((ch : Int) + 1) = (ch : Int) + 1 := by unfold wrap64; omega
        clear hdb hdev
        go_enter Tryz.func193, Tryz.ntmps193
        go_wp2
        go_ret
        exact ⟨by simp [DevS.err, DevS.stops], hfin, (Part.refl _ w).setCell _ _ rfl⟩
      · have hd2 := (hdb.put2 (fuse - 1))
        have hfin := hdev ((w.setCell ⟨bd, 2, none⟩ (.int .i64 (fuse - 1))).setCell ⟨bd, 4, none⟩ (.int .i64 ((ch : Int) + 1))) (by simpa [DevS.counted, DevS.stops, hz, hm] using hd2.put4 ((ch : Int) + 1)) (((Part.refl (fun k => k = bd) w).setCell _ _ rfl).setCell _ _ rfl)
        have hw : wrap64 ((ch : Int) + 1) = (ch : Int) + 1 := by unfold wrap64; omega
        have hw2 : wrap64 (fuse - 1) = fuse - 1 := by unfold wrap64; omega
        clear hdb hdev hd2
        go_enter Tryz.func193, Tryz.ntmps193
        go_wp2
        go_ret
        exact ⟨by simp [DevS.err, DevS.stops, hz], hfin, ((Part.refl (fun k => k = bd) w).setCell _ _ rfl).setCell _ _ rfl⟩
    · have hfin := hdev w (by simpa [DevS.counted, DevS.stops] using hdb) (Part.refl _ w)
      clear hdb hdev
      go_enter Tryz.func193, Tryz.ntmps193
      go_wp2
      go_ret
      exact ⟨by simp [DevS.err, DevS.stops], hfin, Part.refl _ w⟩

set_option maxRecDepth 100000 in
set_option maxHeartbeats 400000 in
theorem settle_any {bd bn bm : Nat} {s : DevS} {w : World} (h : Dev w bd bn bm s) : Calls Tryz.prog 194 #[.pointer (some ⟨bd, 0, none⟩)] w fun e w' => e = .returned (.tuple #[]) ∧ Dev w' bd bn w.heap.size { s with old := fun _ => none } ∧ Part (fun k => k = bd) w w' := by
  have hne := h.ne
  have hdb := h.db
  have hl := hdb.lt
  have hdb1 := (hdb.put1 w.heap.size)
  have hsr1 := h.sr.same (heap_setCell_other w ⟨bd, 1, none⟩ bn (.map (some w.heap.size)) (fun e => hne.1 e.symm))
  have hp : Part (fun k => k = bd) w ((w.setCell ⟨bd, 1, none⟩ (.map (some w.heap.size))).alloc (.map #[] 0)) := ((Part.refl (fun k => k = bd) w).setCell _ _ rfl).alloc _
  have hdm := DM.made (w.setCell ⟨bd, 1, none⟩ (.map (some w.heap.size))) s.ch
  rw [World.size_setCell] at hdm
  have hfin : Dev ((w.setCell ⟨bd, 1, none⟩ (.map (some w.heap.size))).alloc (.map #[] 0)) bd bn w.heap.size { s with old := fun _ => none } :=
    ⟨⟨h.ok.pos, h.ok.most, h.ok.rows, fun i l e => (by cases e), h.ok.fuse0, h.ok.fuse1, h.ok.chs⟩, hdb1.same (Below.heap_alloc _ _ bd hdb1.lt), hsr1.same (Below.heap_alloc _ _ bn hsr1.lt), hdm⟩
  have c1 := hdb.cells.2.1
  have f1 := hdb.free 1
  have hmm := @run_makeMap Tryz.prog
  clear hdb hdb1 hsr1 h hdm
  go_enter Tryz.func194, Tryz.ntmps194
  go_wp2
  go_end0
  exact ⟨rfl, hfin, hp⟩

set_option maxRecDepth 100000 in
set_option maxHeartbeats 400000 in
theorem sync_any {bd bn bm : Nat} {s : DevS} {w : World} (h : Dev w bd bn bm s) (hc : s.ch + 1 ≤ 1099511627776) : Calls Tryz.prog 157 #[.pointer (some ⟨bd, 0, none⟩)] w fun e w' => e = .returned (.int .i64 s.err) ∧ ∃ bm', Dev w' bd bn bm' s.sync ∧ (bm' = bm ∨ w.heap.size ≤ bm') ∧ Part (fun k => k = bd) w w' := by
  have h1 := miss_no h
  have h2 := change_any h hc
  cases hs : s.stops
  · have he : s.err = 0 := by simp [DevS.err, hs]
    rw [he] at h2 ⊢
    have hsy : s.sync = { s.counted with old := fun _ => none } := by simp [DevS.sync, hs]
    rw [hsy]
    clear h
    go_enter Tryz.func157, Tryz.ntmps157
    go_wp2_with (first
      | (go_at_call 151; refine h1.mono ?_; rintro e w1 ⟨rfl, rfl⟩)
      | (go_at_call 193; refine h2.mono ?_; rintro e w2 ⟨rfl, hd2, hp2⟩; have hx := settle_any hd2)
      | (go_at_call 194; refine hx.mono ?_; rintro e w3 ⟨rfl, hd3, hp3⟩))
    go_ret
    exact ⟨rfl, _, hd3, .inr hp2.size, hp2.trans hp3 (fun k _ e => e)⟩
  · have he : s.err = 70 := by simp [DevS.err, hs]
    rw [he] at h2 ⊢
    have hsy : s.sync = s.counted := by simp [DevS.sync, hs]
    rw [hsy]
    clear h
    go_enter Tryz.func157, Tryz.ntmps157
    go_wp2_with (first
      | (go_at_call 151; refine h1.mono ?_; rintro e w1 ⟨rfl, rfl⟩)
      | (go_at_call 193; refine h2.mono ?_; rintro e w2 ⟨rfl, hd2, hp2⟩))
    go_ret
    exact ⟨rfl, _, hd2, .inl rfl, hp2⟩

end Go.Proofs.YtcgpgnajmfemhaaGreatDoor

namespace Go.Proofs.YtcgpgnajmfemhaaGreatDoor
open Go.RowKit Go.Maps

theorem i_sec : (Tryz.prog.info? 214).map (fun i => (i.zero, i.size)) = some (some (.agg (bcs (List.replicate 64 0)).toArray), 64) := by kernel_rfl
theorem s_sec : (Tryz.prog.info? 214).map (·.size) = some 64 := (Go.zero_of_info i_sec).2
theorem z_sec (w : World) : (zeroValue 214).run Tryz.prog w = .ok (secV (List.replicate 64 0)) w := (Go.zero_of_info i_sec).1 w
theorem intKeyed : Keyed Tryz.prog 3 := int_keyed Tryz.underlying3
theorem keyOf_nat (i : Nat) (h : i ≤ 16384) : keyOf Tryz.prog 3 (.int .i64 (i : Int)) = some (.int .i64 (i : Int)) := keyOf_int_mk Tryz.underlying3 (WalkArith.wf_i64 (by omega))

theorem hR_inv {v : Value} {d : DataW Value} {ps : List MemPlace} (h : hR v = some (d, ps)) : d = .held v := by
  unfold hR at h
  simp only [Option.some.injEq, Prod.mk.injEq] at h
  exact h.1.symm

theorem DM.look_ok {w : World} {g n : Nat} {old : Nat → Option (List UInt8)} (h : DM w g n old) (i : Nat) (hi : i ≤ 16384) :
    (Instr.lookup 195 (.map (some g)) (.int .i64 (i : Int)) true).run Tryz.prog w = .ok (.tuple #[secV ((old i).getD (List.replicate 64 0)), .bool (old i).isSome]) w := by
  obtain ⟨D, h1, h2⟩ := h
  obtain ⟨v, ps, hrun, hv⟩ := h1.look_ok intKeyed Tryz.underlying195 (z_sec w) (zd := .held (secV (List.replicate 64 0))) (zp := []) rfl (keyOf_nat i hi)
  have hv' := hR_inv hv
  rw [hrun, mapIs_has h2 i]
  cases e : old i with
  | none =>
    have hh : Maps.has D (.int .i64 (i : Int)) = false := by rw [mapIs_has h2 i, e]; rfl
    rw [Maps.atKey_of_not_has hh] at hv'
    simp only [DataW.held.injEq] at hv'
    rw [← hv']; rfl
  | some l =>
    rw [h2.2 i l e] at hv'
    simp only [DataW.held.injEq] at hv'
    rw [← hv']; rfl

theorem DM.look {w : World} {g n : Nat} {old : Nat → Option (List UInt8)} (h : DM w g n old) (i : Nat) (hi : i ≤ 16384) (l : List UInt8) (e : old i = some l) :
    (Instr.lookup 195 (.map (some g)) (.int .i64 (i : Int)) false).run Tryz.prog w = .ok (secV l) w := by
  obtain ⟨D, h1, h2⟩ := h
  obtain ⟨v, ps, hrun, hv⟩ := h1.lookup intKeyed Tryz.underlying195 (z_sec w) (zd := .held (secV (List.replicate 64 0))) (zp := []) rfl (keyOf_nat i hi)
  have hv' := hR_inv hv
  rw [hrun]
  rw [h2.2 i l e] at hv'
  simp only [DataW.held.injEq] at hv'
  rw [← hv']

theorem DM.store {w : World} {g n : Nat} {old : Nat → Option (List UInt8)} (h : DM w g n old) (i : Nat) (hi : i ≤ 16384) (hn : n < maxLen) (l : List UInt8) :
    ∃ w', (Instr.mapUpdate 195 (.map (some g)) (.int .i64 (i : Int)) (secV l)).run Tryz.prog w = .ok () w' ∧ DM w' g (n + 1) (fun j => if j = i then some l else old j) ∧ w.grownBy w' (some g) := by
  obtain ⟨D, h1, h2⟩ := h
  obtain ⟨w', hrun, h3, h4⟩ := h1.update intKeyed Tryz.underlying195 hn (keyOf_nat i hi) (val := secV l) (d := .held (secV l)) (ps := []) rfl
  exact ⟨w', hrun, ⟨_, h3, mapIs_put h2 h1.isMap i l⟩, h4⟩

theorem DM.drew {w : World} {g n : Nat} {old : Nat → Option (List UInt8)} (h : DM w g n old) : DM w.drew g n old := h

end Go.Proofs.YtcgpgnajmfemhaaGreatDoor
