/- What this text holds: plain facts: worlds that part in one block alone (no program). What this text holds: blocks of unlike types part what lies apart (plain facts, no walk). What this text proves: the walk of bytes.Clone over this program: the same bytes in new memory (nil stays nil). What this text proves: the walk of bytes.Clone over this program: the same bytes in a row that the call owns (nil stays nil). What this text proves: the walk of slices.Clone at rows of bytes, and of skip.copied, over this program: a record in memory of its own. -/
import Derived.Test.YtgfddabccjfhiaaDoorFacts
import Derived.Test.YtgfddabccjfhiaaDoorEqual
import Derived.Test.YtgfddabccjfhiaaDoorLaws
import Derived.Test.YtgfddabccjfhiaaDoorJF8
namespace Go.Proofs.YtgfddabccjfhiaaDoor
open Go.RowKit

/-- The second world grew out of the first one, and nothing that was there is changed but block g. -/
def Only (g : Nat) (w w' : World) : Prop := Below g w w' ∧ ∀ k, g < k → k < w.heap.size → w'.heap[k]? = w.heap[k]?

theorem Only.refl (g : Nat) (w : World) : Only g w w := ⟨Below.refl _ _, fun _ _ _ => rfl⟩
theorem Only.trans {g : Nat} {a b c : World} (h1 : Only g a b) (h2 : Only g b c) : Only g a c :=
  ⟨h1.1.trans h2.1, fun k hk hs => (h2.2 k hk (Nat.lt_of_lt_of_le hs h1.1.size)).trans (h1.2 k hk hs)⟩
theorem Only.of_below {g : Nat} {w w' : World} (h : Below w.heap.size w w') (hg : g ≤ w.heap.size) : Only g w w' := ⟨h.mono hg, fun k _ hs => h.block k hs⟩
theorem Only.setCell {g : Nat} {w w' : World} (h : Only g w w') (i : Nat) (u : Value) : Only g w (w'.setCell ⟨g, i, none⟩ u) :=
  ⟨h.1.setCell (Nat.le_refl _) _, fun k hk hs => by rw [heap_setCell_other w' ⟨g, i, none⟩ k u (by simp; omega)]; exact h.2 k hk hs⟩
theorem Only.drewN {g : Nat} {w w' : World} (h : Only g w w') (n : Nat) : Only g w (w'.drewN n) := ⟨below_drewN h.1 n, fun k hk hs => h.2 k hk hs⟩
theorem Only.below {g B : Nat} {w w' : World} (h : Only g w w') (hB : B ≤ g) : Below B w w' := h.1.mono hB
theorem Only.size {g : Nat} {w w' : World} (h : Only g w w') : w.heap.size ≤ w'.heap.size := h.1.size
theorem Only.block {g : Nat} {w w' : World} (h : Only g w w') (k : Nat) (hk : k ≠ g) (hs : k < w.heap.size) : w'.heap[k]? = w.heap[k]? := by
  rcases Nat.lt_or_gt_of_ne hk with h1 | h1
  · exact h.1.block k h1
  · exact h.2 k h1 hs

theorem cell_lt {w : World} {b o : Nat} {v : Value} (h : w.cell? ⟨b, o, none⟩ = some v) : b < w.heap.size := by
  rcases Nat.lt_or_ge b w.heap.size with h1 | h1
  · exact h1
  · exfalso
    have e : w.heap[b]? = none := Array.getElem?_eq_none h1
    simp [World.cell?, e] at h

theorem HB.only {w w' : World} {g : Nat} {v : Value} {l : List UInt8} (h : HB w v l) (hn : ∀ a n c, v = .slice (some a) n c → a.block ≠ g) (ho : Only g w w') : HB w' v l := by
  obtain ⟨p, cap, e, h1, h2, h3, h4⟩ := h
  refine ⟨p, cap, e, h1, h2, h3, fun hne => ?_⟩
  obtain ⟨b, o, e1, e2⟩ := h4 hne
  refine ⟨b, o, e1, fun i x hx => ?_⟩
  have hc := e2 i x hx
  have hb : b ≠ g := hn ⟨b, o, none⟩ l.length cap (by rw [e, e1])
  have hlt : b < w.heap.size := cell_lt hc
  rw [World.cell?_of_block (w := w) (ho.block b hb hlt)]
  exact hc

end Go.Proofs.YtgfddabccjfhiaaDoor

namespace Go.Proofs.YtgfddabccjfhiaaDoor
open Go.RowKit

/-- Block k is a block of bytes. -/
def TY (w : World) (k : Nat) : Prop := ∃ cur fr, w.heap[k]? = some (.cells cur 5 fr)
theorem TY.keep {w w' : World} {k : Nat} (h : TY w k) (e : w'.heap[k]? = w.heap[k]?) : TY w' k := by
  obtain ⟨cur, fr, hk⟩ := h
  exact ⟨cur, fr, e.trans hk⟩
theorem TY.lt {w : World} {k : Nat} (h : TY w k) : k < w.heap.size := by
  obtain ⟨cur, fr, hk⟩ := h
  exact (Array.getElem?_eq_some_iff.1 hk).1
theorem TY.later {w w' : World} {k : Nat} (h : TY w k) (hb : Below w.heap.size w w') : TY w' k := h.keep (hb.block k h.lt)
theorem TY.only {w w' : World} {g k : Nat} (h : TY w k) (ho : Only g w w') (hne : k ≠ g) : TY w' k := h.keep (ho.block k hne h.lt)
theorem TY.of_owns {w : World} {base n m c : Nat} {a : Addr} {v : Value} {xs : List Value} (h : w.ownsRow base 5 1 v n xs) (e : v = .slice (some a) m c) : TY w a.block := by
  rcases h.2 with ⟨e1, _⟩ | ⟨g, cap, cur, e1, _, hg, _⟩
  · rw [e1] at e; cases e
  · rw [e1] at e
    simp only [Value.slice.injEq, Option.some.injEq] at e
    rw [← e.1]
    exact ⟨cur, _, hg⟩

/-- Bytes that don't lie in block g, in a block of bytes. -/
def HBN (w : World) (g : Nat) (v : Value) (l : List UInt8) : Prop := HB w v l ∧ ∀ a n c, v = .slice (some a) n c → a.block ≠ g ∧ TY w a.block

theorem HBN.only {w w' : World} {g : Nat} {v : Value} {l : List UInt8} (h : HBN w g v l) (ho : Only g w w') : HBN w' g v l := ⟨h.1.only (fun a n c e => (h.2 a n c e).1) ho, fun a n c e => ⟨(h.2 a n c e).1, (h.2 a n c e).2.only ho (h.2 a n c e).1⟩⟩
theorem HBN.later {w w' : World} {g : Nat} {v : Value} {l : List UInt8} (h : HBN w g v l) (hb : Below w.heap.size w w') : HBN w' g v l := ⟨h.1.later hb, fun a n c e => ⟨(h.2 a n c e).1, (h.2 a n c e).2.later hb⟩⟩
/-- Blocks of another type than T stay. -/
def TK (T : TypeId) (w w' : World) : Prop := ∀ (k : Nat) cur t fr, w.heap[k]? = some (.cells cur t fr) → t ≠ T → w'.heap[k]? = some (.cells cur t fr)

theorem TK.of_only {T : TypeId} {g : Nat} {w w' : World} {cs : Array Value} {f : Nat × Nat} (ho : Only g w w') (hg : w.heap[g]? = some (.cells cs T f)) : TK T w w' := by
  intro k cur t fr hk ht
  have hne : k ≠ g := by
    rintro rfl
    rw [hg] at hk
    simp only [Option.some.injEq, Obj.cells.injEq] at hk
    exact ht hk.2.1.symm
  exact (ho.block k hne (Array.getElem?_eq_some_iff.1 hk).1).trans hk

theorem TK.of_below {T : TypeId} {w w' : World} (hb : Below w.heap.size w w') : TK T w w' := fun k _ _ _ hk _ => (hb.block k (Array.getElem?_eq_some_iff.1 hk).1).trans hk

theorem TK.of_grown {T : TypeId} {w w' : World} {base s n : Nat} {v : Value} {xs : List Value} (h : w.ownsRow base T s v n xs) (hg : w.grownBy w' v.ownBlock) : TK T w w' := by
  intro k cur t fr hk ht
  have hne : some k ≠ v.ownBlock := by
    rcases h.2 with ⟨rfl, _⟩ | ⟨g, cap, cur', rfl, _, hg', _⟩
    · simp [Value.ownBlock]
    · simp only [Value.ownBlock, ne_eq, Option.some.injEq]
      intro e
      subst e
      rw [hg'] at hk
      simp only [Option.some.injEq, Obj.cells.injEq] at hk
      exact ht hk.2.1.symm
  exact (hg.block k (Array.getElem?_eq_some_iff.1 hk).1 hne).trans hk

theorem HBN.tk {T : TypeId} {g : Nat} {w w' : World} {v : Value} {l : List UInt8} (h : HBN w g v l) (t : TK T w w') (hT : 5 ≠ T) : HBN w' g v l := by
  obtain ⟨⟨p, cap, e, h1, h2, h3, h4⟩, h5⟩ := h
  refine ⟨⟨p, cap, e, h1, h2, h3, fun hn => ?_⟩, fun a n c ev => ?_⟩
  · obtain ⟨b, o, rfl, hc⟩ := h4 hn
    refine ⟨b, o, rfl, fun i x hx => ?_⟩
    obtain ⟨cur, fr, hb⟩ := (h5 _ _ _ e).2
    have hk : w'.heap[b]? = w.heap[b]? := (t b cur _ fr hb hT).trans hb.symm
    rw [World.cell?_of_block (w := w) hk]
    exact hc i x hx
  · obtain ⟨hne, cur, fr, hb⟩ := h5 a n c ev
    exact ⟨hne, cur, fr, t _ cur _ fr hb hT⟩

theorem owns_tk {T e : TypeId} {w w' : World} {base n : Nat} {v : Value} {xs : List Value} (h : w.ownsRow base e 1 v n xs) (t : TK T w w') (hT : e ≠ T) : w'.ownsRow base e 1 v n xs := by
  refine ⟨h.1, ?_⟩
  rcases h.2 with hn | ⟨g, cap, cur, rfl, hbg, hg, rest⟩
  · exact .inl hn
  · exact .inr ⟨g, cap, cur, rfl, hbg, t g cur _ _ hg hT, rest⟩

/-- Bytes that a call owns don't lie in a block of another type. -/
theorem hbn_of_owns {T : TypeId} {w : World} {base n g : Nat} {v : Value} {l : List UInt8} {cs : Array Value} {f : Nat × Nat} (h : w.ownsRow base 5 1 v n (bcs l)) (hg : w.heap[g]? = some (.cells cs T f)) (hT : 5 ≠ T) : HBN w g v l := by
  refine ⟨HB.of_owns h, fun a m c e => ⟨?_, TY.of_owns h e⟩⟩
  obtain ⟨cur, fr, ht⟩ := TY.of_owns h e
  rintro rfl
  rw [hg] at ht
  simp only [Option.some.injEq, Obj.cells.injEq] at ht
  exact hT ht.2.1.symm

end Go.Proofs.YtgfddabccjfhiaaDoor

namespace Go.Proofs.YtgfddabccjfhiaaDoor
open Go.RowKit

set_option maxRecDepth 100000 in
set_option maxHeartbeats 1000000 in
theorem clone_any (v : Value) (l : List UInt8) (w : World) (h : HB w v l) (hbig : l.length ≤ 140737488355328) :
    Calls Tryd.prog 8 #[v] w fun e w' => ∃ p c, e = .returned (.slice p l.length c) ∧ HB w' (.slice p l.length c) l ∧ Below w.heap.size w w' := by
  have q22 : ∀ (w : World) (a : Option Addr) (n c n' c' : Nat), (binOp .eql 22 (.slice a n c) (.slice none n' c')).run Tryd.prog w = .ok (.bool a.isNone) w := fun w a n c n' c' => Lib.run_eql_slice_nil w _ _ a n c n' c' Tryd.underlying22
  obtain ⟨p, c, rfl⟩ := h.shape
  cases p with
  | none =>
    have hc := h.len.2.2.2 rfl
    have hl := h.len.2.1
    subst hc
    have e : l = [] := List.eq_nil_of_length_eq_zero (by omega)
    subst e
    clear h hl hbig
    go_enter Tryd.func8, Tryd.ntmps8
    go_wp2
    go_ret
    exact ⟨none, 0, rfl, HB.nil _, Below.refl _ _⟩
  | some a =>
    have h2 : HB (w.alloc (.cells #[] 5)) (.slice (some a) l.length c) l := h.later ((Below.refl _ w).alloc (Nat.le_refl _) _)
    clear h
    go_enter Tryd.func8, Tryd.ntmps8
    go_wp2_with (at_builtin; refine wpList_append_hb rfl (.tmp 5) (.tmp 6) 22 rfl w.heap.size 5 Tryd.underlying22 i_u8 _ 0 [] rfl (World.ownsRow_made w #[] 0 (Nat.le_refl _) (Nat.zero_le _) rfl) _ _ _ l rfl h2 ?qa ?qb ?_)
    case qa => omega
    case qb => simp
    intro v1 w1 hown1 hgrow1
    have hb1 : Below w.heap.size w w1 := ((Below.refl _ w).alloc (Nat.le_refl _) _).grown hgrow1 (by simp) (by intro k hk; cases hk; exact Nat.le_refl _)
    have hh := HB.of_owns (by simpa using hown1 : w1.ownsRow w.heap.size 5 1 v1 l.length (bcs l))
    obtain ⟨p1, c1, hv⟩ := hh.shape
    rw [hv] at hh ⊢
    clear hv hown1 hgrow1 h2
    go_wp2
    go_ret
    exact ⟨_, _, rfl, hh, hb1⟩

end Go.Proofs.YtgfddabccjfhiaaDoor

namespace Go.Proofs.YtgfddabccjfhiaaDoor
open Go.RowKit

/-- bytes.Clone: a row that the call owns. -/
theorem clone_own (v : Value) (l : List UInt8) (w : World) (h : HB w v l) (hbig : l.length ≤ 140737488355328) :
    Calls Tryd.prog 8 #[v] w fun e w' => ∃ p c, e = .returned (.slice p l.length c) ∧ w'.ownsRow w.heap.size 5 1 (.slice p l.length c) l.length (bcs l) ∧ Below w.heap.size w w' := by
  have q22 : ∀ (w : World) (a : Option Addr) (n c n' c' : Nat), (binOp .eql 22 (.slice a n c) (.slice none n' c')).run Tryd.prog w = .ok (.bool a.isNone) w := fun w a n c n' c' => Lib.run_eql_slice_nil w _ _ a n c n' c' Tryd.underlying22
  obtain ⟨p, c, rfl⟩ := h.shape
  cases p with
  | none =>
    have hc := h.len.2.2.2 rfl
    have hl := h.len.2.1
    subst hc
    have e : l = [] := List.eq_nil_of_length_eq_zero (by omega)
    subst e
    clear h hl hbig
    go_enter Tryd.func8, Tryd.ntmps8
    go_wp2
    go_ret
    exact ⟨none, 0, rfl, World.ownsRow_nil _ _ _ _, Below.refl _ _⟩
  | some a =>
    have h2 : HB (w.alloc (.cells #[] 5)) (.slice (some a) l.length c) l := h.later ((Below.refl _ w).alloc (Nat.le_refl _) _)
    clear h
    go_enter Tryd.func8, Tryd.ntmps8
    go_wp2_with (at_builtin; refine wpList_append_hb rfl (.tmp 5) (.tmp 6) 22 rfl w.heap.size 5 Tryd.underlying22 i_u8 _ 0 [] rfl (World.ownsRow_made w #[] 0 (Nat.le_refl _) (Nat.zero_le _) rfl) _ _ _ l rfl h2 ?qa ?qb ?_)
    case qa => omega
    case qb => simp
    intro v1 w1 hown1 hgrow1
    have hb1 : Below w.heap.size w w1 := ((Below.refl _ w).alloc (Nat.le_refl _) _).grown hgrow1 (by simp) (by intro k hk; cases hk; exact Nat.le_refl _)
    have hown2 : w1.ownsRow w.heap.size 5 1 v1 l.length (bcs l) := by simpa using hown1
    obtain ⟨p1, c1, rfl⟩ := owns_shape hown2
    clear hown1 hgrow1 h2
    go_wp2
    go_ret
    exact ⟨_, _, rfl, hown2, hb1⟩

end Go.Proofs.YtgfddabccjfhiaaDoor

namespace Go.Proofs.YtgfddabccjfhiaaDoor
open Go.RowKit

/-- What the clone of rows answers. -/
def RcSaid (ls : List (List UInt8)) (w0 w : World) (x : Ending) (w' : World) : Prop := ∃ v' vs, x = .returned v' ∧ vs.length = ls.length ∧ w'.ownsRow w.heap.size 22 1 v' ls.length vs ∧ (∀ (j : Nat) u l, vs[j]? = some u → ls[j]? = some l → HB w0 u l) ∧ Below w.heap.size w w'

set_option maxRecDepth 100000 in
set_option maxHeartbeats 1000000 in
theorem rowsClone_any (v : Value) (ls : List (List UInt8)) (w0 w : World) (h : PA w0 v ls) (hB : Below w0.heap.size w0 w) (hbig : ls.length ≤ 1000) :
    Calls Tryd.prog 86 #[v] w (RcSaid ls w0 w) := by
  have q22 : ∀ (w : World) (a : Option Addr) (n c n' c' : Nat), (binOp .eql 23 (.slice a n c) (.slice none n' c')).run Tryd.prog w = .ok (.bool a.isNone) w := fun w a n c n' c' => Lib.run_eql_slice_nil w _ _ a n c n' c' Tryd.underlying23
  obtain ⟨p, cap, vs, rfl, h1, h2, h3, h4, h5, h6⟩ := h
  obtain ⟨i0, hi, hz0, hz1, hz2⟩ := info_parts i_bytes
  cases p with
  | none =>
    have hc := h3 rfl
    subst hc
    have e : ls = [] := List.eq_nil_of_length_eq_zero (by omega)
    subst e
    have ev : vs = [] := List.eq_nil_of_length_eq_zero (by simpa using h4)
    subst ev
    go_enter Tryd.func86, Tryd.ntmps86
    go_wp2
    go_ret
    exact ⟨_, [], rfl, rfl, World.ownsRow_nil _ _ _ _, fun j u l h => by simp at h, Below.refl _ _⟩
  | some a =>
    have b0 := (Below.refl w.heap.size w).alloc (Nat.le_refl _) (.cells #[] 22)
    have hnews : ∀ j u, vs[j]? = some u → (w.alloc (.cells #[] 22)).cell? (a.add j) = some u := by
      intro j u hu
      have hj : j < vs.length := (List.getElem?_eq_some_iff.1 hu).1
      obtain ⟨b, o, e, hc⟩ := h5 (fun e => by subst e; rw [List.length_nil] at h4; omega)
      simp only [Option.some.injEq] at e
      subst e
      rw [add_lit]
      exact cell_later b0 (cell_later hB (hc j u hu))
    have hone : ∀ u ∈ vs, u.oneCell' = true := by
      intro u hu
      obtain ⟨j, hj, rfl⟩ := List.mem_iff_getElem.1 hu
      obtain ⟨p', c', e⟩ := (h6 j vs[j] ls[j] (List.getElem?_eq_getElem hj) (List.getElem?_eq_getElem (by omega))).shape
      rw [e]
      rfl
    have hmade := World.ownsRow_made (e := 22) (size := 1) (base := w.heap.size) w #[] 0 (Nat.le_refl _) (Nat.zero_le _) rfl
    go_enter Tryd.func86, Tryd.ntmps86
    go_wp2_with (first | (at_builtin; refine wpList_append_own _ rfl (.tmp 5) (.tmp 6) 23 rfl w.heap.size 22 i0 _ 1 24 Tryd.underlying23 hi hz0 hz1 hz2 rfl (by decide) _ 0 [] rfl hmade a ls.length cap vs rfl ?ra hnews hone ?rc ?rd ?re ?_))
    case ra => omega
    case rc => unfold maxLen; omega
    case rd => omega
    case re => simp
    intro v3 w3 hown3 hgrow3 _
    have hb3 : Below w.heap.size w w3 := b0.grown hgrow3 (by simp) (by intro k hk; cases hk; exact Nat.le_refl _)
    have hown4 : w3.ownsRow w.heap.size 22 1 v3 ls.length vs := by simpa using hown3
    clear hown3 hgrow3 hnews hone hmade
    go_wp2
    go_ret
    exact ⟨_, vs, rfl, h4, hown4, h6, hb3⟩

/-- A row under way: from text k on it is as it came in, ahead of it in memory of its own. -/
def RL (w0 w : World) (g gR n k : Nat) (ls : List (List UInt8)) : Prop :=
  ∃ cs : Array Value, w.heap[gR]? = some (.cells cs 22 (0, 0)) ∧ n ≤ cs.size ∧ ∀ (j : Nat) u l, j < n → cs[j]? = some u → ls[j]? = some l → (k ≤ j ∧ HB w0 u l) ∨ HBN w g u l

theorem RL.tk {T : TypeId} {w0 w w' : World} {g gR n k : Nat} {ls : List (List UInt8)} (h : RL w0 w g gR n k ls) (t : TK T w w') (hT : 5 ≠ T) (hB : 22 ≠ T) : RL w0 w' g gR n k ls := by
  obtain ⟨cs, h1, h2, h3⟩ := h
  exact ⟨cs, t _ _ _ _ h1 hB, h2, fun j u l hj hu hl => (h3 j u l hj hu hl).imp id fun q => q.tk t hT⟩

theorem RL.get {w0 w : World} {g gR n i : Nat} {ls : List (List UInt8)} (h : RL w0 w g gR n i ls) (hb : Below w0.heap.size w0 w) (hn : n = ls.length) (k : Nat) (hk : k < n) : ∃ q d l, Hid (ls[k]? = some l) ∧ w.cell? ⟨gR, k, none⟩ = some (.slice q l.length d) ∧ HB w (.slice q l.length d) l ∧ w.frozen? ⟨gR, k, none⟩ = false := by
  obtain ⟨cs, h1, h2, h3⟩ := h
  have hc : cs[k]? = some cs[k] := by simp [show k < cs.size by omega]
  have hl : ls[k]? = some (ls[k]'(by omega)) := List.getElem?_eq_getElem (by omega)
  have hh : HB w cs[k] (ls[k]'(by omega)) := by
    rcases h3 k _ _ hk hc hl with q | q
    · exact q.2.later hb
    · exact q.1
  obtain ⟨q, d, e⟩ := hh.shape
  refine ⟨q, d, _, hl, ?_, by rw [← e]; exact hh, by simp [World.frozen?, h1]⟩
  rw [cell_of_row _ _ _ _ _ _ h1, ← e]
  simp [show k < cs.size by omega]

theorem RL.put {w0 w : World} {g gR n k : Nat} {ls : List (List UInt8)} {v : Value} {l : List UInt8} (h : RL w0 w g gR n k ls) (hv : HBN w g v l) (hl : ls[k]? = some l) : TK 22 w (w.setCell ⟨gR, k, none⟩ v) ∧ RL w0 (w.setCell ⟨gR, k, none⟩ v) g gR n (k + 1) ls := by
  obtain ⟨cs, h1, h2, h3⟩ := h
  have ho : Only gR w (w.setCell ⟨gR, k, none⟩ v) := (Only.refl gR w).setCell _ v
  have t : TK 22 w (w.setCell ⟨gR, k, none⟩ v) := TK.of_only ho h1
  refine ⟨t, cs.setIfInBounds k v, by rw [heap_setCell_same w gR _ _ _ _ h1], by simp [h2], fun j u m hj hu hm => ?_⟩
  by_cases hjk : j = k
  · subst hjk
    rw [Array.getElem?_setIfInBounds_self_of_lt (by omega)] at hu
    rw [hl] at hm
    simp only [Option.some.injEq] at hu hm
    subst hu; subst hm
    exact .inr (hv.tk t (by decide))
  · rw [Array.getElem?_setIfInBounds_ne (by omega)] at hu
    exact (h3 j u m hj hu hm).imp (fun q => ⟨by omega, q.2⟩) fun q => q.tk t (by decide)

/-- A row in memory of its own. -/
def KR (w : World) (g : Nat) (v : Value) (ls : List (List UInt8)) : Prop :=
  (v = .slice none 0 0 ∧ ls = []) ∨ ∃ gR c cs, v = .slice (some ⟨gR, 0, none⟩) ls.length c ∧ w.heap[gR]? = some (.cells cs 22 (0, 0)) ∧ ls.length ≤ cs.size ∧ ls.length ≤ c ∧ c ≤ maxLen ∧ ∀ (j : Nat) u l, j < ls.length → cs[j]? = some u → ls[j]? = some l → HBN w g u l

theorem KR.tk {T : TypeId} {w w' : World} {g : Nat} {v : Value} {ls : List (List UInt8)} (h : KR w g v ls) (t : TK T w w') (hT : 5 ≠ T) (hB : 22 ≠ T) : KR w' g v ls := by
  rcases h with h | ⟨gR, c, cs, e, h1, h2, h3, h4, h5⟩
  · exact .inl h
  · exact .inr ⟨gR, c, cs, e, t _ _ _ _ h1 hB, h2, h3, h4, fun j u l hj hu hl => (h5 j u l hj hu hl).tk t hT⟩

theorem KR.pa {w : World} {g : Nat} {v : Value} {ls : List (List UInt8)} (h : KR w g v ls) : PA w v ls := by
  rcases h with ⟨rfl, rfl⟩ | ⟨gR, c, cs, rfl, h1, h2, hc, hm, h3⟩
  · exact PA.nil _
  refine ⟨_, c, cs.toList.take ls.length, rfl, hc, hm, (fun h => by cases h), by simp; omega, fun _ => ⟨gR, 0, rfl, fun i x hx => ?_⟩, fun i x l hx hl => ?_⟩
  · rw [Nat.zero_add, cell_of_row _ _ _ _ _ _ h1]
    rw [List.getElem?_take] at hx
    split at hx
    · simpa using hx
    · cases hx
  · rw [List.getElem?_take] at hx
    split at hx
    · rename_i hi
      exact (h3 i x l hi (by simpa using hx) hl).1
    · cases hx

theorem RL.kr {w0 w : World} {g gR n k c : Nat} {ls : List (List UInt8)} (h : RL w0 w g gR n k ls) (hn : n = ls.length) (hk : ¬ k < n) (hc : n ≤ c) (hm : c ≤ maxLen) : KR w g (.slice (some ⟨gR, 0, none⟩) n c) ls := by
  obtain ⟨cs, h1, h2, h3⟩ := h
  refine .inr ⟨gR, c, cs, by rw [hn], h1, by omega, by omega, hm, fun j u l hj hu hl => ?_⟩
  rcases h3 j u l (by omega) hu hl with q | q
  · omega
  · exact q

end Go.Proofs.YtgfddabccjfhiaaDoor
