/- What this text holds: plain facts on a signed record that is opened as it was sealed; what stays where a block of no bytes changes. -/
import Derived.Test.YtkgoiemnhhdlbaaDoorRcSeal
import Derived.Test.YtkgoiemnhhdlbaaDoorMReadL
namespace Go.Proofs.YtkgoiemnhhdlbaaDoor
open Go.RowKit

/-- Bytes stay where a block that holds none changes. -/
theorem HB.onlyC {w w' : World} {g : Nat} {v : Value} {l : List UInt8} {cs : Array Value} {t : TypeId} {fr : Nat × Nat} (h : HB w v l) (hg : w.heap[g]? = some (.cells cs t fr)) (hc : ∀ x ∈ cs.toList, ∀ y : UInt8, x ≠ bc y) (ho : Only g w w') : HB w' v l := by
  obtain ⟨p, cap, e, h1, h2, h3, h4⟩ := h
  refine ⟨p, cap, e, h1, h2, h3, fun hne => ?_⟩
  obtain ⟨b, o, e1, e2⟩ := h4 hne
  refine ⟨b, o, e1, fun i x hx => ?_⟩
  have hcx := e2 i x hx
  have hb : b ≠ g := by
    rintro rfl
    rw [cell_of_row w b (o + i) cs t fr hg] at hcx
    exact hc _ (Array.mem_toList_iff.2 (Array.mem_of_getElem? hcx)) x rfl
  rw [World.cell?_of_block (w := w) (ho.block b hb (cell_lt hcx))]
  exact hcx

theorem PA.onlyC {w w' : World} {g : Nat} {v : Value} {ls : List (List UInt8)} {cs : Array Value} {t : TypeId} {fr : Nat × Nat} (h : PA w v ls) (hpos : ∀ l ∈ ls, 0 < l.length) (hg : w.heap[g]? = some (.cells cs t fr)) (hc : ∀ x ∈ cs.toList, ∀ y : UInt8, x ≠ bc y) (hz : ∀ x ∈ cs.toList, ∀ q n c, x = Value.slice q n c → n = 0) (ho : Only g w w') : PA w' v ls := by
  obtain ⟨p, cap, vs, e, h1, h2, h3, h4, h5, h6⟩ := h
  refine ⟨p, cap, vs, e, h1, h2, h3, h4, fun hne => ?_, fun i x l hx hl => (h6 i x l hx hl).onlyC hg hc ho⟩
  obtain ⟨b, o, e1, e2⟩ := h5 hne
  refine ⟨b, o, e1, fun i x hx => ?_⟩
  have hcx := e2 i x hx
  have hi : i < ls.length := by have := (List.getElem?_eq_some_iff.1 hx).1; omega
  obtain ⟨l, hl⟩ : ∃ l, ls[i]? = some l := ⟨_, List.getElem?_eq_getElem hi⟩
  have hb : b ≠ g := by
    rintro rfl
    rw [cell_of_row w b (o + i) cs t fr hg] at hcx
    obtain ⟨q, c, hq⟩ := (h6 i x l hx hl).shape
    have := hz _ (Array.mem_toList_iff.2 (Array.mem_of_getElem? hcx)) q l.length c hq
    have := hpos l (List.mem_of_getElem? hl)
    omega
  rw [World.cell?_of_block (w := w) (ho.block b hb (cell_lt hcx))]
  exact hcx

theorem uintF_over (n : Nat) (more : List UInt8) (most : Int) (h : n ≤ 4611686018427387904) (hm : most < (n : Int)) : uintF (numL n ++ more) most = (4, 0, []) := by
  have h64 : n < 2 ^ 64 := by omega
  have hc := cnt_byte n h64
  have h8 := cnt_le8 n h64
  have hl := ndigs_length n
  unfold numL
  simp only [List.cons_append, uintF]
  rw [hc]
  have ht : (ndigs n ++ more).take (cnt n) = ndigs n := by rw [← hl, List.take_left]
  have hv := valL_digs 8 n (by rw [show (256 : Nat) ^ 8 = 2 ^ 64 from rfl]; exact h64) (Nat.le_refl _)
  rw [ht, hv, if_neg (by omega), if_neg (by rw [List.length_append]; omega), if_neg, if_neg (by omega), if_pos (by omega)]
  intro e
  cases hdg : ndigs n with
  | nil => rw [hdg] at e; cases e
  | cons d r =>
    rw [hdg] at e
    have := ndigs_head n h64 d r hdg
    simp at e
    exact this e

theorem row_at (N : Nat) : ∀ (ls : List (List UInt8)) (more : List UInt8) (j : Nat) (x : List UInt8), (∀ y ∈ ls, y.length = N) → ls[j]? = some x → rowB N (ls.flatten ++ more) j = x := by
  intro ls
  induction ls with
  | nil => intro more j x _ h; simp at h
  | cons y ls ih =>
    intro more j x hl hj
    have hy := hl y (List.mem_cons_self ..)
    unfold rowB
    cases j with
    | zero =>
      simp at hj
      subst hj
      rw [Nat.zero_mul, List.drop_zero, List.flatten_cons, List.append_assoc, ← hy, List.take_left]
    | succ j =>
      have := ih more j x (fun z hz => hl z (List.mem_cons_of_mem _ hz)) (by simpa using hj)
      unfold rowB at this
      rw [List.flatten_cons, List.append_assoc, Nat.succ_mul, Nat.add_comm, ← List.drop_drop]
      rw [show (y ++ (ls.flatten ++ more)).drop N = ls.flatten ++ more by rw [← hy, List.drop_left]]
      exact this

theorem rows_back (N : Nat) (ls : List (List UInt8)) (more : List UInt8) (h : ∀ y ∈ ls, y.length = N) : (List.range ls.length).map (rowB N (ls.flatten ++ more)) = ls := by
  apply List.ext_getElem?
  intro i
  by_cases hi : i < ls.length
  · obtain ⟨x, hx⟩ : ∃ x, ls[i]? = some x := ⟨_, List.getElem?_eq_getElem hi⟩
    rw [hx, List.getElem?_map, List.getElem?_range hi]
    simp only [Option.map_some]
    rw [row_at N ls more i x h hx]
  · rw [List.getElem?_eq_none (by simp; omega), List.getElem?_eq_none (by omega)]

theorem flat_all (N : Nat) (ls : List (List UInt8)) (h : ∀ y ∈ ls, y.length = N) : ls.flatten.length = ls.length * N := by
  induction ls with
  | nil => simp
  | cons y ls ih =>
    rw [List.flatten_cons, List.length_append, h y (List.mem_cons_self ..), ih (fun z hz => h z (List.mem_cons_of_mem _ hz)), List.length_cons, Nat.succ_mul]
    omega

theorem sized_nat {N : Nat} {ls : List (List UInt8)} (h : sizedB (N : Int) ls = true) : ∀ y ∈ ls, y.length = N := by
  intro y hy
  unfold sizedB at h
  have := List.all_eq_true.1 h y hy
  simp at this
  omega

end Go.Proofs.YtkgoiemnhhdlbaaDoor
