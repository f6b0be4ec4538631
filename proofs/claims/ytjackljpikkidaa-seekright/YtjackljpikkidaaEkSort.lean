/- What this text proves: slices.Clone and slices.Sort of a slice of numbers over this program. -/
import Derived.Test.YtjackljpikkidaaEkLays
import Derived.Test.YtjackljpikkidaaIntsZ
namespace Go.Proofs.Ytjackljpikkidaa
open Go.RowKit Go.Sort Go.Shelf

def izs (l : List Int) : List Value := l.map fun x => .int .i64 x
theorem izs_len (l : List Int) : (izs l).length = l.length := by simp [izs]
def leZ : Int → Int → Bool := fun x y => decide (x ≤ y)

theorem IZ.of_owns {w : World} {base : Nat} {e : TypeId} {v : Value} {n : Nat} {l : List Int} (h : w.ownsRow base e 1 v n (izs l)) : IZ w v l := by
  obtain ⟨h1, h2⟩ := h
  rw [izs_len, Nat.mul_one] at h1
  subst h1
  rcases h2 with ⟨rfl, h0⟩ | ⟨g, cap, cur, rfl, hb, hg, hl, hm, hs, ht⟩
  · obtain rfl : l = [] := List.eq_nil_of_length_eq_zero h0
    exact ⟨none, 0, rfl, Nat.le_refl _, Nat.zero_le _, fun h => absurd rfl h⟩
  · refine ⟨_, cap, rfl, hl, hm, fun _ => ⟨g, 0, rfl, fun i x hx => ?_⟩⟩
    rw [Nat.zero_add, cell_of_row w g i cur e (0, 0) hg]
    have hi : i < l.length := (List.getElem?_eq_some_iff.1 hx).1
    have e1 : (izs l)[i]? = some (.int .i64 x) := by simp [izs, hx]
    rw [← ht, List.getElem?_take, if_pos (by omega)] at e1
    simpa using e1

theorem IZ.cells {w : World} {b o n c : Nat} {l : List Int} (h : IZ w (.slice (some ⟨b, o, none⟩) n c) l) : ∀ j u, (izs l)[j]? = some u → w.cell? ((⟨b, o, none⟩ : Addr).add j) = some u := by
  intro j u hu
  have hx : l[j]?.map (fun x => Value.int .i64 x) = some u := by simpa [izs] using hu
  obtain ⟨x, hy, rfl⟩ := Option.map_eq_some_iff.1 hx
  have hj : j < l.length := (List.getElem?_eq_some_iff.1 hy).1
  have hl := h.caps.1
  obtain ⟨b', o', e, hc⟩ := h.addr (by omega)
  simp only [Option.some.injEq, Addr.mk.injEq, and_true] at e
  obtain ⟨rfl, rfl⟩ := e
  rw [add_lit]
  exact hc j x hy

theorem i_intS2 : (Try.prog.info? 3).map (fun i => (i.zero, i.size, i.bytes)) = some (some (.int .i64 0), 1, 8) := by kernel_rfl

set_option maxHeartbeats 1000000 in
theorem iclone_any (v : Value) (l : List Int) (w : World) (h : IZ w v l) (hbig : l.length ≤ 1000000000) :
    Calls Try.prog 11 #[v] w fun e w' => ∃ u, e = .returned u ∧ w'.ownsRow w.heap.size 3 1 u l.length (izs l) ∧ Below w.heap.size w w' := by
  have q22 : ∀ (w : World) (a : Option Addr) (n c n' c' : Nat), (binOp .eql 22 (.slice a n c) (.slice none n' c')).run Try.prog w = .ok (.bool a.isNone) w := fun w a n c n' c' => Lib.run_eql_slice_nil w _ _ a n c n' c' Try.underlying22
  obtain ⟨p, c, rfl⟩ := h.shape
  obtain ⟨i0, hi, hz0, hz1, hz2⟩ := info_parts i_intS2
  cases p with
  | none =>
    have e : l = [] := by
      apply Classical.byContradiction
      intro hne
      obtain ⟨b, o, e, _⟩ := h.addr (List.length_pos_iff.2 hne)
      cases e
    subst e
    clear h hbig
    go_enter Try.func11, Try.ntmps11
    go_wp2
    go_ret
    exact ⟨_, rfl, World.ownsRow_nil _ _ _ _, Below.refl _ _⟩
  | some a =>
    have h2 : IZ (w.alloc (.cells #[] 3)) (.slice (some a) l.length c) l := h.later ((Below.refl _ w).alloc (Nat.le_refl _) _)
    have hcl : ∀ j u, (izs l)[j]? = some u → (w.alloc (.cells #[] 3)).cell? (a.add j) = some u := by
      intro j u hu
      have hj : j < l.length := by
        have := (List.getElem?_eq_some_iff.1 hu).1
        rwa [izs_len] at this
      obtain ⟨b, o, e, _⟩ := h2.addr (by omega)
      simp only [Option.some.injEq] at e
      subst e
      exact h2.cells j u hu
    clear h h2
    go_enter Try.func11, Try.ntmps11
    go_wp2_with (at_builtin; refine wpList_append_own _ rfl (.tmp 5) (.tmp 6) 22 rfl w.heap.size 3 i0 (.int .i64 0) 1 8 Try.underlying22 hi hz0 hz1 hz2 rfl (by decide) _ 0 [] rfl (World.ownsRow_made w #[] 0 (Nat.le_refl _) (Nat.zero_le _) rfl) a l.length c (izs l) rfl (by rw [izs_len, Nat.mul_one]) ?ra ?rb ?rc ?rd ?re ?_)
    all_goals first | (case ra => exact hcl) | skip
    all_goals first | (case rb => intro u hu; obtain ⟨x, _, rfl⟩ := List.mem_map.1 hu; rfl) | skip
    all_goals first | (case rc => unfold maxLen; omega) | skip
    all_goals first | (case rd => omega) | skip
    all_goals first | (case re => simp) | skip
    intro v1 w1 hown1 hgrow1 _
    have hb1 : Below w.heap.size w w1 := ((Below.refl _ w).alloc (Nat.le_refl _) _).grown hgrow1 (by simp) (by intro k hk; cases hk; exact Nat.le_refl _)
    obtain ⟨p1, c1, rfl⟩ := owns_shape hown1
    clear hgrow1 hcl
    go_wp2
    go_ret
    exact ⟨_, rfl, hown1, hb1⟩

theorem grow_block (w : World) (os : Array Obj) (k : Nat) (hk : k < w.heap.size) : (Sort.grow w os).heap[k]? = w.heap[k]? := by
  simp [Sort.grow, Array.getElem?_append, hk]

theorem putRow_block {α : Type} [Inhabited α] (enc : α → Value) (w : World) (blk off k : Nat) (d : Array α) (hk : k ≠ blk) : (Sort.putRow enc w blk off d).heap[k]? = w.heap[k]? := by
  simp [Sort.putRow, Sort.mapBlock, Array.getElem?_modify, Ne.symm hk]

theorem isort_any {w : World} {base : Nat} {v : Value} {l : List Int} (h : w.ownsRow base 3 1 v l.length (izs l)) (hl : l.length ≤ 1000000000) :
    Calls Try.prog 12 #[v] w fun e w' => e = .returned (.tuple #[]) ∧ IZ w' v (l.mergeSort leZ) ∧ Below base w w' := by
  have hz := IZ.of_owns h
  by_cases h0 : l = []
  · subst h0
    obtain ⟨p, c, rfl⟩ := hz.shape
    refine (AnyM.slices_Sort_int_none Try.sortA p c w).mono ?_
    rintro e w' ⟨rfl, rfl⟩
    exact ⟨rfl, by simpa using hz, Below.refl _ _⟩
  · have hpos : 0 < l.length := List.length_pos_iff.2 h0
    rcases h.2 with ⟨rfl, h1⟩ | ⟨g, cap, cur, rfl, hb, hg, hle, hm, hs, ht⟩
    · omega
    · have hlt : g < w.heap.size := (Array.getElem?_eq_some_iff.1 hg).1
      have hH : Holds (Value.int .i64) w g 0 l.toArray := by
        intro j hj
        have hj' : j < l.length := by simpa using hj
        obtain ⟨b', o', e, hc⟩ := hz.addr hpos
        simp only [Option.some.injEq, Addr.mk.injEq, and_true] at e
        obtain ⟨rfl, rfl⟩ := e
        refine ⟨?_, by simp [World.frozen?, hg]⟩
        rw [hc j l[j] (List.getElem?_eq_getElem hj')]
        simp [hj']
      refine (AnyM.slices_Sort_int Try.sortA g 0 cap l w hH hlt (by omega)).mono ?_
      rintro e w' ⟨rfl, n, os, rfl⟩
      have hsl : (l.mergeSort leZ).length = l.length := List.length_mergeSort l
      refine ⟨rfl, ⟨_, cap, by rw [hsl], by omega, hm, fun _ => ⟨g, 0, rfl, fun i x hx => ?_⟩⟩, ?_⟩
      · have hi : i < (l.mergeSort leZ).length := (List.getElem?_eq_some_iff.1 hx).1
        rw [World.cell?_of_block (w := Sort.putRow (Value.int .i64) (Sort.ahead w n) g 0 (l.mergeSort leZ).toArray) (grow_block _ os g (by simpa using hlt))]
        have := cell?_putRow (Value.int .i64) (Sort.ahead w n) g 0 l.toArray (l.mergeSort leZ).toArray (holds_ahead _ _ _ _ _ _ hH) (by simp [hsl]) i (by simpa using hi)
        rw [this]
        simp [hx]
      · refine ⟨rfl, rfl, rfl, by simp [Sort.grow], fun k hk => ?_⟩
        rw [grow_block _ os k (by simp; omega), putRow_block _ _ _ _ _ _ (by omega)]
        rfl

end Go.Proofs.Ytjackljpikkidaa
