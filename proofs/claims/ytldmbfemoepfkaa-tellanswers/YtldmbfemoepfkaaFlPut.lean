/- What this text proves: the walks of fields.Writer's Put, Number, Text, Flag and Written over this program; a writer in memory. -/
import Derived.Test.YtldmbfemoepfkaaCPuts
import Derived.Test.YtldmbfemoepfkaaOwn
import Derived.Test.YtldmbfemoepfkaaRcKeep
namespace Go.Proofs.Ytldmbfemoepfkaa
open Go.RowKit

/-- Block g, of type T, is a writer that has written l, in a row that the call owns from base on. -/
def WRT (T : TypeId) (w : World) (g base : Nat) (l : List UInt8) : Prop :=
  ∃ p c, w.heap[g]? = some (.cells #[.slice p l.length c] T (0, 0)) ∧ w.ownsRow base 5 1 (.slice p l.length c) l.length (bcs l) ∧ base ≤ w.heap.size

/-- Blocks of another type than T and bytes stay. -/
def TKB (T : TypeId) (w w' : World) : Prop := ∀ (k : Nat) cur t fr, w.heap[k]? = some (.cells cur t fr) → t ≠ T → t ≠ 5 → w'.heap[k]? = some (.cells cur t fr)

theorem TKB.refl (T : TypeId) (w : World) : TKB T w w := fun _ _ _ _ h _ _ => h
theorem TKB.trans {T : TypeId} {a b c : World} (h : TKB T a b) (k : TKB T b c) : TKB T a c := fun i cur t fr hi h1 h2 => k i cur t fr (h i cur t fr hi h1 h2) h1 h2
theorem TKB.of_below {T : TypeId} {w w' : World} (hb : Below w.heap.size w w') : TKB T w w' := fun k _ _ _ hk _ _ => (hb.block k (Array.getElem?_eq_some_iff.1 hk).1).trans hk

theorem TKB.of_grown {T : TypeId} {w w' : World} {base s n : Nat} {v : Value} {xs : List Value} (h : w.ownsRow base 5 s v n xs) (hg : w.grownBy w' v.ownBlock) : TKB T w w' := by
  intro k cur t fr hk _ ht
  have hne : some k ≠ v.ownBlock := by
    rcases h.2 with ⟨rfl, _⟩ | ⟨g, cap, cur', rfl, _, hg', _⟩
    · simp [Value.ownBlock]
    · simp only [Value.ownBlock, ne_eq, Option.some.injEq]
      intro e
      subst e
      rw [hg'] at hk
      simp only [Option.some.injEq, Obj.cells.injEq] at hk
      exact ht hk.2.1.symm
  exact (hg.block k (Array.getElem?_eq_some_iff.1 hk).1 hne).trans hk

theorem TKB.put {T : TypeId} {w : World} {a : Addr} {cs : Array Value} {f : Nat × Nat} (hg : w.heap[a.block]? = some (.cells cs T f)) (u : Value) : TKB T w (w.setCell a u) := by
  intro k cur t fr hk ht _
  have hne : k ≠ a.block := by
    rintro rfl
    rw [hg] at hk
    simp only [Option.some.injEq, Obj.cells.injEq] at hk
    exact ht hk.2.1.symm
  exact (Below.heap_setCell w a u k hne).trans hk

theorem WRT.lt {T : TypeId} {w : World} {g base : Nat} {l : List UInt8} (h : WRT T w g base l) : g < w.heap.size := by
  obtain ⟨p, c, h1, _⟩ := h
  exact (Array.getElem?_eq_some_iff.1 h1).1

theorem WRT.later {T : TypeId} {w w' : World} {g base : Nat} {l : List UInt8} (h : WRT T w g base l) (hb : Below w.heap.size w w') : WRT T w' g base l := by
  obtain ⟨p, c, h1, h2, h3⟩ := h
  exact ⟨p, c, (hb.block g (Array.getElem?_eq_some_iff.1 h1).1).trans h1, owns_later h2 hb, Nat.le_trans h3 hb.size⟩

/-- A writer that has just been made. -/
theorem WRT.made (T : TypeId) (w : World) (base : Nat) (hb : base ≤ w.heap.size) : WRT T (w.alloc (.cells #[.slice none 0 0] T)) w.heap.size base [] := by
  exact ⟨none, 0, heap_alloc_new w _, ⟨rfl, Or.inl ⟨rfl, rfl⟩⟩, Nat.le_trans hb ((Below.refl w.heap.size w).alloc (Nat.le_refl _) _).size⟩

/-- What a writer's call does. -/
def Wrote (T : TypeId) (g base : Nat) (l : List UInt8) (w w' : World) : Prop := WRT T w' g base l ∧ Below base w w' ∧ TKB T w w'

set_option maxHeartbeats 1000000 in
theorem put_any (T : TypeId) (hT : T ≠ 5) (g base : Nat) (u : Value) (l s : List UInt8) (w : World) (h : WRT T w g base l) (hg : base ≤ g) (hs : HB w u s) (hbig : l.length + s.length ≤ 140737488355200) :
    Calls Try.prog 69 #[.pointer (some ⟨g, 0, none⟩), u] w fun e w' => e = .returned (.tuple #[]) ∧ Wrote T g base (l ++ s) w w' := by
  obtain ⟨p, c, hc, hown, hbase⟩ := h
  obtain ⟨q, d, rfl⟩ := hs.shape
  have c0 : w.cell? ⟨g, 0, none⟩ = some (.slice p l.length c) := by rw [cell_of_row _ _ _ _ _ _ hc]; rfl
  go_enter Try.func69, Try.ntmps69
  go_wp2_with (first | (at_builtin; refine wpList_append_hb rfl (.tmp 8) (.tmp 9) 22 rfl base 5 Try.underlying22 i_u8 _ _ _ rfl hown _ _ _ s rfl hs ?sa ?sb ?_))
  case sa => omega
  case sb => exact hbase
  intro v3 w3 hown3 hgrow3
  have hb3 : Below base w w3 := (Below.refl base w).grown hgrow3 hbase (fun k hk => (hown.lt k hk).1)
  have t3 : TKB T w w3 := TKB.of_grown hown hgrow3
  have hc3 := (hgrow3.block g (Array.getElem?_eq_some_iff.1 hc).1 (by rcases hown.2 with ⟨e, _⟩ | ⟨g2, cap, cur, e, _, hg2, _⟩ <;> rw [e] <;> simp only [Value.ownBlock, ne_eq, reduceCtorEq, not_false_eq_true, Option.some.injEq] <;> (rintro rfl; rw [hg2] at hc; simp only [Option.some.injEq, Obj.cells.injEq] at hc; exact hT hc.2.1.symm))).trans hc
  rw [← bcs_append, ← List.length_append] at hown3
  obtain ⟨p3, c3, rfl⟩ := owns_shape hown3
  have f3 : w3.frozen? ⟨g, 0, none⟩ = false := by simp [World.frozen?, hc3]
  have c3' : w3.cell? ⟨g, 0, none⟩ = some (.slice p l.length c) := by rw [cell_of_row _ _ _ _ _ _ hc3]; rfl
  clear hgrow3 hown hs
  go_wp2
  go_end0
  have ho : Only g w3 (w3.setCell ⟨g, 0, none⟩ (.slice p3 (l.length + s.length) c3)) := (Only.refl _ w3).setCell _ _
  have t4 : TK T w3 (w3.setCell ⟨g, 0, none⟩ (.slice p3 (l.length + s.length) c3)) := TK.of_only ho hc3
  refine ⟨rfl, ⟨p3, c3, ?_, owns_tk hown3 t4 (Ne.symm hT), ?_⟩, hb3.setCell hg _, t3.trans (TKB.put hc3 _)⟩
  · rw [heap_setCell_same w3 _ _ _ _ _ hc3, List.length_append]; rfl
  · exact Nat.le_trans hbase (hb3.setCell hg _).size

end Go.Proofs.Ytldmbfemoepfkaa
