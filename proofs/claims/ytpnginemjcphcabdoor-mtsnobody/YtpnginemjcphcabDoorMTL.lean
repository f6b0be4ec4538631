/- What this text holds: the levels of a tree in memory (plain facts): they stay where another block is changed, and where the list of levels grows. -/
import Derived.Test.YtpnginemjcphcabDoorMLevels
import Derived.Test.YtpnginemjcphcabDoorMOnce
import Derived.Test.YtpnginemjcphcabDoorOnlyT
namespace Go.Proofs.YtpnginemjcphcabDoor
open Go.RowKit

theorem owns_only {w w' : World} {g base e s n : Nat} {v : Value} {xs : List Value} (h : w.ownsRow base e s v n xs) (ho : Only g w w') (hg : g < base) : w'.ownsRow base e s v n xs := by
  refine ⟨h.1, ?_⟩
  rcases h.2 with hn | ⟨k, cap, cur, rfl, hb, hk, rest⟩
  · exact .inl hn
  · refine .inr ⟨k, cap, cur, rfl, hb, ?_, rest⟩
    rw [ho.block k (by omega) (Array.getElem?_eq_some_iff.1 hk).1]
    exact hk

theorem hb_only {w w' : World} {g : Nat} {n h d s : Int} {sv lv u : Value} {l : List UInt8} (k : KO w g n h sv d s lv) (ho : Only g w w') (hu : HB w u l) (t : TB w u) : HB w' u l ∧ TB w' u := by
  have hne : ∀ b o n c, u = .slice (some ⟨b, o, none⟩) n c → b ≠ g := by
    intro b o n' c e hbg
    obtain ⟨cur, fr, hb⟩ := t b o n' c e
    subst hbg
    unfold KO at k
    rw [hb] at k
    simp only [Option.some.injEq, Obj.cells.injEq] at k
    exact absurd k.2.1 (by decide)
  constructor
  · obtain ⟨p, c, rfl⟩ := hu.shape
    by_cases hn : l = []
    · subst hn
      have := hu.len
      exact HB.empty _ p c this.2.2.1 this.2.2.2
    · obtain ⟨b, o, rfl, hc⟩ := hu.addr (List.length_pos_iff.2 hn)
      have hl := hu.len
      refine ⟨_, c, rfl, hl.2.1, hl.2.2.1, hl.2.2.2, fun _ => ⟨b, o, rfl, fun i x hx => ?_⟩⟩
      rw [World.cell?_of_block (ho.block b (hne b o _ _ rfl) (cell_lt (hc i x hx)))]
      exact hc i x hx
  · intro b o n' c e
    obtain ⟨cur, fr, hb⟩ := t b o n' c e
    exact ⟨cur, fr, by rw [ho.block b (hne b o n' c e) (Array.getElem?_eq_some_iff.1 hb).1]; exact hb⟩

theorem RS.only {w w' : World} {g base N : Nat} {n h d s : Int} {sv lv v : Value} {sig : Nat → List UInt8} (r : RS w base v N sig) (k : KO w g n h sv d s lv) (ho : Only g w w') (hg : g < base) : RS w' base v N sig := by
  obtain ⟨vs, h1, h2⟩ := r
  exact ⟨vs, owns_only h1 ho hg, fun j u hu => hb_only k ho (h2 j u hu).1 (h2 j u hu).2⟩

/-- Bytes in a block of bytes stay where a row of lists grew. -/
theorem hb_grownR {w w' : World} {base n : Nat} {v u : Value} {vs : List Value} {l : List UInt8} (ho : w.ownsRow base 28 1 v n vs) (hg : w.grownBy w' v.ownBlock) (h : HB w u l) (t : TB w u) : HB w' u l ∧ TB w' u := by
  have hne : ∀ b o n c, u = .slice (some ⟨b, o, none⟩) n c → some b ≠ v.ownBlock := by
    intro b o n' c e he
    obtain ⟨cur, fr, hb⟩ := t b o n' c e
    rcases ho.2 with ⟨rfl, _⟩ | ⟨g, cap, cur', rfl, _, hg', _⟩
    · simp [Value.ownBlock] at he
    · simp only [Value.ownBlock, Option.some.injEq] at he
      subst he
      rw [hb] at hg'
      simp only [Option.some.injEq, Obj.cells.injEq] at hg'
      exact absurd hg'.2.1 (by decide)
  constructor
  · obtain ⟨p, c, rfl⟩ := h.shape
    by_cases hn : l = []
    · subst hn
      have := h.len
      exact HB.empty _ p c this.2.2.1 this.2.2.2
    · obtain ⟨b, o, rfl, hc⟩ := h.addr (List.length_pos_iff.2 hn)
      have hl := h.len
      refine ⟨_, c, rfl, hl.2.1, hl.2.2.1, hl.2.2.2, fun _ => ⟨b, o, rfl, fun i x hx => hg.cell (hc i x hx) (hne b o _ _ rfl)⟩⟩
  · intro b o n' c e
    obtain ⟨cur, fr, hb⟩ := t b o n' c e
    exact ⟨cur, fr, by rw [hg.block b (Array.getElem?_eq_some_iff.1 hb).1 (hne b o n' c e)]; exact hb⟩

theorem RS.grown {w w' : World} {base0 base n N : Nat} {v u : Value} {vs : List Value} {sig : Nat → List UInt8} (ho : w.ownsRow base0 28 1 v n vs) (hg : w.grownBy w' v.ownBlock) (r : RS w base u N sig) : RS w' base u N sig := by
  obtain ⟨us, h1, h2⟩ := r
  exact ⟨us, h1.kept hg (owns_apart h1 ho (by decide)), fun j x hx => hb_grownR ho hg (h2 j x hx).1 (h2 j x hx).2⟩

theorem RS.mono {w : World} {base base' N : Nat} {v : Value} {sig : Nat → List UInt8} (r : RS w base v N sig) (hb : base' ≤ base) : RS w base' v N sig := by
  obtain ⟨vs, h1, h2⟩ := r
  exact ⟨vs, owns_mono h1 hb, h2⟩

/-- The first m levels of the tree. -/
def TL (w : World) (base n h : Nat) (seed : List UInt8) (v : Value) (m : Nat) : Prop :=
  ∃ vs : List Value, w.ownsRow base 28 1 v m vs ∧ ∀ (j : Nat) u, vs[j]? = some u → RS w base u (2 ^ (h - j)) (treeS n seed j)

theorem TL.later {w w' : World} {base n h m : Nat} {seed : List UInt8} {v : Value} (t : TL w base n h seed v m) (hb : Below w.heap.size w w') : TL w' base n h seed v m := by
  obtain ⟨vs, h1, h2⟩ := t
  exact ⟨vs, owns_later h1 hb, fun j u hu => (h2 j u hu).later hb⟩
theorem TL.only {w w' : World} {g base n h m : Nat} {n' h' d s : Int} {sv lv : Value} {seed : List UInt8} {v : Value} (t : TL w base n h seed v m) (k : KO w g n' h' sv d s lv) (ho : Only g w w') (hg : g < base) : TL w' base n h seed v m := by
  obtain ⟨vs, h1, h2⟩ := t
  exact ⟨vs, owns_only h1 ho hg, fun j u hu => (h2 j u hu).only k ho hg⟩
theorem TL.snoc {w w' : World} {base n h m : Nat} {seed : List UInt8} {v v' x : Value} {vs : List Value} (h1 : w.ownsRow base 28 1 v m vs) (h2 : ∀ (j : Nat) u, vs[j]? = some u → RS w base u (2 ^ (h - j)) (treeS n seed j)) (hx : RS w base x (2 ^ (h - m)) (treeS n seed m))
    (hg : w.grownBy w' v.ownBlock) (ho : w'.ownsRow base 28 1 v' (m + 1) (vs ++ [x])) : TL w' base n h seed v' (m + 1) := by
  refine ⟨vs ++ [x], ho, fun j u hu => ?_⟩
  have hl := h1.1
  rw [Nat.mul_one] at hl
  by_cases hj : j < m
  · rw [List.getElem?_append_left (by omega)] at hu
    exact (h2 j u hu).grown h1 hg
  · rw [List.getElem?_append_right (by omega), hl] at hu
    cases hjk : j - m with
    | zero =>
      rw [hjk] at hu
      simp at hu
      subst hu
      obtain rfl : j = m := by omega
      exact hx.grown h1 hg
    | succ q => rw [hjk] at hu; simp at hu

end Go.Proofs.YtpnginemjcphcabDoor
