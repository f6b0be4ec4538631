/- What this text proves: the walk of mts.Sign, that signs, over this program. -/
import Derived.Test.YtdjaemobfbbkoaaDoorJMSignE
import Derived.Test.YtdjaemobfbbkoaaDoorJBackP
import Derived.Test.YtdjaemobfbbkoaaDoorJWSign
import Derived.Deep.RegionHeld3
namespace Go.Proofs.YtdjaemobfbbkoaaDoor
open Go.RowKit

/-- Keys that New made, whether their tree is there or not yet. -/
def KS (w : World) (g n h : Nat) (seed : List UInt8) (B : Nat) : Prop :=
  KW w g n h seed 0 (.slice none 0 0) ∨ ∃ lv, KW w g n h seed 1 lv ∧ TL w B n h seed lv (h + 1)

theorem KS.later {w w' : World} {g n h B : Nat} {seed : List UInt8} (k : KS w g n h seed B) (hb : Below w.heap.size w w') : KS w' g n h seed B := by
  rcases k with k | ⟨lv, k, t⟩
  · exact .inl (k.later hb)
  · exact .inr ⟨lv, k.later hb, t.later hb⟩

theorem KS.ko {w : World} {g n h B : Nat} {seed : List UInt8} (k : KS w g n h seed B) : ∃ d p1 n1 c1 p2 n2 c2, KO w g n h (.slice p1 n1 c1) d 0 (.slice p2 n2 c2) ∧ n1 = seed.length ∧ HB w (.slice p1 n1 c1) seed ∧ TB w (.slice p1 n1 c1) := by
  rcases k with ⟨p, c, k, hs, ts⟩ | ⟨lv, ⟨p, c, k, hs, ts⟩, t⟩
  · exact ⟨0, p, _, c, none, 0, 0, k, rfl, hs, ts⟩
  · obtain ⟨vs, h1, _⟩ := t
    obtain ⟨q, c2, rfl⟩ := owns_shape h1
    exact ⟨1, p, _, c, q, _, c2, k, rfl, hs, ts⟩

theorem tree_any (g n h B : Nat) (seed : List UInt8) (w : World) (k : KS w g n h seed B) (hg1 : 1 < g) (hgB : g < B) (hB : B ≤ w.heap.size) (hsl : seed.length ≤ 64) (hn : 1 ≤ n) (hn2 : n ≤ 32) (hh : h ≤ 8) (hT : Tabs w) :
    Calls Tryd.prog 25 #[.pointer (some ⟨g, 0, none⟩)] w fun e w' => ∃ lv, e = .returned lv ∧ KW w' g n h seed 1 lv ∧ TL w' B n h seed lv (h + 1) ∧ Only g w w' := by
  rcases k with k | ⟨lv, k, t⟩
  · exact (tree_first g n h seed _ w k hg1 hsl hn hn2 hh hT).mono fun e w' ⟨lv, he, k', t', o'⟩ => ⟨lv, he, k', t'.mono hB, o'⟩
  · exact (tree_done g n h seed lv w k).mono fun e w' ⟨he, hb⟩ => ⟨lv, he, k.later hb, t.later hb, Only.of_below hb (by omega)⟩

/-- No byte lies in the keys' own block. -/
theorem KO.hb {w w' : World} {g : Nat} {n h d s : Int} {p1 p2 : Option Addr} {n1 c1 n2 c2 : Nat} {u : Value} {l : List UInt8} (k : KO w g n h (.slice p1 n1 c1) d s (.slice p2 n2 c2)) (ho : Only g w w') (hu : HB w u l) : HB w' u l := by
  obtain ⟨p, cap, e, h1, h2, h3, h4⟩ := hu
  refine ⟨p, cap, e, h1, h2, h3, fun hne => ?_⟩
  obtain ⟨b, o, e1, e2⟩ := h4 hne
  refine ⟨b, o, e1, fun i x hx => ?_⟩
  have hc := e2 i x hx
  have hb : b ≠ g := by
    rintro rfl
    rw [cell_of_row w b _ _ _ _ k] at hc
    generalize o + i = j at hc
    match j with
    | 0 | 1 | 2 | 3 | 4 | 5 | 6 => simp [bc] at hc
    | j + 7 => simp at hc
  rw [World.cell?_of_block (w := w) (ho.block b hb (cell_lt hc))]
  exact hc

theorem KO.pa {w w' : World} {g : Nat} {n h d s : Int} {p1 p2 : Option Addr} {n1 c1 n2 c2 : Nat} {u : Value} {ls : List (List UInt8)} (k : KO w g n h (.slice p1 n1 c1) d s (.slice p2 n2 c2)) (ho : Only g w w') (hu : PA w u ls) (hl : ls.length ≠ 1) : PA w' u ls := by
  obtain ⟨p, cap, vs, e, h1, h2, h3, h4, h5, h6⟩ := hu
  refine ⟨p, cap, vs, e, h1, h2, h3, h4, fun hne => ?_, fun i x l hx hli => k.hb ho (h6 i x l hx hli)⟩
  obtain ⟨b, o, e1, e2⟩ := h5 hne
  refine ⟨b, o, e1, fun i x hx => ?_⟩
  have hc := e2 i x hx
  have hlen : 2 ≤ vs.length := by
    have : 0 < ls.length := List.length_pos_iff.2 hne
    omega
  have hb : b ≠ g := by
    rintro rfl
    obtain ⟨x0, hx0⟩ : ∃ x0, vs[0]? = some x0 := ⟨_, List.getElem?_eq_getElem (by omega)⟩
    obtain ⟨x1, hx1⟩ : ∃ x1, vs[1]? = some x1 := ⟨_, List.getElem?_eq_getElem (by omega)⟩
    obtain ⟨l0, hl0⟩ : ∃ l0, ls[0]? = some l0 := ⟨_, List.getElem?_eq_getElem (by omega)⟩
    obtain ⟨l1, hl1⟩ : ∃ l1, ls[1]? = some l1 := ⟨_, List.getElem?_eq_getElem (by omega)⟩
    obtain ⟨q0, d0, rfl⟩ := (h6 0 x0 l0 hx0 hl0).shape
    obtain ⟨q1, d1, rfl⟩ := (h6 1 x1 l1 hx1 hl1).shape
    have f0 := e2 0 _ hx0
    have f1 := e2 1 _ hx1
    rw [cell_of_row w b _ _ _ _ k] at f0 f1
    match o with
    | 0 | 1 | 2 | 3 | 4 | 5 | 6 => simp at f0 f1
    | o + 7 => simp at f0
  rw [World.cell?_of_block (w := w) (ho.block b hb (cell_lt hc))]
  exact hc

theorem RQ.only {w w' : World} {base g gp N k : Nat} {n h d s : Int} {p1 p2 : Option Addr} {n1 c1 n2 c2 : Nat} {sig : Nat → List UInt8} (r : RQ w base gp N k sig) (ko : KO w g n h (.slice p1 n1 c1) d s (.slice p2 n2 c2)) (ho : Only g w w') (hg : g < base) : RQ w' base gp N k sig := by
  obtain ⟨vs, h1, h2⟩ := r
  refine ⟨vs, owns_only h1 ho hg, fun j u hj hu => ?_⟩
  obtain ⟨q1, q2⟩ := h2 j u hj hu
  exact hb_only ko ho q1 q2

theorem KS.put {w : World} {g n h gp base N : Nat} {seed : List UInt8} {vs : List Value} (k : KS w g n h seed (gp + 1)) (ho : w.ownsRow base 22 1 (.slice (some ⟨gp, 0, none⟩) N N) N vs) (hne : g ≠ gp) (j : Nat) (x : Value) : KS (w.setCell ⟨gp, j, none⟩ x) g n h seed (gp + 1) := by
  obtain ⟨_, q2⟩ := ho.stored j x
  have hon : Only gp w (w.setCell ⟨gp, j, none⟩ x) := (Only.refl gp w).setCell j x
  have hkw : ∀ {d lv}, KW w g n h seed d lv → KW (w.setCell ⟨gp, j, none⟩ x) g n h seed d lv := by
    rintro d lv ⟨p, c, ko, hs, ts⟩
    obtain ⟨a, b⟩ := hb_grown ho q2 hs ts
    refine ⟨p, c, ?_, a, b⟩
    unfold KO
    rw [hon.block g hne ko.lt]
    exact ko
  rcases k with k | ⟨lv, k, vs', t1, t2⟩
  · exact .inl (hkw k)
  · refine .inr ⟨lv, hkw k, vs', owns_only t1 hon (by omega), fun i u hu => ?_⟩
    obtain ⟨us, r1, r2⟩ := t2 i u hu
    exact ⟨us, owns_only r1 hon (by omega), fun i' u' hu' => hb_grown ho q2 (r2 i' u' hu').1 (r2 i' u' hu').2⟩

theorem Only.put {g gp : Nat} {w w' : World} (h : Only g w w') (hg : g ≤ gp) (hs : w.heap.size ≤ gp) (j : Nat) (x : Value) : Only g w (w'.setCell ⟨gp, j, none⟩ x) :=
  ⟨h.1.setCell (p := ⟨gp, j, none⟩) hg x, fun k hk hl => by rw [heap_setCell_other w' ⟨gp, j, none⟩ k x (by simp; omega)]; exact h.2 k hk hl⟩

/-- Bytes of a block of bytes stay where another block is written. -/
theorem hb_box {w w' : World} {gs : Nat} {cs : Array Value} {t : TypeId} {fr : Nat × Nat} {u : Value} {l : List UInt8} (hg : w.heap[gs]? = some (.cells cs t fr)) (ht : t ≠ 5) (ho : Only gs w w') (hu : HB w u l) (tb : TB w u) : HB w' u l ∧ TB w' u := by
  have hne : ∀ b o n c, u = .slice (some ⟨b, o, none⟩) n c → b ≠ gs := by
    intro b o n' c e hbg
    obtain ⟨cur, fr', hb⟩ := tb b o n' c e
    subst hbg
    rw [hb] at hg
    simp only [Option.some.injEq, Obj.cells.injEq] at hg
    exact ht hg.2.1.symm
  constructor
  · obtain ⟨p, cap, e, h1, h2, h3, h4⟩ := hu
    refine ⟨p, cap, e, h1, h2, h3, fun hn => ?_⟩
    obtain ⟨b, o, e1, e2⟩ := h4 hn
    refine ⟨b, o, e1, fun i x hx => ?_⟩
    rw [World.cell?_of_block (w := w) (ho.block b (hne b o _ _ (by rw [e, e1])) (cell_lt (e2 i x hx)))]
    exact e2 i x hx
  · intro b o n' c e
    obtain ⟨cur, fr', hb⟩ := tb b o n' c e
    exact ⟨cur, fr', by rw [ho.block b (hne b o n' c e) (Array.getElem?_eq_some_iff.1 hb).1]; exact hb⟩

theorem sig_hb {w w' : World} {gs : Nat} {a : Int} {p1 p2 : Option Addr} {n1 c1 n2 c2 : Nat} {t : TypeId} {u : Value} {l : List UInt8} (hg : w.heap[gs]? = some (.cells #[.int .i64 a, .slice p1 n1 c1, .slice p2 n2 c2] t (0, 0))) (ho : Only gs w w') (hu : HB w u l) : HB w' u l := by
  obtain ⟨p, cap, e, h1, h2, h3, h4⟩ := hu
  refine ⟨p, cap, e, h1, h2, h3, fun hne => ?_⟩
  obtain ⟨b, o, e1, e2⟩ := h4 hne
  refine ⟨b, o, e1, fun i x hx => ?_⟩
  have hc := e2 i x hx
  have hb : b ≠ gs := by
    rintro rfl
    rw [cell_of_row w b _ _ _ _ hg] at hc
    generalize o + i = j at hc
    match j with
    | 0 | 1 | 2 => simp [bc] at hc
    | j + 3 => simp at hc
  rw [World.cell?_of_block (w := w) (ho.block b hb (cell_lt hc))]
  exact hc

theorem sig_pa {w w' : World} {gs : Nat} {a : Int} {p1 p2 : Option Addr} {n1 c1 n2 c2 : Nat} {t : TypeId} {u : Value} {ls : List (List UInt8)} (hg : w.heap[gs]? = some (.cells #[.int .i64 a, .slice p1 n1 c1, .slice p2 n2 c2] t (0, 0))) (ho : Only gs w w') (hu : PA w u ls) (hl : 3 ≤ ls.length) : PA w' u ls := by
  obtain ⟨p, cap, vs, e, h1, h2, h3, h4, h5, h6⟩ := hu
  refine ⟨p, cap, vs, e, h1, h2, h3, h4, fun hne => ?_, fun i x l hx hli => sig_hb hg ho (h6 i x l hx hli)⟩
  obtain ⟨b, o, e1, e2⟩ := h5 hne
  refine ⟨b, o, e1, fun i x hx => ?_⟩
  have hc := e2 i x hx
  have hb : b ≠ gs := by
    rintro rfl
    obtain ⟨x0, hx0⟩ : ∃ x0, vs[0]? = some x0 := ⟨_, List.getElem?_eq_getElem (by omega)⟩
    obtain ⟨x2, hx2⟩ : ∃ x2, vs[2]? = some x2 := ⟨_, List.getElem?_eq_getElem (by omega)⟩
    obtain ⟨l0, hl0⟩ : ∃ l0, ls[0]? = some l0 := ⟨_, List.getElem?_eq_getElem (by omega)⟩
    obtain ⟨q0, d0, rfl⟩ := (h6 0 x0 l0 hx0 hl0).shape
    have f0 := e2 0 _ hx0
    have f2 := e2 2 _ hx2
    rw [cell_of_row w b _ _ _ _ hg] at f0 f2
    match o with
    | 0 | 1 | 2 => simp at f0 f2
    | o + 3 => simp at f0
  rw [World.cell?_of_block (w := w) (ho.block b hb (cell_lt hc))]
  exact hc

theorem KS.box {w w' : World} {g n h gs B : Nat} {seed : List UInt8} {cs : Array Value} {t : TypeId} {fr : Nat × Nat} (k : KS w g n h seed B) (hg : w.heap[gs]? = some (.cells cs t fr)) (ht : t ≠ 5) (ho : Only gs w w') (hne : g ≠ gs) (hB : gs < B) : KS w' g n h seed B := by
  have hkw : ∀ {d lv}, KW w g n h seed d lv → KW w' g n h seed d lv := by
    rintro d lv ⟨p, c, ko, hs, ts⟩
    obtain ⟨a, b⟩ := hb_box hg ht ho hs ts
    refine ⟨p, c, ?_, a, b⟩
    unfold KO
    rw [ho.block g hne ko.lt]
    exact ko
  rcases k with k | ⟨lv, k, vs', t1, t2⟩
  · exact .inl (hkw k)
  · refine .inr ⟨lv, hkw k, vs', owns_only t1 ho hB, fun i u hu => ?_⟩
    obtain ⟨us, r1, r2⟩ := t2 i u hu
    exact ⟨us, owns_only r1 ho hB, fun i' u' hu' => hb_box hg ht ho (r2 i' u' hu').1 (r2 i' u' hu').2⟩

theorem RS.box {w w' : World} {gs base N : Nat} {v : Value} {sig : Nat → List UInt8} {cs : Array Value} {t : TypeId} {fr : Nat × Nat} (r : RS w base v N sig) (hg : w.heap[gs]? = some (.cells cs t fr)) (ht : t ≠ 5) (ho : Only gs w w') (hB : gs < base) : RS w' base v N sig := by
  obtain ⟨us, r1, r2⟩ := r
  exact ⟨us, owns_only r1 ho hB, fun i' u' hu' => hb_box hg ht ho (r2 i' u' hu').1 (r2 i' u' hu').2⟩

theorem xor_calc : ∀ n : Fin 256, ∀ k : Fin 8, bits BinOp.xor IntKind.i64 ((n.val : Int) / 2 ^ k.val) 1 = ((besideP (n.val / 2 ^ k.val) : Nat) : Int) := by decide +kernel

end Go.Proofs.YtdjaemobfbbkoaaDoor
