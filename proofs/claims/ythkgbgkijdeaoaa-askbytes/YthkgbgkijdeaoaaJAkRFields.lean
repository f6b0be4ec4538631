/- What this text proves: the walk of annalsref25.fields over this program, by kinds. (By program: mkakrf.py.) -/
import Derived.Test.YthkgbgkijdeaoaaJX1
import Derived.Test.YthkgbgkijdeaoaaJCRRead
import Derived.Test.YthkgbgkijdeaoaaJP1
namespace Go.Proofs.Ythkgbgkijdeaoaa
open Go.RowKit

def rdG (l : List UInt8) (e : Int) : Int × Bool × List UInt8 := if e = 0 then flagF l else (e, false, l)

theorem flagF_fell (l : List UInt8) (h : (flagF l).1 ≠ 0) : (flagF l).2.2 = [] := by
  cases l with
  | nil => rfl
  | cons x r =>
    unfold flagF at h ⊢
    simp only at h ⊢
    split
    · rfl
    · rename_i hx
      rw [if_neg hx] at h
      exact absurd rfl h

theorem xflag_all (g : Nat) (l : List UInt8) (e : Int) (w : World) (h : XR w g l e) (he : e ≠ 0 → l = []) (hsz : l.length ≤ 140737488355328) : Calls Try.prog 51 #[.pointer (some ⟨g, 0, none⟩)] w fun x w' => x = .returned (.bool (rdG l e).2.1) ∧ XR w' g (rdG l e).2.2 (rdG l e).1 ∧ Only g w w' := by
  unfold rdG
  by_cases h0 : e = 0
  · subst h0
    rw [if_pos rfl]
    exact xflag_any g l w h hsz
  · rw [if_neg h0]
    obtain rfl := he h0
    refine (xflag_stays g e w h h0).mono ?_
    rintro x w' ⟨rfl, rfl⟩
    exact ⟨rfl, h, Only.refl g w'⟩
theorem rdG_fell (l : List UInt8) (e : Int) (he : e ≠ 0 → l = []) : (rdG l e).1 ≠ 0 → (rdG l e).2.2 = [] := by
  unfold rdG
  by_cases h0 : e = 0
  · rw [if_pos h0]; exact flagF_fell l
  · rw [if_neg h0]; exact fun _ => he h0
theorem rdG_le (l : List UInt8) (e : Int) : (rdG l e).2.2.length ≤ l.length := by
  unfold rdG
  by_cases h0 : e = 0
  · rw [if_pos h0]; exact flagF_le l
  · rw [if_neg h0]; exact Nat.le_refl _

theorem Only.putN {g gp : Nat} {w w' : World} (h : Only g w w') (hg : g ≤ gp) (hs : w.heap.size ≤ gp) (j : Nat) (x : Value) : Only g w (w'.setCell ⟨gp, j, none⟩ x) :=
  ⟨h.1.setCell (p := ⟨gp, j, none⟩) hg x, fun k hk hk2 => by rw [Below.heap_setCell w' ⟨gp, j, none⟩ x k (by show k ≠ gp; omega)]; exact h.2 k hk hk2⟩

theorem XR.putA {w : World} {g gA i : Nat} {cs : Array Value} {l : List UInt8} {e : Int} (h : XR w g l e) (hA : AB w gA cs) (v : Value) : XR (w.setCell ⟨gA, i, none⟩ v) g l e :=
  h.tk (TK.of_only ((Only.refl gA w).setCell i v) hA) (by decide) (by decide)

/-- A state of the walk: the reader, the result's box, the request's box. -/
def XS (w0 : World) (g : Nat) (cs : Array Value) (l : List UInt8) (e : Int) (w : World) : Prop := XR w g l e ∧ AB w w0.heap.size zeroA ∧ AB w (w0.heap.size + 1) cs ∧ Only g w0 w

theorem XS.call {w0 : World} {g : Nat} {cs : Array Value} {l l' : List UInt8} {e e' : Int} {w w' : World} (h : XS w0 g cs l e w) (hr : XR w' g l' e') (ho : Only g w w') : XS w0 g cs l' e' w' := by
  obtain ⟨cs0, f, hg⟩ := h.1.typed
  have t := TK.of_only ho hg
  exact ⟨hr, t _ _ _ _ h.2.1 (by decide), t _ _ _ _ h.2.2.1 (by decide), h.2.2.2.trans ho⟩
theorem XS.put {w0 : World} {g : Nat} {cs : Array Value} {l : List UInt8} {e : Int} {w : World} (h : XS w0 g cs l e w) (hg : g < w0.heap.size) (i : Nat) (v : Value) : XS w0 g (cs.setIfInBounds i v) l e (w.setCell ⟨w0.heap.size + 1, i, none⟩ v) :=
  ⟨h.1.putA h.2.2.1 v, h.2.1.other _ _ (by show w0.heap.size ≠ w0.heap.size + 1; omega), h.2.2.1.put i v, h.2.2.2.putN (by omega) (by omega) i v⟩

theorem hbn_xr {w w' : World} {g : Nat} {v : Value} {l t : List UInt8} {e : Int} (h : HBN w g v t) (hx : XR w g l e) (ho : Only g w w') : HBN w' g v t := by
  obtain ⟨cs, f, hg⟩ := hx.typed
  exact h.tk (TK.of_only ho hg) (by decide)

theorem filled {w0 w : World} {g r : Nat} {l t : List UInt8} {e : Int} {v : Value} {cs : Array Value} (n0 n1 n2 n3 n4 n5 n6 n7 n8 n9 : Value) (hx : XR w g l e) (hA : AB w r cs) (ho : Only g w0 w) (hn : HBN w g v t) (hg : g ≤ r) (hs : w0.heap.size ≤ r) :
    XR ((((((((((w.setCell ⟨r, 0, none⟩ n0).setCell ⟨r, 1, none⟩ n1).setCell ⟨r, 2, none⟩ n2).setCell ⟨r, 3, none⟩ n3).setCell ⟨r, 4, none⟩ n4).setCell ⟨r, 5, none⟩ n5).setCell ⟨r, 6, none⟩ n6).setCell ⟨r, 7, none⟩ n7).setCell ⟨r, 8, none⟩ n8).setCell ⟨r, 9, none⟩ n9) g l e ∧ Only g w0 ((((((((((w.setCell ⟨r, 0, none⟩ n0).setCell ⟨r, 1, none⟩ n1).setCell ⟨r, 2, none⟩ n2).setCell ⟨r, 3, none⟩ n3).setCell ⟨r, 4, none⟩ n4).setCell ⟨r, 5, none⟩ n5).setCell ⟨r, 6, none⟩ n6).setCell ⟨r, 7, none⟩ n7).setCell ⟨r, 8, none⟩ n8).setCell ⟨r, 9, none⟩ n9) ∧ HBN ((((((((((w.setCell ⟨r, 0, none⟩ n0).setCell ⟨r, 1, none⟩ n1).setCell ⟨r, 2, none⟩ n2).setCell ⟨r, 3, none⟩ n3).setCell ⟨r, 4, none⟩ n4).setCell ⟨r, 5, none⟩ n5).setCell ⟨r, 6, none⟩ n6).setCell ⟨r, 7, none⟩ n7).setCell ⟨r, 8, none⟩ n8).setCell ⟨r, 9, none⟩ n9) g v t := by
  have t1 : TK 25 w ((((((((((w.setCell ⟨r, 0, none⟩ n0).setCell ⟨r, 1, none⟩ n1).setCell ⟨r, 2, none⟩ n2).setCell ⟨r, 3, none⟩ n3).setCell ⟨r, 4, none⟩ n4).setCell ⟨r, 5, none⟩ n5).setCell ⟨r, 6, none⟩ n6).setCell ⟨r, 7, none⟩ n7).setCell ⟨r, 8, none⟩ n8).setCell ⟨r, 9, none⟩ n9) := TK.of_only (((((((((((Only.refl r w).setCell 0 n0).setCell 1 n1).setCell 2 n2).setCell 3 n3).setCell 4 n4).setCell 5 n5).setCell 6 n6).setCell 7 n7).setCell 8 n8).setCell 9 n9) hA
  exact ⟨hx.tk t1 (by decide) (by decide), ((((((((((ho.putN hg hs 0 n0).putN hg hs 1 n1).putN hg hs 2 n2).putN hg hs 3 n3).putN hg hs 4 n4).putN hg hs 5 n5).putN hg hs 6 n6).putN hg hs 7 n7).putN hg hs 8 n8).putN hg hs 9 n9), hn.tk t1 (by decide)⟩

theorem rdU_and (l : List UInt8) (e m : Int) : (rdU l e m).1 = andE e (uintF l m).1 := by unfold rdU andE; split <;> rfl
theorem rdB_and (l : List UInt8) (e m : Int) : (rdB l e m).1 = andE e (bytesF l m).1 := by unfold rdB andE; split <;> rfl

def rch2 (l : List UInt8) : Int × List UInt8 × AP := ((rdU l 0 1125899906842624).1, (rdU l 0 1125899906842624).2.2, { AP0 with ti := (rdU l 0 1125899906842624).2.1 })
set_option maxRecDepth 100000 in
set_option maxHeartbeats 4000000 in
theorem xf2 (g : Nat) (l : List UInt8) (w : World) (h : XR w g l 0) (hsz : l.length ≤ 140737488355328) :
    Calls Try.prog 34 #[.pointer (some ⟨g, 0, none⟩), .int .i64 2] w fun x w' => ∃ idv, x = .returned (.agg #[.int .i64 2, idv, .int .i64 ((rch2 l).2.2.fr : Int), .int .i64 ((rch2 l).2.2.to : Int), .int .i64 ((rch2 l).2.2.ti : Int), .bool (rch2 l).2.2.so, .int .i64 ((rch2 l).2.2.ep : Int), .int .i64 ((rch2 l).2.2.ix : Int), .int .i64 ((rch2 l).2.2.li : Int), .slice none 0 0]) ∧ HBN w' g idv (rch2 l).2.2.id ∧ XR w' g (rch2 l).2.1 (rch2 l).1 ∧ Only g w w' := by
  have hg : g < w.heap.size := by obtain ⟨p, c, h1, _⟩ := h; exact h1.lt
  have bA := (Below.refl w.heap.size w).alloc (Nat.le_refl _) (.cells #[.int .i64 0, .slice none 0 0, .int .i64 0, .int .i64 0, .int .i64 0, .bool false, .int .i64 0, .int .i64 0, .int .i64 0, .slice none 0 0] 25)
  have aA : AB (w.alloc (.cells #[.int .i64 0, .slice none 0 0, .int .i64 0, .int .i64 0, .int .i64 0, .bool false, .int .i64 0, .int .i64 0, .int .i64 0, .slice none 0 0] 25)) w.heap.size zeroA := heap_alloc_new w _
  have sA : (w.alloc (.cells #[.int .i64 0, .slice none 0 0, .int .i64 0, .int .i64 0, .int .i64 0, .bool false, .int .i64 0, .int .i64 0, .int .i64 0, .slice none 0 0] 25)).heap.size = w.heap.size + 1 := World.size_alloc _ _
  have bB := bA.alloc bA.size (.cells #[.int .i64 2, .slice none 0 0, .int .i64 0, .int .i64 0, .int .i64 0, .bool false, .int .i64 0, .int .i64 0, .int .i64 0, .slice none 0 0] 25)
  have bB1 := (Below.refl _ (w.alloc (.cells #[.int .i64 0, .slice none 0 0, .int .i64 0, .int .i64 0, .int .i64 0, .bool false, .int .i64 0, .int .i64 0, .int .i64 0, .slice none 0 0] 25))).alloc (Nat.le_refl _) (.cells #[.int .i64 2, .slice none 0 0, .int .i64 0, .int .i64 0, .int .i64 0, .bool false, .int .i64 0, .int .i64 0, .int .i64 0, .slice none 0 0] 25)
  have aB : AB ((w.alloc (.cells #[.int .i64 0, .slice none 0 0, .int .i64 0, .int .i64 0, .int .i64 0, .bool false, .int .i64 0, .int .i64 0, .int .i64 0, .slice none 0 0] 25)).alloc (.cells #[.int .i64 2, .slice none 0 0, .int .i64 0, .int .i64 0, .int .i64 0, .bool false, .int .i64 0, .int .i64 0, .int .i64 0, .slice none 0 0] 25)) (w.heap.size + 1) #[.int .i64 2, .slice none 0 0, .int .i64 0, .int .i64 0, .int .i64 0, .bool false, .int .i64 0, .int .i64 0, .int .i64 0, .slice none 0 0] := by rw [← sA]; exact heap_alloc_new _ _
  have q0 : XS w g #[.int .i64 2, .slice none 0 0, .int .i64 0, .int .i64 0, .int .i64 0, .bool false, .int .i64 0, .int .i64 0, .int .i64 0, .slice none 0 0] l 0 ((w.alloc (.cells #[.int .i64 0, .slice none 0 0, .int .i64 0, .int .i64 0, .int .i64 0, .bool false, .int .i64 0, .int .i64 0, .int .i64 0, .slice none 0 0] 25)).alloc (.cells #[.int .i64 2, .slice none 0 0, .int .i64 0, .int .i64 0, .int .i64 0, .bool false, .int .i64 0, .int .i64 0, .int .i64 0, .slice none 0 0] 25)) := ⟨h.later bB, aA.later bB1, aB, Only.of_below bB (by omega)⟩
  clear bA aA sA bB bB1 aB h
  obtain ⟨w0, hw0⟩ : ∃ x, x = (w.alloc (.cells #[.int .i64 0, .slice none 0 0, .int .i64 0, .int .i64 0, .int .i64 0, .bool false, .int .i64 0, .int .i64 0, .int .i64 0, .slice none 0 0] 25)).alloc (.cells #[.int .i64 2, .slice none 0 0, .int .i64 0, .int .i64 0, .int .i64 0, .bool false, .int .i64 0, .int .i64 0, .int .i64 0, .slice none 0 0] 25) := ⟨_, rfl⟩
  rw [← hw0] at q0
  have HW : Hid (w0 = (w.alloc (.cells #[.int .i64 0, .slice none 0 0, .int .i64 0, .int .i64 0, .int .i64 0, .bool false, .int .i64 0, .int .i64 0, .int .i64 0, .slice none 0 0] 25)).alloc (.cells #[.int .i64 2, .slice none 0 0, .int .i64 0, .int .i64 0, .int .i64 0, .bool false, .int .i64 0, .int .i64 0, .int .i64 0, .slice none 0 0] 25)) := hw0
  have H1 := xuint_all g l 0 1125899906842624 w0 q0.1 (fun h => absurd rfl h) hsz
  obtain ⟨s1, hs1⟩ : ∃ s, Hid (s = rdU l 0 1125899906842624) := ⟨_, rfl⟩
  have he1 : s1.1 ≠ 0 → s1.2.2 = [] := by rw [hs1.out]; exact rdU_fellX l 0 1125899906842624 (fun h => absurd rfl h)
  have hl1 : s1.2.2.length ≤ l.length := by rw [hs1.out]; exact rdU_le l 0 1125899906842624
  rw [← hs1.out] at H1
  rw [hw0] at H1
  clear hw0
  go_enter Try.func34, Try.ntmps34
  go_wp2_with fail
  refine H1.mono ?_
  clear H1
  rintro x w1 ⟨rfl, hr1, ho1⟩
  rw [← HW.out] at ho1
  have q1b := q0.call hr1 ho1
  have c1 : w1.cell? ⟨w.heap.size + 1, 4, none⟩ = some (.int .i64 0) := q1b.2.2.1.cell rfl
  have f1 := q1b.2.2.1.free 4
  have q1 := q1b.put hg 4 (.int .i64 (s1.2.1 : Int))
  have aF : AB (w1.setCell ⟨w.heap.size + 1, 4, none⟩ (.int .i64 (s1.2.1 : Int))) (w.heap.size + 1) #[.int .i64 2, .slice none 0 0, .int .i64 0, .int .i64 0, .int .i64 (s1.2.1 : Int), .bool false, .int .i64 0, .int .i64 0, .int .i64 0, .slice none 0 0] := q1.2.2.1
  have zF : AB (w1.setCell ⟨w.heap.size + 1, 4, none⟩ (.int .i64 (s1.2.1 : Int))) w.heap.size zeroA := q1.2.1
  obtain ⟨y0, y1, y2, y3, y4, y5, y6, y7, y8, y9⟩ := ask_cells aF
  obtain ⟨x0, x1, x2, x3, x4, x5, x6, x7, x8, x9⟩ := ask_cells zF
  have fz := fun i => zF.free i
  clear aF HW
  have er : rch2 l = (s1.1, s1.2.2, { AP0 with ti := s1.2.1 }) := by
    unfold rch2
    rw [hs1.out]
  have er2 : Hid _ := er
  clear er
  go_wp2
  refine bodyPost_ret (v := .agg #[.int .i64 2, .slice none 0 0, .int .i64 0, .int .i64 0, .int .i64 (s1.2.1 : Int), .bool false, .int .i64 0, .int .i64 0, .int .i64 0, .slice none 0 0]) ?_ rfl ?_
  · simp only [results, Try.results34]
    go_simp
  · have fin := filled (w0 := w) (.int .i64 2) (.slice none 0 0) (.int .i64 0) (.int .i64 0) (.int .i64 (s1.2.1 : Int)) (.bool false) (.int .i64 0) (.int .i64 0) (.int .i64 0) (.slice none 0 0) q1.1 zF q1.2.2.2 (HBN.nil _ g) (by omega) (Nat.le_refl _)
    rw [er2.out]
    exact ⟨_, rfl, fin.2.2, fin.1, fin.2.1⟩

def rch3 (l : List UInt8) : Int × List UInt8 × AP := ((rdU (rdB l 0 24).2.2 (rdB l 0 24).1 2147483648).1, (rdU (rdB l 0 24).2.2 (rdB l 0 24).1 2147483648).2.2, { AP0 with id := (rdB l 0 24).2.1, to := (rdU (rdB l 0 24).2.2 (rdB l 0 24).1 2147483648).2.1 })
set_option maxRecDepth 100000 in
set_option maxHeartbeats 4000000 in
theorem xf3 (g : Nat) (l : List UInt8) (w : World) (h : XR w g l 0) (hsz : l.length ≤ 140737488355328) :
    Calls Try.prog 34 #[.pointer (some ⟨g, 0, none⟩), .int .i64 3] w fun x w' => ∃ idv, x = .returned (.agg #[.int .i64 3, idv, .int .i64 ((rch3 l).2.2.fr : Int), .int .i64 ((rch3 l).2.2.to : Int), .int .i64 ((rch3 l).2.2.ti : Int), .bool (rch3 l).2.2.so, .int .i64 ((rch3 l).2.2.ep : Int), .int .i64 ((rch3 l).2.2.ix : Int), .int .i64 ((rch3 l).2.2.li : Int), .slice none 0 0]) ∧ HBN w' g idv (rch3 l).2.2.id ∧ XR w' g (rch3 l).2.1 (rch3 l).1 ∧ Only g w w' := by
  have hg : g < w.heap.size := by obtain ⟨p, c, h1, _⟩ := h; exact h1.lt
  have bA := (Below.refl w.heap.size w).alloc (Nat.le_refl _) (.cells #[.int .i64 0, .slice none 0 0, .int .i64 0, .int .i64 0, .int .i64 0, .bool false, .int .i64 0, .int .i64 0, .int .i64 0, .slice none 0 0] 25)
  have aA : AB (w.alloc (.cells #[.int .i64 0, .slice none 0 0, .int .i64 0, .int .i64 0, .int .i64 0, .bool false, .int .i64 0, .int .i64 0, .int .i64 0, .slice none 0 0] 25)) w.heap.size zeroA := heap_alloc_new w _
  have sA : (w.alloc (.cells #[.int .i64 0, .slice none 0 0, .int .i64 0, .int .i64 0, .int .i64 0, .bool false, .int .i64 0, .int .i64 0, .int .i64 0, .slice none 0 0] 25)).heap.size = w.heap.size + 1 := World.size_alloc _ _
  have bB := bA.alloc bA.size (.cells #[.int .i64 3, .slice none 0 0, .int .i64 0, .int .i64 0, .int .i64 0, .bool false, .int .i64 0, .int .i64 0, .int .i64 0, .slice none 0 0] 25)
  have bB1 := (Below.refl _ (w.alloc (.cells #[.int .i64 0, .slice none 0 0, .int .i64 0, .int .i64 0, .int .i64 0, .bool false, .int .i64 0, .int .i64 0, .int .i64 0, .slice none 0 0] 25))).alloc (Nat.le_refl _) (.cells #[.int .i64 3, .slice none 0 0, .int .i64 0, .int .i64 0, .int .i64 0, .bool false, .int .i64 0, .int .i64 0, .int .i64 0, .slice none 0 0] 25)
  have aB : AB ((w.alloc (.cells #[.int .i64 0, .slice none 0 0, .int .i64 0, .int .i64 0, .int .i64 0, .bool false, .int .i64 0, .int .i64 0, .int .i64 0, .slice none 0 0] 25)).alloc (.cells #[.int .i64 3, .slice none 0 0, .int .i64 0, .int .i64 0, .int .i64 0, .bool false, .int .i64 0, .int .i64 0, .int .i64 0, .slice none 0 0] 25)) (w.heap.size + 1) #[.int .i64 3, .slice none 0 0, .int .i64 0, .int .i64 0, .int .i64 0, .bool false, .int .i64 0, .int .i64 0, .int .i64 0, .slice none 0 0] := by rw [← sA]; exact heap_alloc_new _ _
  have q0 : XS w g #[.int .i64 3, .slice none 0 0, .int .i64 0, .int .i64 0, .int .i64 0, .bool false, .int .i64 0, .int .i64 0, .int .i64 0, .slice none 0 0] l 0 ((w.alloc (.cells #[.int .i64 0, .slice none 0 0, .int .i64 0, .int .i64 0, .int .i64 0, .bool false, .int .i64 0, .int .i64 0, .int .i64 0, .slice none 0 0] 25)).alloc (.cells #[.int .i64 3, .slice none 0 0, .int .i64 0, .int .i64 0, .int .i64 0, .bool false, .int .i64 0, .int .i64 0, .int .i64 0, .slice none 0 0] 25)) := ⟨h.later bB, aA.later bB1, aB, Only.of_below bB (by omega)⟩
  clear bA aA sA bB bB1 aB h
  obtain ⟨w0, hw0⟩ : ∃ x, x = (w.alloc (.cells #[.int .i64 0, .slice none 0 0, .int .i64 0, .int .i64 0, .int .i64 0, .bool false, .int .i64 0, .int .i64 0, .int .i64 0, .slice none 0 0] 25)).alloc (.cells #[.int .i64 3, .slice none 0 0, .int .i64 0, .int .i64 0, .int .i64 0, .bool false, .int .i64 0, .int .i64 0, .int .i64 0, .slice none 0 0] 25) := ⟨_, rfl⟩
  rw [← hw0] at q0
  have HW : Hid (w0 = (w.alloc (.cells #[.int .i64 0, .slice none 0 0, .int .i64 0, .int .i64 0, .int .i64 0, .bool false, .int .i64 0, .int .i64 0, .int .i64 0, .slice none 0 0] 25)).alloc (.cells #[.int .i64 3, .slice none 0 0, .int .i64 0, .int .i64 0, .int .i64 0, .bool false, .int .i64 0, .int .i64 0, .int .i64 0, .slice none 0 0] 25)) := hw0
  have H1 := xbytes_all g l 0 24 w0 q0.1 (fun h => absurd rfl h) hsz
  obtain ⟨s1, hs1⟩ : ∃ s, Hid (s = rdB l 0 24) := ⟨_, rfl⟩
  have he1 : s1.1 ≠ 0 → s1.2.2 = [] := by rw [hs1.out]; exact rdB_fell l 0 24 (fun h => absurd rfl h)
  have hl1 : s1.2.2.length ≤ l.length := by rw [hs1.out]; exact rdB_le l 0 24
  rw [← hs1.out] at H1
  rw [hw0] at H1
  clear hw0
  go_enter Try.func34, Try.ntmps34
  go_wp2_with fail
  refine H1.mono ?_
  clear H1
  rintro x w1 ⟨v1, rfl, pt, ct, rfl, hn1, hr1, ho1⟩
  rw [← HW.out] at ho1
  have q1b := q0.call hr1 ho1
  have c1 : w1.cell? ⟨w.heap.size + 1, 1, none⟩ = some (.slice none 0 0) := q1b.2.2.1.cell rfl
  have f1 := q1b.2.2.1.free 1
  have q1 := q1b.put hg 1 (.slice pt s1.2.1.length ct)
  have m1 := hn1.tk (TK.of_only ((Only.refl (w.heap.size + 1) w1).setCell 1 (.slice pt s1.2.1.length ct)) q1b.2.2.1) (by decide)
  have H2 := xuint_all g s1.2.2 s1.1 2147483648 (w1.setCell ⟨w.heap.size + 1, 1, none⟩ (.slice pt s1.2.1.length ct)) q1.1 he1 (Nat.le_trans hl1 hsz)
  obtain ⟨s2, hs2⟩ : ∃ s, Hid (s = rdU s1.2.2 s1.1 2147483648) := ⟨_, rfl⟩
  have he2 : s2.1 ≠ 0 → s2.2.2 = [] := by rw [hs2.out]; exact rdU_fellX s1.2.2 s1.1 2147483648 he1
  have hl2 : s2.2.2.length ≤ l.length := by rw [hs2.out]; exact Nat.le_trans (rdU_le s1.2.2 s1.1 2147483648) hl1
  rw [← hs2.out] at H2
  go_wp2_with fail
  refine H2.mono ?_
  clear H2
  rintro x w2 ⟨rfl, hr2, ho2⟩
  have q2b := q1.call hr2 ho2
  have c2 : w2.cell? ⟨w.heap.size + 1, 3, none⟩ = some (.int .i64 0) := q2b.2.2.1.cell rfl
  have f2 := q2b.2.2.1.free 3
  have q2 := q2b.put hg 3 (.int .i64 (s2.2.1 : Int))
  have m2b := hbn_xr m1 q1.1 ho2
  have m2 := m2b.tk (TK.of_only ((Only.refl (w.heap.size + 1) w2).setCell 3 (.int .i64 (s2.2.1 : Int))) q2b.2.2.1) (by decide)
  have aF : AB (w2.setCell ⟨w.heap.size + 1, 3, none⟩ (.int .i64 (s2.2.1 : Int))) (w.heap.size + 1) #[.int .i64 3, .slice pt s1.2.1.length ct, .int .i64 0, .int .i64 (s2.2.1 : Int), .int .i64 0, .bool false, .int .i64 0, .int .i64 0, .int .i64 0, .slice none 0 0] := q2.2.2.1
  have zF : AB (w2.setCell ⟨w.heap.size + 1, 3, none⟩ (.int .i64 (s2.2.1 : Int))) w.heap.size zeroA := q2.2.1
  obtain ⟨y0, y1, y2, y3, y4, y5, y6, y7, y8, y9⟩ := ask_cells aF
  obtain ⟨x0, x1, x2, x3, x4, x5, x6, x7, x8, x9⟩ := ask_cells zF
  have fz := fun i => zF.free i
  clear c1 f1
  clear aF HW
  have er : rch3 l = (s2.1, s2.2.2, { AP0 with id := s1.2.1, to := s2.2.1 }) := by
    unfold rch3
    rw [hs2.out, hs1.out]
  have er2 : Hid _ := er
  clear er
  go_wp2
  refine bodyPost_ret (v := .agg #[.int .i64 3, .slice pt s1.2.1.length ct, .int .i64 0, .int .i64 (s2.2.1 : Int), .int .i64 0, .bool false, .int .i64 0, .int .i64 0, .int .i64 0, .slice none 0 0]) ?_ rfl ?_
  · simp only [results, Try.results34]
    go_simp
  · have fin := filled (w0 := w) (.int .i64 3) (.slice pt s1.2.1.length ct) (.int .i64 0) (.int .i64 (s2.2.1 : Int)) (.int .i64 0) (.bool false) (.int .i64 0) (.int .i64 0) (.int .i64 0) (.slice none 0 0) q2.1 zF q2.2.2.2 m2 (by omega) (Nat.le_refl _)
    rw [er2.out]
    exact ⟨_, rfl, fin.2.2, fin.1, fin.2.1⟩

def rch4 (l : List UInt8) : Int × List UInt8 × AP := ((rdU (rdU (rdB l 0 24).2.2 (rdB l 0 24).1 1125899906842624).2.2 (rdU (rdB l 0 24).2.2 (rdB l 0 24).1 1125899906842624).1 2147483648).1, (rdU (rdU (rdB l 0 24).2.2 (rdB l 0 24).1 1125899906842624).2.2 (rdU (rdB l 0 24).2.2 (rdB l 0 24).1 1125899906842624).1 2147483648).2.2, { AP0 with id := (rdB l 0 24).2.1, ti := (rdU (rdB l 0 24).2.2 (rdB l 0 24).1 1125899906842624).2.1, to := (rdU (rdU (rdB l 0 24).2.2 (rdB l 0 24).1 1125899906842624).2.2 (rdU (rdB l 0 24).2.2 (rdB l 0 24).1 1125899906842624).1 2147483648).2.1 })
set_option maxRecDepth 100000 in
set_option maxHeartbeats 4000000 in
theorem xf4 (g : Nat) (l : List UInt8) (w : World) (h : XR w g l 0) (hsz : l.length ≤ 140737488355328) :
    Calls Try.prog 34 #[.pointer (some ⟨g, 0, none⟩), .int .i64 4] w fun x w' => ∃ idv, x = .returned (.agg #[.int .i64 4, idv, .int .i64 ((rch4 l).2.2.fr : Int), .int .i64 ((rch4 l).2.2.to : Int), .int .i64 ((rch4 l).2.2.ti : Int), .bool (rch4 l).2.2.so, .int .i64 ((rch4 l).2.2.ep : Int), .int .i64 ((rch4 l).2.2.ix : Int), .int .i64 ((rch4 l).2.2.li : Int), .slice none 0 0]) ∧ HBN w' g idv (rch4 l).2.2.id ∧ XR w' g (rch4 l).2.1 (rch4 l).1 ∧ Only g w w' := by
  have hg : g < w.heap.size := by obtain ⟨p, c, h1, _⟩ := h; exact h1.lt
  have bA := (Below.refl w.heap.size w).alloc (Nat.le_refl _) (.cells #[.int .i64 0, .slice none 0 0, .int .i64 0, .int .i64 0, .int .i64 0, .bool false, .int .i64 0, .int .i64 0, .int .i64 0, .slice none 0 0] 25)
  have aA : AB (w.alloc (.cells #[.int .i64 0, .slice none 0 0, .int .i64 0, .int .i64 0, .int .i64 0, .bool false, .int .i64 0, .int .i64 0, .int .i64 0, .slice none 0 0] 25)) w.heap.size zeroA := heap_alloc_new w _
  have sA : (w.alloc (.cells #[.int .i64 0, .slice none 0 0, .int .i64 0, .int .i64 0, .int .i64 0, .bool false, .int .i64 0, .int .i64 0, .int .i64 0, .slice none 0 0] 25)).heap.size = w.heap.size + 1 := World.size_alloc _ _
  have bB := bA.alloc bA.size (.cells #[.int .i64 4, .slice none 0 0, .int .i64 0, .int .i64 0, .int .i64 0, .bool false, .int .i64 0, .int .i64 0, .int .i64 0, .slice none 0 0] 25)
  have bB1 := (Below.refl _ (w.alloc (.cells #[.int .i64 0, .slice none 0 0, .int .i64 0, .int .i64 0, .int .i64 0, .bool false, .int .i64 0, .int .i64 0, .int .i64 0, .slice none 0 0] 25))).alloc (Nat.le_refl _) (.cells #[.int .i64 4, .slice none 0 0, .int .i64 0, .int .i64 0, .int .i64 0, .bool false, .int .i64 0, .int .i64 0, .int .i64 0, .slice none 0 0] 25)
  have aB : AB ((w.alloc (.cells #[.int .i64 0, .slice none 0 0, .int .i64 0, .int .i64 0, .int .i64 0, .bool false, .int .i64 0, .int .i64 0, .int .i64 0, .slice none 0 0] 25)).alloc (.cells #[.int .i64 4, .slice none 0 0, .int .i64 0, .int .i64 0, .int .i64 0, .bool false, .int .i64 0, .int .i64 0, .int .i64 0, .slice none 0 0] 25)) (w.heap.size + 1) #[.int .i64 4, .slice none 0 0, .int .i64 0, .int .i64 0, .int .i64 0, .bool false, .int .i64 0, .int .i64 0, .int .i64 0, .slice none 0 0] := by rw [← sA]; exact heap_alloc_new _ _
  have q0 : XS w g #[.int .i64 4, .slice none 0 0, .int .i64 0, .int .i64 0, .int .i64 0, .bool false, .int .i64 0, .int .i64 0, .int .i64 0, .slice none 0 0] l 0 ((w.alloc (.cells #[.int .i64 0, .slice none 0 0, .int .i64 0, .int .i64 0, .int .i64 0, .bool false, .int .i64 0, .int .i64 0, .int .i64 0, .slice none 0 0] 25)).alloc (.cells #[.int .i64 4, .slice none 0 0, .int .i64 0, .int .i64 0, .int .i64 0, .bool false, .int .i64 0, .int .i64 0, .int .i64 0, .slice none 0 0] 25)) := ⟨h.later bB, aA.later bB1, aB, Only.of_below bB (by omega)⟩
  clear bA aA sA bB bB1 aB h
  obtain ⟨w0, hw0⟩ : ∃ x, x = (w.alloc (.cells #[.int .i64 0, .slice none 0 0, .int .i64 0, .int .i64 0, .int .i64 0, .bool false, .int .i64 0, .int .i64 0, .int .i64 0, .slice none 0 0] 25)).alloc (.cells #[.int .i64 4, .slice none 0 0, .int .i64 0, .int .i64 0, .int .i64 0, .bool false, .int .i64 0, .int .i64 0, .int .i64 0, .slice none 0 0] 25) := ⟨_, rfl⟩
  rw [← hw0] at q0
  have HW : Hid (w0 = (w.alloc (.cells #[.int .i64 0, .slice none 0 0, .int .i64 0, .int .i64 0, .int .i64 0, .bool false, .int .i64 0, .int .i64 0, .int .i64 0, .slice none 0 0] 25)).alloc (.cells #[.int .i64 4, .slice none 0 0, .int .i64 0, .int .i64 0, .int .i64 0, .bool false, .int .i64 0, .int .i64 0, .int .i64 0, .slice none 0 0] 25)) := hw0
  have H1 := xbytes_all g l 0 24 w0 q0.1 (fun h => absurd rfl h) hsz
  obtain ⟨s1, hs1⟩ : ∃ s, Hid (s = rdB l 0 24) := ⟨_, rfl⟩
  have he1 : s1.1 ≠ 0 → s1.2.2 = [] := by rw [hs1.out]; exact rdB_fell l 0 24 (fun h => absurd rfl h)
  have hl1 : s1.2.2.length ≤ l.length := by rw [hs1.out]; exact rdB_le l 0 24
  rw [← hs1.out] at H1
  rw [hw0] at H1
  clear hw0
  go_enter Try.func34, Try.ntmps34
  go_wp2_with fail
  refine H1.mono ?_
  clear H1
  rintro x w1 ⟨v1, rfl, pt, ct, rfl, hn1, hr1, ho1⟩
  rw [← HW.out] at ho1
  have q1b := q0.call hr1 ho1
  have c1 : w1.cell? ⟨w.heap.size + 1, 1, none⟩ = some (.slice none 0 0) := q1b.2.2.1.cell rfl
  have f1 := q1b.2.2.1.free 1
  have q1 := q1b.put hg 1 (.slice pt s1.2.1.length ct)
  have m1 := hn1.tk (TK.of_only ((Only.refl (w.heap.size + 1) w1).setCell 1 (.slice pt s1.2.1.length ct)) q1b.2.2.1) (by decide)
  have H2 := xuint_all g s1.2.2 s1.1 1125899906842624 (w1.setCell ⟨w.heap.size + 1, 1, none⟩ (.slice pt s1.2.1.length ct)) q1.1 he1 (Nat.le_trans hl1 hsz)
  obtain ⟨s2, hs2⟩ : ∃ s, Hid (s = rdU s1.2.2 s1.1 1125899906842624) := ⟨_, rfl⟩
  have he2 : s2.1 ≠ 0 → s2.2.2 = [] := by rw [hs2.out]; exact rdU_fellX s1.2.2 s1.1 1125899906842624 he1
  have hl2 : s2.2.2.length ≤ l.length := by rw [hs2.out]; exact Nat.le_trans (rdU_le s1.2.2 s1.1 1125899906842624) hl1
  rw [← hs2.out] at H2
  go_wp2_with fail
  refine H2.mono ?_
  clear H2
  rintro x w2 ⟨rfl, hr2, ho2⟩
  have q2b := q1.call hr2 ho2
  have c2 : w2.cell? ⟨w.heap.size + 1, 4, none⟩ = some (.int .i64 0) := q2b.2.2.1.cell rfl
  have f2 := q2b.2.2.1.free 4
  have q2 := q2b.put hg 4 (.int .i64 (s2.2.1 : Int))
  have m2b := hbn_xr m1 q1.1 ho2
  have m2 := m2b.tk (TK.of_only ((Only.refl (w.heap.size + 1) w2).setCell 4 (.int .i64 (s2.2.1 : Int))) q2b.2.2.1) (by decide)
  have H3 := xuint_all g s2.2.2 s2.1 2147483648 (w2.setCell ⟨w.heap.size + 1, 4, none⟩ (.int .i64 (s2.2.1 : Int))) q2.1 he2 (Nat.le_trans hl2 hsz)
  obtain ⟨s3, hs3⟩ : ∃ s, Hid (s = rdU s2.2.2 s2.1 2147483648) := ⟨_, rfl⟩
  have he3 : s3.1 ≠ 0 → s3.2.2 = [] := by rw [hs3.out]; exact rdU_fellX s2.2.2 s2.1 2147483648 he2
  have hl3 : s3.2.2.length ≤ l.length := by rw [hs3.out]; exact Nat.le_trans (rdU_le s2.2.2 s2.1 2147483648) hl2
  rw [← hs3.out] at H3
  go_wp2_with fail
  refine H3.mono ?_
  clear H3
  rintro x w3 ⟨rfl, hr3, ho3⟩
  have q3b := q2.call hr3 ho3
  have c3 : w3.cell? ⟨w.heap.size + 1, 3, none⟩ = some (.int .i64 0) := q3b.2.2.1.cell rfl
  have f3 := q3b.2.2.1.free 3
  have q3 := q3b.put hg 3 (.int .i64 (s3.2.1 : Int))
  have m3b := hbn_xr m2 q2.1 ho3
  have m3 := m3b.tk (TK.of_only ((Only.refl (w.heap.size + 1) w3).setCell 3 (.int .i64 (s3.2.1 : Int))) q3b.2.2.1) (by decide)
  have aF : AB (w3.setCell ⟨w.heap.size + 1, 3, none⟩ (.int .i64 (s3.2.1 : Int))) (w.heap.size + 1) #[.int .i64 4, .slice pt s1.2.1.length ct, .int .i64 0, .int .i64 (s3.2.1 : Int), .int .i64 (s2.2.1 : Int), .bool false, .int .i64 0, .int .i64 0, .int .i64 0, .slice none 0 0] := q3.2.2.1
  have zF : AB (w3.setCell ⟨w.heap.size + 1, 3, none⟩ (.int .i64 (s3.2.1 : Int))) w.heap.size zeroA := q3.2.1
  obtain ⟨y0, y1, y2, y3, y4, y5, y6, y7, y8, y9⟩ := ask_cells aF
  obtain ⟨x0, x1, x2, x3, x4, x5, x6, x7, x8, x9⟩ := ask_cells zF
  have fz := fun i => zF.free i
  clear c1 f1
  clear c2 f2
  clear aF HW
  have er : rch4 l = (s3.1, s3.2.2, { AP0 with id := s1.2.1, ti := s2.2.1, to := s3.2.1 }) := by
    unfold rch4
    rw [hs3.out, hs2.out, hs1.out]
  have er2 : Hid _ := er
  clear er
  go_wp2
  refine bodyPost_ret (v := .agg #[.int .i64 4, .slice pt s1.2.1.length ct, .int .i64 0, .int .i64 (s3.2.1 : Int), .int .i64 (s2.2.1 : Int), .bool false, .int .i64 0, .int .i64 0, .int .i64 0, .slice none 0 0]) ?_ rfl ?_
  · simp only [results, Try.results34]
    go_simp
  · have fin := filled (w0 := w) (.int .i64 4) (.slice pt s1.2.1.length ct) (.int .i64 0) (.int .i64 (s3.2.1 : Int)) (.int .i64 (s2.2.1 : Int)) (.bool false) (.int .i64 0) (.int .i64 0) (.int .i64 0) (.slice none 0 0) q3.1 zF q3.2.2.2 m3 (by omega) (Nat.le_refl _)
    rw [er2.out]
    exact ⟨_, rfl, fin.2.2, fin.1, fin.2.1⟩

def rch5 (l : List UInt8) : Int × List UInt8 × AP := ((rdU (rdU (rdB l 0 24).2.2 (rdB l 0 24).1 2147483648).2.2 (rdU (rdB l 0 24).2.2 (rdB l 0 24).1 2147483648).1 2147483648).1, (rdU (rdU (rdB l 0 24).2.2 (rdB l 0 24).1 2147483648).2.2 (rdU (rdB l 0 24).2.2 (rdB l 0 24).1 2147483648).1 2147483648).2.2, { AP0 with id := (rdB l 0 24).2.1, fr := (rdU (rdB l 0 24).2.2 (rdB l 0 24).1 2147483648).2.1, to := (rdU (rdU (rdB l 0 24).2.2 (rdB l 0 24).1 2147483648).2.2 (rdU (rdB l 0 24).2.2 (rdB l 0 24).1 2147483648).1 2147483648).2.1 })
set_option maxRecDepth 100000 in
set_option maxHeartbeats 4000000 in
theorem xf5 (g : Nat) (l : List UInt8) (w : World) (h : XR w g l 0) (hsz : l.length ≤ 140737488355328) :
    Calls Try.prog 34 #[.pointer (some ⟨g, 0, none⟩), .int .i64 5] w fun x w' => ∃ idv, x = .returned (.agg #[.int .i64 5, idv, .int .i64 ((rch5 l).2.2.fr : Int), .int .i64 ((rch5 l).2.2.to : Int), .int .i64 ((rch5 l).2.2.ti : Int), .bool (rch5 l).2.2.so, .int .i64 ((rch5 l).2.2.ep : Int), .int .i64 ((rch5 l).2.2.ix : Int), .int .i64 ((rch5 l).2.2.li : Int), .slice none 0 0]) ∧ HBN w' g idv (rch5 l).2.2.id ∧ XR w' g (rch5 l).2.1 (rch5 l).1 ∧ Only g w w' := by
  have hg : g < w.heap.size := by obtain ⟨p, c, h1, _⟩ := h; exact h1.lt
  have bA := (Below.refl w.heap.size w).alloc (Nat.le_refl _) (.cells #[.int .i64 0, .slice none 0 0, .int .i64 0, .int .i64 0, .int .i64 0, .bool false, .int .i64 0, .int .i64 0, .int .i64 0, .slice none 0 0] 25)
  have aA : AB (w.alloc (.cells #[.int .i64 0, .slice none 0 0, .int .i64 0, .int .i64 0, .int .i64 0, .bool false, .int .i64 0, .int .i64 0, .int .i64 0, .slice none 0 0] 25)) w.heap.size zeroA := heap_alloc_new w _
  have sA : (w.alloc (.cells #[.int .i64 0, .slice none 0 0, .int .i64 0, .int .i64 0, .int .i64 0, .bool false, .int .i64 0, .int .i64 0, .int .i64 0, .slice none 0 0] 25)).heap.size = w.heap.size + 1 := World.size_alloc _ _
  have bB := bA.alloc bA.size (.cells #[.int .i64 5, .slice none 0 0, .int .i64 0, .int .i64 0, .int .i64 0, .bool false, .int .i64 0, .int .i64 0, .int .i64 0, .slice none 0 0] 25)
  have bB1 := (Below.refl _ (w.alloc (.cells #[.int .i64 0, .slice none 0 0, .int .i64 0, .int .i64 0, .int .i64 0, .bool false, .int .i64 0, .int .i64 0, .int .i64 0, .slice none 0 0] 25))).alloc (Nat.le_refl _) (.cells #[.int .i64 5, .slice none 0 0, .int .i64 0, .int .i64 0, .int .i64 0, .bool false, .int .i64 0, .int .i64 0, .int .i64 0, .slice none 0 0] 25)
  have aB : AB ((w.alloc (.cells #[.int .i64 0, .slice none 0 0, .int .i64 0, .int .i64 0, .int .i64 0, .bool false, .int .i64 0, .int .i64 0, .int .i64 0, .slice none 0 0] 25)).alloc (.cells #[.int .i64 5, .slice none 0 0, .int .i64 0, .int .i64 0, .int .i64 0, .bool false, .int .i64 0, .int .i64 0, .int .i64 0, .slice none 0 0] 25)) (w.heap.size + 1) #[.int .i64 5, .slice none 0 0, .int .i64 0, .int .i64 0, .int .i64 0, .bool false, .int .i64 0, .int .i64 0, .int .i64 0, .slice none 0 0] := by rw [← sA]; exact heap_alloc_new _ _
  have q0 : XS w g #[.int .i64 5, .slice none 0 0, .int .i64 0, .int .i64 0, .int .i64 0, .bool false, .int .i64 0, .int .i64 0, .int .i64 0, .slice none 0 0] l 0 ((w.alloc (.cells #[.int .i64 0, .slice none 0 0, .int .i64 0, .int .i64 0, .int .i64 0, .bool false, .int .i64 0, .int .i64 0, .int .i64 0, .slice none 0 0] 25)).alloc (.cells #[.int .i64 5, .slice none 0 0, .int .i64 0, .int .i64 0, .int .i64 0, .bool false, .int .i64 0, .int .i64 0, .int .i64 0, .slice none 0 0] 25)) := ⟨h.later bB, aA.later bB1, aB, Only.of_below bB (by omega)⟩
  clear bA aA sA bB bB1 aB h
  obtain ⟨w0, hw0⟩ : ∃ x, x = (w.alloc (.cells #[.int .i64 0, .slice none 0 0, .int .i64 0, .int .i64 0, .int .i64 0, .bool false, .int .i64 0, .int .i64 0, .int .i64 0, .slice none 0 0] 25)).alloc (.cells #[.int .i64 5, .slice none 0 0, .int .i64 0, .int .i64 0, .int .i64 0, .bool false, .int .i64 0, .int .i64 0, .int .i64 0, .slice none 0 0] 25) := ⟨_, rfl⟩
  rw [← hw0] at q0
  have HW : Hid (w0 = (w.alloc (.cells #[.int .i64 0, .slice none 0 0, .int .i64 0, .int .i64 0, .int .i64 0, .bool false, .int .i64 0, .int .i64 0, .int .i64 0, .slice none 0 0] 25)).alloc (.cells #[.int .i64 5, .slice none 0 0, .int .i64 0, .int .i64 0, .int .i64 0, .bool false, .int .i64 0, .int .i64 0, .int .i64 0, .slice none 0 0] 25)) := hw0
  have H1 := xbytes_all g l 0 24 w0 q0.1 (fun h => absurd rfl h) hsz
  obtain ⟨s1, hs1⟩ : ∃ s, Hid (s = rdB l 0 24) := ⟨_, rfl⟩
  have he1 : s1.1 ≠ 0 → s1.2.2 = [] := by rw [hs1.out]; exact rdB_fell l 0 24 (fun h => absurd rfl h)
  have hl1 : s1.2.2.length ≤ l.length := by rw [hs1.out]; exact rdB_le l 0 24
  rw [← hs1.out] at H1
  rw [hw0] at H1
  clear hw0
  go_enter Try.func34, Try.ntmps34
  go_wp2_with fail
  refine H1.mono ?_
  clear H1
  rintro x w1 ⟨v1, rfl, pt, ct, rfl, hn1, hr1, ho1⟩
  rw [← HW.out] at ho1
  have q1b := q0.call hr1 ho1
  have c1 : w1.cell? ⟨w.heap.size + 1, 1, none⟩ = some (.slice none 0 0) := q1b.2.2.1.cell rfl
  have f1 := q1b.2.2.1.free 1
  have q1 := q1b.put hg 1 (.slice pt s1.2.1.length ct)
  have m1 := hn1.tk (TK.of_only ((Only.refl (w.heap.size + 1) w1).setCell 1 (.slice pt s1.2.1.length ct)) q1b.2.2.1) (by decide)
  have H2 := xuint_all g s1.2.2 s1.1 2147483648 (w1.setCell ⟨w.heap.size + 1, 1, none⟩ (.slice pt s1.2.1.length ct)) q1.1 he1 (Nat.le_trans hl1 hsz)
  obtain ⟨s2, hs2⟩ : ∃ s, Hid (s = rdU s1.2.2 s1.1 2147483648) := ⟨_, rfl⟩
  have he2 : s2.1 ≠ 0 → s2.2.2 = [] := by rw [hs2.out]; exact rdU_fellX s1.2.2 s1.1 2147483648 he1
  have hl2 : s2.2.2.length ≤ l.length := by rw [hs2.out]; exact Nat.le_trans (rdU_le s1.2.2 s1.1 2147483648) hl1
  rw [← hs2.out] at H2
  go_wp2_with fail
  refine H2.mono ?_
  clear H2
  rintro x w2 ⟨rfl, hr2, ho2⟩
  have q2b := q1.call hr2 ho2
  have c2 : w2.cell? ⟨w.heap.size + 1, 2, none⟩ = some (.int .i64 0) := q2b.2.2.1.cell rfl
  have f2 := q2b.2.2.1.free 2
  have q2 := q2b.put hg 2 (.int .i64 (s2.2.1 : Int))
  have m2b := hbn_xr m1 q1.1 ho2
  have m2 := m2b.tk (TK.of_only ((Only.refl (w.heap.size + 1) w2).setCell 2 (.int .i64 (s2.2.1 : Int))) q2b.2.2.1) (by decide)
  have H3 := xuint_all g s2.2.2 s2.1 2147483648 (w2.setCell ⟨w.heap.size + 1, 2, none⟩ (.int .i64 (s2.2.1 : Int))) q2.1 he2 (Nat.le_trans hl2 hsz)
  obtain ⟨s3, hs3⟩ : ∃ s, Hid (s = rdU s2.2.2 s2.1 2147483648) := ⟨_, rfl⟩
  have he3 : s3.1 ≠ 0 → s3.2.2 = [] := by rw [hs3.out]; exact rdU_fellX s2.2.2 s2.1 2147483648 he2
  have hl3 : s3.2.2.length ≤ l.length := by rw [hs3.out]; exact Nat.le_trans (rdU_le s2.2.2 s2.1 2147483648) hl2
  rw [← hs3.out] at H3
  go_wp2_with fail
  refine H3.mono ?_
  clear H3
  rintro x w3 ⟨rfl, hr3, ho3⟩
  have q3b := q2.call hr3 ho3
  have c3 : w3.cell? ⟨w.heap.size + 1, 3, none⟩ = some (.int .i64 0) := q3b.2.2.1.cell rfl
  have f3 := q3b.2.2.1.free 3
  have q3 := q3b.put hg 3 (.int .i64 (s3.2.1 : Int))
  have m3b := hbn_xr m2 q2.1 ho3
  have m3 := m3b.tk (TK.of_only ((Only.refl (w.heap.size + 1) w3).setCell 3 (.int .i64 (s3.2.1 : Int))) q3b.2.2.1) (by decide)
  have aF : AB (w3.setCell ⟨w.heap.size + 1, 3, none⟩ (.int .i64 (s3.2.1 : Int))) (w.heap.size + 1) #[.int .i64 5, .slice pt s1.2.1.length ct, .int .i64 (s2.2.1 : Int), .int .i64 (s3.2.1 : Int), .int .i64 0, .bool false, .int .i64 0, .int .i64 0, .int .i64 0, .slice none 0 0] := q3.2.2.1
  have zF : AB (w3.setCell ⟨w.heap.size + 1, 3, none⟩ (.int .i64 (s3.2.1 : Int))) w.heap.size zeroA := q3.2.1
  obtain ⟨y0, y1, y2, y3, y4, y5, y6, y7, y8, y9⟩ := ask_cells aF
  obtain ⟨x0, x1, x2, x3, x4, x5, x6, x7, x8, x9⟩ := ask_cells zF
  have fz := fun i => zF.free i
  clear c1 f1
  clear c2 f2
  clear aF HW
  have er : rch5 l = (s3.1, s3.2.2, { AP0 with id := s1.2.1, fr := s2.2.1, to := s3.2.1 }) := by
    unfold rch5
    rw [hs3.out, hs2.out, hs1.out]
  have er2 : Hid _ := er
  clear er
  go_wp2
  refine bodyPost_ret (v := .agg #[.int .i64 5, .slice pt s1.2.1.length ct, .int .i64 (s2.2.1 : Int), .int .i64 (s3.2.1 : Int), .int .i64 0, .bool false, .int .i64 0, .int .i64 0, .int .i64 0, .slice none 0 0]) ?_ rfl ?_
  · simp only [results, Try.results34]
    go_simp
  · have fin := filled (w0 := w) (.int .i64 5) (.slice pt s1.2.1.length ct) (.int .i64 (s2.2.1 : Int)) (.int .i64 (s3.2.1 : Int)) (.int .i64 0) (.bool false) (.int .i64 0) (.int .i64 0) (.int .i64 0) (.slice none 0 0) q3.1 zF q3.2.2.2 m3 (by omega) (Nat.le_refl _)
    rw [er2.out]
    exact ⟨_, rfl, fin.2.2, fin.1, fin.2.1⟩

def rch6a (l : List UInt8) : Int × List UInt8 × AP := ((rdU (rdB (rdG (rdU (rdU l 0 2147483648).2.2 (rdU l 0 2147483648).1 2147483648).2.2 (rdU (rdU l 0 2147483648).2.2 (rdU l 0 2147483648).1 2147483648).1).2.2 (rdG (rdU (rdU l 0 2147483648).2.2 (rdU l 0 2147483648).1 2147483648).2.2 (rdU (rdU l 0 2147483648).2.2 (rdU l 0 2147483648).1 2147483648).1).1 24).2.2 (rdB (rdG (rdU (rdU l 0 2147483648).2.2 (rdU l 0 2147483648).1 2147483648).2.2 (rdU (rdU l 0 2147483648).2.2 (rdU l 0 2147483648).1 2147483648).1).2.2 (rdG (rdU (rdU l 0 2147483648).2.2 (rdU l 0 2147483648).1 2147483648).2.2 (rdU (rdU l 0 2147483648).2.2 (rdU l 0 2147483648).1 2147483648).1).1 24).1 2147483648).1, (rdU (rdB (rdG (rdU (rdU l 0 2147483648).2.2 (rdU l 0 2147483648).1 2147483648).2.2 (rdU (rdU l 0 2147483648).2.2 (rdU l 0 2147483648).1 2147483648).1).2.2 (rdG (rdU (rdU l 0 2147483648).2.2 (rdU l 0 2147483648).1 2147483648).2.2 (rdU (rdU l 0 2147483648).2.2 (rdU l 0 2147483648).1 2147483648).1).1 24).2.2 (rdB (rdG (rdU (rdU l 0 2147483648).2.2 (rdU l 0 2147483648).1 2147483648).2.2 (rdU (rdU l 0 2147483648).2.2 (rdU l 0 2147483648).1 2147483648).1).2.2 (rdG (rdU (rdU l 0 2147483648).2.2 (rdU l 0 2147483648).1 2147483648).2.2 (rdU (rdU l 0 2147483648).2.2 (rdU l 0 2147483648).1 2147483648).1).1 24).1 2147483648).2.2, { AP0 with fr := (rdU l 0 2147483648).2.1, to := (rdU (rdU l 0 2147483648).2.2 (rdU l 0 2147483648).1 2147483648).2.1, so := (rdG (rdU (rdU l 0 2147483648).2.2 (rdU l 0 2147483648).1 2147483648).2.2 (rdU (rdU l 0 2147483648).2.2 (rdU l 0 2147483648).1 2147483648).1).2.1, id := (rdB (rdG (rdU (rdU l 0 2147483648).2.2 (rdU l 0 2147483648).1 2147483648).2.2 (rdU (rdU l 0 2147483648).2.2 (rdU l 0 2147483648).1 2147483648).1).2.2 (rdG (rdU (rdU l 0 2147483648).2.2 (rdU l 0 2147483648).1 2147483648).2.2 (rdU (rdU l 0 2147483648).2.2 (rdU l 0 2147483648).1 2147483648).1).1 24).2.1, li := (rdU (rdB (rdG (rdU (rdU l 0 2147483648).2.2 (rdU l 0 2147483648).1 2147483648).2.2 (rdU (rdU l 0 2147483648).2.2 (rdU l 0 2147483648).1 2147483648).1).2.2 (rdG (rdU (rdU l 0 2147483648).2.2 (rdU l 0 2147483648).1 2147483648).2.2 (rdU (rdU l 0 2147483648).2.2 (rdU l 0 2147483648).1 2147483648).1).1 24).2.2 (rdB (rdG (rdU (rdU l 0 2147483648).2.2 (rdU l 0 2147483648).1 2147483648).2.2 (rdU (rdU l 0 2147483648).2.2 (rdU l 0 2147483648).1 2147483648).1).2.2 (rdG (rdU (rdU l 0 2147483648).2.2 (rdU l 0 2147483648).1 2147483648).2.2 (rdU (rdU l 0 2147483648).2.2 (rdU l 0 2147483648).1 2147483648).1).1 24).1 2147483648).2.1 })
set_option maxRecDepth 100000 in
set_option maxHeartbeats 4000000 in
theorem xf6a (g : Nat) (l : List UInt8) (w : World) (h : XR w g l 0) (hsz : l.length ≤ 140737488355328) (hf : (rdG (rdU (rdU l 0 2147483648).2.2 (rdU l 0 2147483648).1 2147483648).2.2 (rdU (rdU l 0 2147483648).2.2 (rdU l 0 2147483648).1 2147483648).1).2.1 = true) :
    Calls Try.prog 34 #[.pointer (some ⟨g, 0, none⟩), .int .i64 6] w fun x w' => ∃ idv, x = .returned (.agg #[.int .i64 6, idv, .int .i64 ((rch6a l).2.2.fr : Int), .int .i64 ((rch6a l).2.2.to : Int), .int .i64 ((rch6a l).2.2.ti : Int), .bool (rch6a l).2.2.so, .int .i64 ((rch6a l).2.2.ep : Int), .int .i64 ((rch6a l).2.2.ix : Int), .int .i64 ((rch6a l).2.2.li : Int), .slice none 0 0]) ∧ HBN w' g idv (rch6a l).2.2.id ∧ XR w' g (rch6a l).2.1 (rch6a l).1 ∧ Only g w w' := by
  have hg : g < w.heap.size := by obtain ⟨p, c, h1, _⟩ := h; exact h1.lt
  have bA := (Below.refl w.heap.size w).alloc (Nat.le_refl _) (.cells #[.int .i64 0, .slice none 0 0, .int .i64 0, .int .i64 0, .int .i64 0, .bool false, .int .i64 0, .int .i64 0, .int .i64 0, .slice none 0 0] 25)
  have aA : AB (w.alloc (.cells #[.int .i64 0, .slice none 0 0, .int .i64 0, .int .i64 0, .int .i64 0, .bool false, .int .i64 0, .int .i64 0, .int .i64 0, .slice none 0 0] 25)) w.heap.size zeroA := heap_alloc_new w _
  have sA : (w.alloc (.cells #[.int .i64 0, .slice none 0 0, .int .i64 0, .int .i64 0, .int .i64 0, .bool false, .int .i64 0, .int .i64 0, .int .i64 0, .slice none 0 0] 25)).heap.size = w.heap.size + 1 := World.size_alloc _ _
  have bB := bA.alloc bA.size (.cells #[.int .i64 6, .slice none 0 0, .int .i64 0, .int .i64 0, .int .i64 0, .bool false, .int .i64 0, .int .i64 0, .int .i64 0, .slice none 0 0] 25)
  have bB1 := (Below.refl _ (w.alloc (.cells #[.int .i64 0, .slice none 0 0, .int .i64 0, .int .i64 0, .int .i64 0, .bool false, .int .i64 0, .int .i64 0, .int .i64 0, .slice none 0 0] 25))).alloc (Nat.le_refl _) (.cells #[.int .i64 6, .slice none 0 0, .int .i64 0, .int .i64 0, .int .i64 0, .bool false, .int .i64 0, .int .i64 0, .int .i64 0, .slice none 0 0] 25)
  have aB : AB ((w.alloc (.cells #[.int .i64 0, .slice none 0 0, .int .i64 0, .int .i64 0, .int .i64 0, .bool false, .int .i64 0, .int .i64 0, .int .i64 0, .slice none 0 0] 25)).alloc (.cells #[.int .i64 6, .slice none 0 0, .int .i64 0, .int .i64 0, .int .i64 0, .bool false, .int .i64 0, .int .i64 0, .int .i64 0, .slice none 0 0] 25)) (w.heap.size + 1) #[.int .i64 6, .slice none 0 0, .int .i64 0, .int .i64 0, .int .i64 0, .bool false, .int .i64 0, .int .i64 0, .int .i64 0, .slice none 0 0] := by rw [← sA]; exact heap_alloc_new _ _
  have q0 : XS w g #[.int .i64 6, .slice none 0 0, .int .i64 0, .int .i64 0, .int .i64 0, .bool false, .int .i64 0, .int .i64 0, .int .i64 0, .slice none 0 0] l 0 ((w.alloc (.cells #[.int .i64 0, .slice none 0 0, .int .i64 0, .int .i64 0, .int .i64 0, .bool false, .int .i64 0, .int .i64 0, .int .i64 0, .slice none 0 0] 25)).alloc (.cells #[.int .i64 6, .slice none 0 0, .int .i64 0, .int .i64 0, .int .i64 0, .bool false, .int .i64 0, .int .i64 0, .int .i64 0, .slice none 0 0] 25)) := ⟨h.later bB, aA.later bB1, aB, Only.of_below bB (by omega)⟩
  clear bA aA sA bB bB1 aB h
  obtain ⟨w0, hw0⟩ : ∃ x, x = (w.alloc (.cells #[.int .i64 0, .slice none 0 0, .int .i64 0, .int .i64 0, .int .i64 0, .bool false, .int .i64 0, .int .i64 0, .int .i64 0, .slice none 0 0] 25)).alloc (.cells #[.int .i64 6, .slice none 0 0, .int .i64 0, .int .i64 0, .int .i64 0, .bool false, .int .i64 0, .int .i64 0, .int .i64 0, .slice none 0 0] 25) := ⟨_, rfl⟩
  rw [← hw0] at q0
  have HW : Hid (w0 = (w.alloc (.cells #[.int .i64 0, .slice none 0 0, .int .i64 0, .int .i64 0, .int .i64 0, .bool false, .int .i64 0, .int .i64 0, .int .i64 0, .slice none 0 0] 25)).alloc (.cells #[.int .i64 6, .slice none 0 0, .int .i64 0, .int .i64 0, .int .i64 0, .bool false, .int .i64 0, .int .i64 0, .int .i64 0, .slice none 0 0] 25)) := hw0
  have H1 := xuint_all g l 0 2147483648 w0 q0.1 (fun h => absurd rfl h) hsz
  obtain ⟨s1, hs1⟩ : ∃ s, Hid (s = rdU l 0 2147483648) := ⟨_, rfl⟩
  have he1 : s1.1 ≠ 0 → s1.2.2 = [] := by rw [hs1.out]; exact rdU_fellX l 0 2147483648 (fun h => absurd rfl h)
  have hl1 : s1.2.2.length ≤ l.length := by rw [hs1.out]; exact rdU_le l 0 2147483648
  rw [← hs1.out] at H1
  rw [hw0] at H1
  clear hw0
  go_enter Try.func34, Try.ntmps34
  go_wp2_with fail
  refine H1.mono ?_
  clear H1
  rintro x w1 ⟨rfl, hr1, ho1⟩
  rw [← HW.out] at ho1
  have q1b := q0.call hr1 ho1
  have c1 : w1.cell? ⟨w.heap.size + 1, 2, none⟩ = some (.int .i64 0) := q1b.2.2.1.cell rfl
  have f1 := q1b.2.2.1.free 2
  have q1 := q1b.put hg 2 (.int .i64 (s1.2.1 : Int))
  have H2 := xuint_all g s1.2.2 s1.1 2147483648 (w1.setCell ⟨w.heap.size + 1, 2, none⟩ (.int .i64 (s1.2.1 : Int))) q1.1 he1 (Nat.le_trans hl1 hsz)
  obtain ⟨s2, hs2⟩ : ∃ s, Hid (s = rdU s1.2.2 s1.1 2147483648) := ⟨_, rfl⟩
  have he2 : s2.1 ≠ 0 → s2.2.2 = [] := by rw [hs2.out]; exact rdU_fellX s1.2.2 s1.1 2147483648 he1
  have hl2 : s2.2.2.length ≤ l.length := by rw [hs2.out]; exact Nat.le_trans (rdU_le s1.2.2 s1.1 2147483648) hl1
  rw [← hs2.out] at H2
  go_wp2_with fail
  refine H2.mono ?_
  clear H2
  rintro x w2 ⟨rfl, hr2, ho2⟩
  have q2b := q1.call hr2 ho2
  have c2 : w2.cell? ⟨w.heap.size + 1, 3, none⟩ = some (.int .i64 0) := q2b.2.2.1.cell rfl
  have f2 := q2b.2.2.1.free 3
  have q2 := q2b.put hg 3 (.int .i64 (s2.2.1 : Int))
  have H3 := xflag_all g s2.2.2 s2.1 (w2.setCell ⟨w.heap.size + 1, 3, none⟩ (.int .i64 (s2.2.1 : Int))) q2.1 he2 (Nat.le_trans hl2 hsz)
  obtain ⟨s3, hs3⟩ : ∃ s, Hid (s = rdG s2.2.2 s2.1) := ⟨_, rfl⟩
  have he3 : s3.1 ≠ 0 → s3.2.2 = [] := by rw [hs3.out]; exact rdG_fell s2.2.2 s2.1 he2
  have hl3 : s3.2.2.length ≤ l.length := by rw [hs3.out]; exact Nat.le_trans (rdG_le s2.2.2 s2.1) hl2
  rw [← hs3.out] at H3
  go_wp2_with fail
  refine H3.mono ?_
  clear H3
  rintro x w3 ⟨rfl, hr3, ho3⟩
  have q3b := q2.call hr3 ho3
  have c3 : w3.cell? ⟨w.heap.size + 1, 5, none⟩ = some (.bool false) := q3b.2.2.1.cell rfl
  have f3 := q3b.2.2.1.free 5
  have q3 := q3b.put hg 5 (.bool s3.2.1)
  have hsf : s3.2.1 = true := by rw [hs3.out, hs2.out, hs1.out]; exact hf
  have g5 : (w3.setCell ⟨w.heap.size + 1, 5, none⟩ (.bool s3.2.1)).cell? ⟨w.heap.size + 1, 5, none⟩ = some (.bool s3.2.1) := q3.2.2.1.cell rfl
  rw [hsf] at g5 q3
  rw [hsf]
  have H4 := xbytes_all g s3.2.2 s3.1 24 (w3.setCell ⟨w.heap.size + 1, 5, none⟩ (.bool true)) q3.1 he3 (Nat.le_trans hl3 hsz)
  obtain ⟨s4, hs4⟩ : ∃ s, Hid (s = rdB s3.2.2 s3.1 24) := ⟨_, rfl⟩
  have he4 : s4.1 ≠ 0 → s4.2.2 = [] := by rw [hs4.out]; exact rdB_fell s3.2.2 s3.1 24 he3
  have hl4 : s4.2.2.length ≤ l.length := by rw [hs4.out]; exact Nat.le_trans (rdB_le s3.2.2 s3.1 24) hl3
  rw [← hs4.out] at H4
  go_wp2_with fail
  refine H4.mono ?_
  clear H4
  rintro x w4 ⟨v4, rfl, pt, ct, rfl, hn4, hr4, ho4⟩
  have q4b := q3.call hr4 ho4
  have c4 : w4.cell? ⟨w.heap.size + 1, 1, none⟩ = some (.slice none 0 0) := q4b.2.2.1.cell rfl
  have f4 := q4b.2.2.1.free 1
  have q4 := q4b.put hg 1 (.slice pt s4.2.1.length ct)
  have m4 := hn4.tk (TK.of_only ((Only.refl (w.heap.size + 1) w4).setCell 1 (.slice pt s4.2.1.length ct)) q4b.2.2.1) (by decide)
  have H5 := xuint_all g s4.2.2 s4.1 2147483648 (w4.setCell ⟨w.heap.size + 1, 1, none⟩ (.slice pt s4.2.1.length ct)) q4.1 he4 (Nat.le_trans hl4 hsz)
  obtain ⟨s5, hs5⟩ : ∃ s, Hid (s = rdU s4.2.2 s4.1 2147483648) := ⟨_, rfl⟩
  have he5 : s5.1 ≠ 0 → s5.2.2 = [] := by rw [hs5.out]; exact rdU_fellX s4.2.2 s4.1 2147483648 he4
  have hl5 : s5.2.2.length ≤ l.length := by rw [hs5.out]; exact Nat.le_trans (rdU_le s4.2.2 s4.1 2147483648) hl4
  rw [← hs5.out] at H5
  go_wp2_with fail
  refine H5.mono ?_
  clear H5
  rintro x w5 ⟨rfl, hr5, ho5⟩
  have q5b := q4.call hr5 ho5
  have c5 : w5.cell? ⟨w.heap.size + 1, 8, none⟩ = some (.int .i64 0) := q5b.2.2.1.cell rfl
  have f5 := q5b.2.2.1.free 8
  have q5 := q5b.put hg 8 (.int .i64 (s5.2.1 : Int))
  have m5b := hbn_xr m4 q4.1 ho5
  have m5 := m5b.tk (TK.of_only ((Only.refl (w.heap.size + 1) w5).setCell 8 (.int .i64 (s5.2.1 : Int))) q5b.2.2.1) (by decide)
  have aF : AB (w5.setCell ⟨w.heap.size + 1, 8, none⟩ (.int .i64 (s5.2.1 : Int))) (w.heap.size + 1) #[.int .i64 6, .slice pt s4.2.1.length ct, .int .i64 (s1.2.1 : Int), .int .i64 (s2.2.1 : Int), .int .i64 0, .bool true, .int .i64 0, .int .i64 0, .int .i64 (s5.2.1 : Int), .slice none 0 0] := q5.2.2.1
  have zF : AB (w5.setCell ⟨w.heap.size + 1, 8, none⟩ (.int .i64 (s5.2.1 : Int))) w.heap.size zeroA := q5.2.1
  obtain ⟨y0, y1, y2, y3, y4, y5, y6, y7, y8, y9⟩ := ask_cells aF
  obtain ⟨x0, x1, x2, x3, x4, x5, x6, x7, x8, x9⟩ := ask_cells zF
  have fz := fun i => zF.free i
  clear c1 f1
  clear c2 f2
  clear c3 f3
  clear c4 f4
  clear aF HW
  have er : rch6a l = (s5.1, s5.2.2, { AP0 with fr := s1.2.1, to := s2.2.1, so := s3.2.1, id := s4.2.1, li := s5.2.1 }) := by
    unfold rch6a
    rw [hs5.out, hs4.out, hs3.out, hs2.out, hs1.out]
  have er2 : Hid _ := er
  clear er
  go_wp2
  refine bodyPost_ret (v := .agg #[.int .i64 6, .slice pt s4.2.1.length ct, .int .i64 (s1.2.1 : Int), .int .i64 (s2.2.1 : Int), .int .i64 0, .bool true, .int .i64 0, .int .i64 0, .int .i64 (s5.2.1 : Int), .slice none 0 0]) ?_ rfl ?_
  · simp only [results, Try.results34]
    go_simp
  · have fin := filled (w0 := w) (.int .i64 6) (.slice pt s4.2.1.length ct) (.int .i64 (s1.2.1 : Int)) (.int .i64 (s2.2.1 : Int)) (.int .i64 0) (.bool true) (.int .i64 0) (.int .i64 0) (.int .i64 (s5.2.1 : Int)) (.slice none 0 0) q5.1 zF q5.2.2.2 m5 (by omega) (Nat.le_refl _)
    rw [er2.out, hsf]
    exact ⟨_, rfl, fin.2.2, fin.1, fin.2.1⟩

def rch6b (l : List UInt8) : Int × List UInt8 × AP := ((rdU (rdG (rdU (rdU l 0 2147483648).2.2 (rdU l 0 2147483648).1 2147483648).2.2 (rdU (rdU l 0 2147483648).2.2 (rdU l 0 2147483648).1 2147483648).1).2.2 (rdG (rdU (rdU l 0 2147483648).2.2 (rdU l 0 2147483648).1 2147483648).2.2 (rdU (rdU l 0 2147483648).2.2 (rdU l 0 2147483648).1 2147483648).1).1 2147483648).1, (rdU (rdG (rdU (rdU l 0 2147483648).2.2 (rdU l 0 2147483648).1 2147483648).2.2 (rdU (rdU l 0 2147483648).2.2 (rdU l 0 2147483648).1 2147483648).1).2.2 (rdG (rdU (rdU l 0 2147483648).2.2 (rdU l 0 2147483648).1 2147483648).2.2 (rdU (rdU l 0 2147483648).2.2 (rdU l 0 2147483648).1 2147483648).1).1 2147483648).2.2, { AP0 with fr := (rdU l 0 2147483648).2.1, to := (rdU (rdU l 0 2147483648).2.2 (rdU l 0 2147483648).1 2147483648).2.1, so := (rdG (rdU (rdU l 0 2147483648).2.2 (rdU l 0 2147483648).1 2147483648).2.2 (rdU (rdU l 0 2147483648).2.2 (rdU l 0 2147483648).1 2147483648).1).2.1, li := (rdU (rdG (rdU (rdU l 0 2147483648).2.2 (rdU l 0 2147483648).1 2147483648).2.2 (rdU (rdU l 0 2147483648).2.2 (rdU l 0 2147483648).1 2147483648).1).2.2 (rdG (rdU (rdU l 0 2147483648).2.2 (rdU l 0 2147483648).1 2147483648).2.2 (rdU (rdU l 0 2147483648).2.2 (rdU l 0 2147483648).1 2147483648).1).1 2147483648).2.1 })
set_option maxRecDepth 100000 in
set_option maxHeartbeats 4000000 in
theorem xf6b (g : Nat) (l : List UInt8) (w : World) (h : XR w g l 0) (hsz : l.length ≤ 140737488355328) (hf : (rdG (rdU (rdU l 0 2147483648).2.2 (rdU l 0 2147483648).1 2147483648).2.2 (rdU (rdU l 0 2147483648).2.2 (rdU l 0 2147483648).1 2147483648).1).2.1 = false) :
    Calls Try.prog 34 #[.pointer (some ⟨g, 0, none⟩), .int .i64 6] w fun x w' => ∃ idv, x = .returned (.agg #[.int .i64 6, idv, .int .i64 ((rch6b l).2.2.fr : Int), .int .i64 ((rch6b l).2.2.to : Int), .int .i64 ((rch6b l).2.2.ti : Int), .bool (rch6b l).2.2.so, .int .i64 ((rch6b l).2.2.ep : Int), .int .i64 ((rch6b l).2.2.ix : Int), .int .i64 ((rch6b l).2.2.li : Int), .slice none 0 0]) ∧ HBN w' g idv (rch6b l).2.2.id ∧ XR w' g (rch6b l).2.1 (rch6b l).1 ∧ Only g w w' := by
  have hg : g < w.heap.size := by obtain ⟨p, c, h1, _⟩ := h; exact h1.lt
  have bA := (Below.refl w.heap.size w).alloc (Nat.le_refl _) (.cells #[.int .i64 0, .slice none 0 0, .int .i64 0, .int .i64 0, .int .i64 0, .bool false, .int .i64 0, .int .i64 0, .int .i64 0, .slice none 0 0] 25)
  have aA : AB (w.alloc (.cells #[.int .i64 0, .slice none 0 0, .int .i64 0, .int .i64 0, .int .i64 0, .bool false, .int .i64 0, .int .i64 0, .int .i64 0, .slice none 0 0] 25)) w.heap.size zeroA := heap_alloc_new w _
  have sA : (w.alloc (.cells #[.int .i64 0, .slice none 0 0, .int .i64 0, .int .i64 0, .int .i64 0, .bool false, .int .i64 0, .int .i64 0, .int .i64 0, .slice none 0 0] 25)).heap.size = w.heap.size + 1 := World.size_alloc _ _
  have bB := bA.alloc bA.size (.cells #[.int .i64 6, .slice none 0 0, .int .i64 0, .int .i64 0, .int .i64 0, .bool false, .int .i64 0, .int .i64 0, .int .i64 0, .slice none 0 0] 25)
  have bB1 := (Below.refl _ (w.alloc (.cells #[.int .i64 0, .slice none 0 0, .int .i64 0, .int .i64 0, .int .i64 0, .bool false, .int .i64 0, .int .i64 0, .int .i64 0, .slice none 0 0] 25))).alloc (Nat.le_refl _) (.cells #[.int .i64 6, .slice none 0 0, .int .i64 0, .int .i64 0, .int .i64 0, .bool false, .int .i64 0, .int .i64 0, .int .i64 0, .slice none 0 0] 25)
  have aB : AB ((w.alloc (.cells #[.int .i64 0, .slice none 0 0, .int .i64 0, .int .i64 0, .int .i64 0, .bool false, .int .i64 0, .int .i64 0, .int .i64 0, .slice none 0 0] 25)).alloc (.cells #[.int .i64 6, .slice none 0 0, .int .i64 0, .int .i64 0, .int .i64 0, .bool false, .int .i64 0, .int .i64 0, .int .i64 0, .slice none 0 0] 25)) (w.heap.size + 1) #[.int .i64 6, .slice none 0 0, .int .i64 0, .int .i64 0, .int .i64 0, .bool false, .int .i64 0, .int .i64 0, .int .i64 0, .slice none 0 0] := by rw [← sA]; exact heap_alloc_new _ _
  have q0 : XS w g #[.int .i64 6, .slice none 0 0, .int .i64 0, .int .i64 0, .int .i64 0, .bool false, .int .i64 0, .int .i64 0, .int .i64 0, .slice none 0 0] l 0 ((w.alloc (.cells #[.int .i64 0, .slice none 0 0, .int .i64 0, .int .i64 0, .int .i64 0, .bool false, .int .i64 0, .int .i64 0, .int .i64 0, .slice none 0 0] 25)).alloc (.cells #[.int .i64 6, .slice none 0 0, .int .i64 0, .int .i64 0, .int .i64 0, .bool false, .int .i64 0, .int .i64 0, .int .i64 0, .slice none 0 0] 25)) := ⟨h.later bB, aA.later bB1, aB, Only.of_below bB (by omega)⟩
  clear bA aA sA bB bB1 aB h
  obtain ⟨w0, hw0⟩ : ∃ x, x = (w.alloc (.cells #[.int .i64 0, .slice none 0 0, .int .i64 0, .int .i64 0, .int .i64 0, .bool false, .int .i64 0, .int .i64 0, .int .i64 0, .slice none 0 0] 25)).alloc (.cells #[.int .i64 6, .slice none 0 0, .int .i64 0, .int .i64 0, .int .i64 0, .bool false, .int .i64 0, .int .i64 0, .int .i64 0, .slice none 0 0] 25) := ⟨_, rfl⟩
  rw [← hw0] at q0
  have HW : Hid (w0 = (w.alloc (.cells #[.int .i64 0, .slice none 0 0, .int .i64 0, .int .i64 0, .int .i64 0, .bool false, .int .i64 0, .int .i64 0, .int .i64 0, .slice none 0 0] 25)).alloc (.cells #[.int .i64 6, .slice none 0 0, .int .i64 0, .int .i64 0, .int .i64 0, .bool false, .int .i64 0, .int .i64 0, .int .i64 0, .slice none 0 0] 25)) := hw0
  have H1 := xuint_all g l 0 2147483648 w0 q0.1 (fun h => absurd rfl h) hsz
  obtain ⟨s1, hs1⟩ : ∃ s, Hid (s = rdU l 0 2147483648) := ⟨_, rfl⟩
  have he1 : s1.1 ≠ 0 → s1.2.2 = [] := by rw [hs1.out]; exact rdU_fellX l 0 2147483648 (fun h => absurd rfl h)
  have hl1 : s1.2.2.length ≤ l.length := by rw [hs1.out]; exact rdU_le l 0 2147483648
  rw [← hs1.out] at H1
  rw [hw0] at H1
  clear hw0
  go_enter Try.func34, Try.ntmps34
  go_wp2_with fail
  refine H1.mono ?_
  clear H1
  rintro x w1 ⟨rfl, hr1, ho1⟩
  rw [← HW.out] at ho1
  have q1b := q0.call hr1 ho1
  have c1 : w1.cell? ⟨w.heap.size + 1, 2, none⟩ = some (.int .i64 0) := q1b.2.2.1.cell rfl
  have f1 := q1b.2.2.1.free 2
  have q1 := q1b.put hg 2 (.int .i64 (s1.2.1 : Int))
  have H2 := xuint_all g s1.2.2 s1.1 2147483648 (w1.setCell ⟨w.heap.size + 1, 2, none⟩ (.int .i64 (s1.2.1 : Int))) q1.1 he1 (Nat.le_trans hl1 hsz)
  obtain ⟨s2, hs2⟩ : ∃ s, Hid (s = rdU s1.2.2 s1.1 2147483648) := ⟨_, rfl⟩
  have he2 : s2.1 ≠ 0 → s2.2.2 = [] := by rw [hs2.out]; exact rdU_fellX s1.2.2 s1.1 2147483648 he1
  have hl2 : s2.2.2.length ≤ l.length := by rw [hs2.out]; exact Nat.le_trans (rdU_le s1.2.2 s1.1 2147483648) hl1
  rw [← hs2.out] at H2
  go_wp2_with fail
  refine H2.mono ?_
  clear H2
  rintro x w2 ⟨rfl, hr2, ho2⟩
  have q2b := q1.call hr2 ho2
  have c2 : w2.cell? ⟨w.heap.size + 1, 3, none⟩ = some (.int .i64 0) := q2b.2.2.1.cell rfl
  have f2 := q2b.2.2.1.free 3
  have q2 := q2b.put hg 3 (.int .i64 (s2.2.1 : Int))
  have H3 := xflag_all g s2.2.2 s2.1 (w2.setCell ⟨w.heap.size + 1, 3, none⟩ (.int .i64 (s2.2.1 : Int))) q2.1 he2 (Nat.le_trans hl2 hsz)
  obtain ⟨s3, hs3⟩ : ∃ s, Hid (s = rdG s2.2.2 s2.1) := ⟨_, rfl⟩
  have he3 : s3.1 ≠ 0 → s3.2.2 = [] := by rw [hs3.out]; exact rdG_fell s2.2.2 s2.1 he2
  have hl3 : s3.2.2.length ≤ l.length := by rw [hs3.out]; exact Nat.le_trans (rdG_le s2.2.2 s2.1) hl2
  rw [← hs3.out] at H3
  go_wp2_with fail
  refine H3.mono ?_
  clear H3
  rintro x w3 ⟨rfl, hr3, ho3⟩
  have q3b := q2.call hr3 ho3
  have c3 : w3.cell? ⟨w.heap.size + 1, 5, none⟩ = some (.bool false) := q3b.2.2.1.cell rfl
  have f3 := q3b.2.2.1.free 5
  have q3 := q3b.put hg 5 (.bool s3.2.1)
  have hsf : s3.2.1 = false := by rw [hs3.out, hs2.out, hs1.out]; exact hf
  have g5 : (w3.setCell ⟨w.heap.size + 1, 5, none⟩ (.bool s3.2.1)).cell? ⟨w.heap.size + 1, 5, none⟩ = some (.bool s3.2.1) := q3.2.2.1.cell rfl
  rw [hsf] at g5 q3
  rw [hsf]
  have H4 := xuint_all g s3.2.2 s3.1 2147483648 (w3.setCell ⟨w.heap.size + 1, 5, none⟩ (.bool false)) q3.1 he3 (Nat.le_trans hl3 hsz)
  obtain ⟨s4, hs4⟩ : ∃ s, Hid (s = rdU s3.2.2 s3.1 2147483648) := ⟨_, rfl⟩
  have he4 : s4.1 ≠ 0 → s4.2.2 = [] := by rw [hs4.out]; exact rdU_fellX s3.2.2 s3.1 2147483648 he3
  have hl4 : s4.2.2.length ≤ l.length := by rw [hs4.out]; exact Nat.le_trans (rdU_le s3.2.2 s3.1 2147483648) hl3
  rw [← hs4.out] at H4
  go_wp2_with fail
  refine H4.mono ?_
  clear H4
  rintro x w4 ⟨rfl, hr4, ho4⟩
  have q4b := q3.call hr4 ho4
  have c4 : w4.cell? ⟨w.heap.size + 1, 8, none⟩ = some (.int .i64 0) := q4b.2.2.1.cell rfl
  have f4 := q4b.2.2.1.free 8
  have q4 := q4b.put hg 8 (.int .i64 (s4.2.1 : Int))
  have aF : AB (w4.setCell ⟨w.heap.size + 1, 8, none⟩ (.int .i64 (s4.2.1 : Int))) (w.heap.size + 1) #[.int .i64 6, .slice none 0 0, .int .i64 (s1.2.1 : Int), .int .i64 (s2.2.1 : Int), .int .i64 0, .bool false, .int .i64 0, .int .i64 0, .int .i64 (s4.2.1 : Int), .slice none 0 0] := q4.2.2.1
  have zF : AB (w4.setCell ⟨w.heap.size + 1, 8, none⟩ (.int .i64 (s4.2.1 : Int))) w.heap.size zeroA := q4.2.1
  obtain ⟨y0, y1, y2, y3, y4, y5, y6, y7, y8, y9⟩ := ask_cells aF
  obtain ⟨x0, x1, x2, x3, x4, x5, x6, x7, x8, x9⟩ := ask_cells zF
  have fz := fun i => zF.free i
  clear c1 f1
  clear c2 f2
  clear c3 f3
  clear aF HW
  have er : rch6b l = (s4.1, s4.2.2, { AP0 with fr := s1.2.1, to := s2.2.1, so := s3.2.1, li := s4.2.1 }) := by
    unfold rch6b
    rw [hs4.out, hs3.out, hs2.out, hs1.out]
  have er2 : Hid _ := er
  clear er
  go_wp2
  refine bodyPost_ret (v := .agg #[.int .i64 6, .slice none 0 0, .int .i64 (s1.2.1 : Int), .int .i64 (s2.2.1 : Int), .int .i64 0, .bool false, .int .i64 0, .int .i64 0, .int .i64 (s4.2.1 : Int), .slice none 0 0]) ?_ rfl ?_
  · simp only [results, Try.results34]
    go_simp
  · have fin := filled (w0 := w) (.int .i64 6) (.slice none 0 0) (.int .i64 (s1.2.1 : Int)) (.int .i64 (s2.2.1 : Int)) (.int .i64 0) (.bool false) (.int .i64 0) (.int .i64 0) (.int .i64 (s4.2.1 : Int)) (.slice none 0 0) q4.1 zF q4.2.2.2 (HBN.nil _ g) (by omega) (Nat.le_refl _)
    rw [er2.out, hsf]
    exact ⟨_, rfl, fin.2.2, fin.1, fin.2.1⟩

def rch7 (l : List UInt8) : Int × List UInt8 × AP := ((rdU (rdU (rdU (rdU (rdU l 0 2147483648).2.2 (rdU l 0 2147483648).1 2147483648).2.2 (rdU (rdU l 0 2147483648).2.2 (rdU l 0 2147483648).1 2147483648).1 2147483648).2.2 (rdU (rdU (rdU l 0 2147483648).2.2 (rdU l 0 2147483648).1 2147483648).2.2 (rdU (rdU l 0 2147483648).2.2 (rdU l 0 2147483648).1 2147483648).1 2147483648).1 2147483648).2.2 (rdU (rdU (rdU (rdU l 0 2147483648).2.2 (rdU l 0 2147483648).1 2147483648).2.2 (rdU (rdU l 0 2147483648).2.2 (rdU l 0 2147483648).1 2147483648).1 2147483648).2.2 (rdU (rdU (rdU l 0 2147483648).2.2 (rdU l 0 2147483648).1 2147483648).2.2 (rdU (rdU l 0 2147483648).2.2 (rdU l 0 2147483648).1 2147483648).1 2147483648).1 2147483648).1 2147483648).1, (rdU (rdU (rdU (rdU (rdU l 0 2147483648).2.2 (rdU l 0 2147483648).1 2147483648).2.2 (rdU (rdU l 0 2147483648).2.2 (rdU l 0 2147483648).1 2147483648).1 2147483648).2.2 (rdU (rdU (rdU l 0 2147483648).2.2 (rdU l 0 2147483648).1 2147483648).2.2 (rdU (rdU l 0 2147483648).2.2 (rdU l 0 2147483648).1 2147483648).1 2147483648).1 2147483648).2.2 (rdU (rdU (rdU (rdU l 0 2147483648).2.2 (rdU l 0 2147483648).1 2147483648).2.2 (rdU (rdU l 0 2147483648).2.2 (rdU l 0 2147483648).1 2147483648).1 2147483648).2.2 (rdU (rdU (rdU l 0 2147483648).2.2 (rdU l 0 2147483648).1 2147483648).2.2 (rdU (rdU l 0 2147483648).2.2 (rdU l 0 2147483648).1 2147483648).1 2147483648).1 2147483648).1 2147483648).2.2, { AP0 with fr := (rdU l 0 2147483648).2.1, to := (rdU (rdU l 0 2147483648).2.2 (rdU l 0 2147483648).1 2147483648).2.1, ep := (rdU (rdU (rdU l 0 2147483648).2.2 (rdU l 0 2147483648).1 2147483648).2.2 (rdU (rdU l 0 2147483648).2.2 (rdU l 0 2147483648).1 2147483648).1 2147483648).2.1, ix := (rdU (rdU (rdU (rdU l 0 2147483648).2.2 (rdU l 0 2147483648).1 2147483648).2.2 (rdU (rdU l 0 2147483648).2.2 (rdU l 0 2147483648).1 2147483648).1 2147483648).2.2 (rdU (rdU (rdU l 0 2147483648).2.2 (rdU l 0 2147483648).1 2147483648).2.2 (rdU (rdU l 0 2147483648).2.2 (rdU l 0 2147483648).1 2147483648).1 2147483648).1 2147483648).2.1, li := (rdU (rdU (rdU (rdU (rdU l 0 2147483648).2.2 (rdU l 0 2147483648).1 2147483648).2.2 (rdU (rdU l 0 2147483648).2.2 (rdU l 0 2147483648).1 2147483648).1 2147483648).2.2 (rdU (rdU (rdU l 0 2147483648).2.2 (rdU l 0 2147483648).1 2147483648).2.2 (rdU (rdU l 0 2147483648).2.2 (rdU l 0 2147483648).1 2147483648).1 2147483648).1 2147483648).2.2 (rdU (rdU (rdU (rdU l 0 2147483648).2.2 (rdU l 0 2147483648).1 2147483648).2.2 (rdU (rdU l 0 2147483648).2.2 (rdU l 0 2147483648).1 2147483648).1 2147483648).2.2 (rdU (rdU (rdU l 0 2147483648).2.2 (rdU l 0 2147483648).1 2147483648).2.2 (rdU (rdU l 0 2147483648).2.2 (rdU l 0 2147483648).1 2147483648).1 2147483648).1 2147483648).1 2147483648).2.1 })
set_option maxRecDepth 100000 in
set_option maxHeartbeats 4000000 in
theorem xf7 (g : Nat) (l : List UInt8) (w : World) (h : XR w g l 0) (hsz : l.length ≤ 140737488355328) :
    Calls Try.prog 34 #[.pointer (some ⟨g, 0, none⟩), .int .i64 7] w fun x w' => ∃ idv, x = .returned (.agg #[.int .i64 7, idv, .int .i64 ((rch7 l).2.2.fr : Int), .int .i64 ((rch7 l).2.2.to : Int), .int .i64 ((rch7 l).2.2.ti : Int), .bool (rch7 l).2.2.so, .int .i64 ((rch7 l).2.2.ep : Int), .int .i64 ((rch7 l).2.2.ix : Int), .int .i64 ((rch7 l).2.2.li : Int), .slice none 0 0]) ∧ HBN w' g idv (rch7 l).2.2.id ∧ XR w' g (rch7 l).2.1 (rch7 l).1 ∧ Only g w w' := by
  have hg : g < w.heap.size := by obtain ⟨p, c, h1, _⟩ := h; exact h1.lt
  have bA := (Below.refl w.heap.size w).alloc (Nat.le_refl _) (.cells #[.int .i64 0, .slice none 0 0, .int .i64 0, .int .i64 0, .int .i64 0, .bool false, .int .i64 0, .int .i64 0, .int .i64 0, .slice none 0 0] 25)
  have aA : AB (w.alloc (.cells #[.int .i64 0, .slice none 0 0, .int .i64 0, .int .i64 0, .int .i64 0, .bool false, .int .i64 0, .int .i64 0, .int .i64 0, .slice none 0 0] 25)) w.heap.size zeroA := heap_alloc_new w _
  have sA : (w.alloc (.cells #[.int .i64 0, .slice none 0 0, .int .i64 0, .int .i64 0, .int .i64 0, .bool false, .int .i64 0, .int .i64 0, .int .i64 0, .slice none 0 0] 25)).heap.size = w.heap.size + 1 := World.size_alloc _ _
  have bB := bA.alloc bA.size (.cells #[.int .i64 7, .slice none 0 0, .int .i64 0, .int .i64 0, .int .i64 0, .bool false, .int .i64 0, .int .i64 0, .int .i64 0, .slice none 0 0] 25)
  have bB1 := (Below.refl _ (w.alloc (.cells #[.int .i64 0, .slice none 0 0, .int .i64 0, .int .i64 0, .int .i64 0, .bool false, .int .i64 0, .int .i64 0, .int .i64 0, .slice none 0 0] 25))).alloc (Nat.le_refl _) (.cells #[.int .i64 7, .slice none 0 0, .int .i64 0, .int .i64 0, .int .i64 0, .bool false, .int .i64 0, .int .i64 0, .int .i64 0, .slice none 0 0] 25)
  have aB : AB ((w.alloc (.cells #[.int .i64 0, .slice none 0 0, .int .i64 0, .int .i64 0, .int .i64 0, .bool false, .int .i64 0, .int .i64 0, .int .i64 0, .slice none 0 0] 25)).alloc (.cells #[.int .i64 7, .slice none 0 0, .int .i64 0, .int .i64 0, .int .i64 0, .bool false, .int .i64 0, .int .i64 0, .int .i64 0, .slice none 0 0] 25)) (w.heap.size + 1) #[.int .i64 7, .slice none 0 0, .int .i64 0, .int .i64 0, .int .i64 0, .bool false, .int .i64 0, .int .i64 0, .int .i64 0, .slice none 0 0] := by rw [← sA]; exact heap_alloc_new _ _
  have q0 : XS w g #[.int .i64 7, .slice none 0 0, .int .i64 0, .int .i64 0, .int .i64 0, .bool false, .int .i64 0, .int .i64 0, .int .i64 0, .slice none 0 0] l 0 ((w.alloc (.cells #[.int .i64 0, .slice none 0 0, .int .i64 0, .int .i64 0, .int .i64 0, .bool false, .int .i64 0, .int .i64 0, .int .i64 0, .slice none 0 0] 25)).alloc (.cells #[.int .i64 7, .slice none 0 0, .int .i64 0, .int .i64 0, .int .i64 0, .bool false, .int .i64 0, .int .i64 0, .int .i64 0, .slice none 0 0] 25)) := ⟨h.later bB, aA.later bB1, aB, Only.of_below bB (by omega)⟩
  clear bA aA sA bB bB1 aB h
  obtain ⟨w0, hw0⟩ : ∃ x, x = (w.alloc (.cells #[.int .i64 0, .slice none 0 0, .int .i64 0, .int .i64 0, .int .i64 0, .bool false, .int .i64 0, .int .i64 0, .int .i64 0, .slice none 0 0] 25)).alloc (.cells #[.int .i64 7, .slice none 0 0, .int .i64 0, .int .i64 0, .int .i64 0, .bool false, .int .i64 0, .int .i64 0, .int .i64 0, .slice none 0 0] 25) := ⟨_, rfl⟩
  rw [← hw0] at q0
  have HW : Hid (w0 = (w.alloc (.cells #[.int .i64 0, .slice none 0 0, .int .i64 0, .int .i64 0, .int .i64 0, .bool false, .int .i64 0, .int .i64 0, .int .i64 0, .slice none 0 0] 25)).alloc (.cells #[.int .i64 7, .slice none 0 0, .int .i64 0, .int .i64 0, .int .i64 0, .bool false, .int .i64 0, .int .i64 0, .int .i64 0, .slice none 0 0] 25)) := hw0
  have H1 := xuint_all g l 0 2147483648 w0 q0.1 (fun h => absurd rfl h) hsz
  obtain ⟨s1, hs1⟩ : ∃ s, Hid (s = rdU l 0 2147483648) := ⟨_, rfl⟩
  have he1 : s1.1 ≠ 0 → s1.2.2 = [] := by rw [hs1.out]; exact rdU_fellX l 0 2147483648 (fun h => absurd rfl h)
  have hl1 : s1.2.2.length ≤ l.length := by rw [hs1.out]; exact rdU_le l 0 2147483648
  rw [← hs1.out] at H1
  rw [hw0] at H1
  clear hw0
  go_enter Try.func34, Try.ntmps34
  go_wp2_with fail
  refine H1.mono ?_
  clear H1
  rintro x w1 ⟨rfl, hr1, ho1⟩
  rw [← HW.out] at ho1
  have q1b := q0.call hr1 ho1
  have c1 : w1.cell? ⟨w.heap.size + 1, 2, none⟩ = some (.int .i64 0) := q1b.2.2.1.cell rfl
  have f1 := q1b.2.2.1.free 2
  have q1 := q1b.put hg 2 (.int .i64 (s1.2.1 : Int))
  have H2 := xuint_all g s1.2.2 s1.1 2147483648 (w1.setCell ⟨w.heap.size + 1, 2, none⟩ (.int .i64 (s1.2.1 : Int))) q1.1 he1 (Nat.le_trans hl1 hsz)
  obtain ⟨s2, hs2⟩ : ∃ s, Hid (s = rdU s1.2.2 s1.1 2147483648) := ⟨_, rfl⟩
  have he2 : s2.1 ≠ 0 → s2.2.2 = [] := by rw [hs2.out]; exact rdU_fellX s1.2.2 s1.1 2147483648 he1
  have hl2 : s2.2.2.length ≤ l.length := by rw [hs2.out]; exact Nat.le_trans (rdU_le s1.2.2 s1.1 2147483648) hl1
  rw [← hs2.out] at H2
  go_wp2_with fail
  refine H2.mono ?_
  clear H2
  rintro x w2 ⟨rfl, hr2, ho2⟩
  have q2b := q1.call hr2 ho2
  have c2 : w2.cell? ⟨w.heap.size + 1, 3, none⟩ = some (.int .i64 0) := q2b.2.2.1.cell rfl
  have f2 := q2b.2.2.1.free 3
  have q2 := q2b.put hg 3 (.int .i64 (s2.2.1 : Int))
  have H3 := xuint_all g s2.2.2 s2.1 2147483648 (w2.setCell ⟨w.heap.size + 1, 3, none⟩ (.int .i64 (s2.2.1 : Int))) q2.1 he2 (Nat.le_trans hl2 hsz)
  obtain ⟨s3, hs3⟩ : ∃ s, Hid (s = rdU s2.2.2 s2.1 2147483648) := ⟨_, rfl⟩
  have he3 : s3.1 ≠ 0 → s3.2.2 = [] := by rw [hs3.out]; exact rdU_fellX s2.2.2 s2.1 2147483648 he2
  have hl3 : s3.2.2.length ≤ l.length := by rw [hs3.out]; exact Nat.le_trans (rdU_le s2.2.2 s2.1 2147483648) hl2
  rw [← hs3.out] at H3
  go_wp2_with fail
  refine H3.mono ?_
  clear H3
  rintro x w3 ⟨rfl, hr3, ho3⟩
  have q3b := q2.call hr3 ho3
  have c3 : w3.cell? ⟨w.heap.size + 1, 6, none⟩ = some (.int .i64 0) := q3b.2.2.1.cell rfl
  have f3 := q3b.2.2.1.free 6
  have q3 := q3b.put hg 6 (.int .i64 (s3.2.1 : Int))
  have H4 := xuint_all g s3.2.2 s3.1 2147483648 (w3.setCell ⟨w.heap.size + 1, 6, none⟩ (.int .i64 (s3.2.1 : Int))) q3.1 he3 (Nat.le_trans hl3 hsz)
  obtain ⟨s4, hs4⟩ : ∃ s, Hid (s = rdU s3.2.2 s3.1 2147483648) := ⟨_, rfl⟩
  have he4 : s4.1 ≠ 0 → s4.2.2 = [] := by rw [hs4.out]; exact rdU_fellX s3.2.2 s3.1 2147483648 he3
  have hl4 : s4.2.2.length ≤ l.length := by rw [hs4.out]; exact Nat.le_trans (rdU_le s3.2.2 s3.1 2147483648) hl3
  rw [← hs4.out] at H4
  go_wp2_with fail
  refine H4.mono ?_
  clear H4
  rintro x w4 ⟨rfl, hr4, ho4⟩
  have q4b := q3.call hr4 ho4
  have c4 : w4.cell? ⟨w.heap.size + 1, 7, none⟩ = some (.int .i64 0) := q4b.2.2.1.cell rfl
  have f4 := q4b.2.2.1.free 7
  have q4 := q4b.put hg 7 (.int .i64 (s4.2.1 : Int))
  have H5 := xuint_all g s4.2.2 s4.1 2147483648 (w4.setCell ⟨w.heap.size + 1, 7, none⟩ (.int .i64 (s4.2.1 : Int))) q4.1 he4 (Nat.le_trans hl4 hsz)
  obtain ⟨s5, hs5⟩ : ∃ s, Hid (s = rdU s4.2.2 s4.1 2147483648) := ⟨_, rfl⟩
  have he5 : s5.1 ≠ 0 → s5.2.2 = [] := by rw [hs5.out]; exact rdU_fellX s4.2.2 s4.1 2147483648 he4
  have hl5 : s5.2.2.length ≤ l.length := by rw [hs5.out]; exact Nat.le_trans (rdU_le s4.2.2 s4.1 2147483648) hl4
  rw [← hs5.out] at H5
  go_wp2_with fail
  refine H5.mono ?_
  clear H5
  rintro x w5 ⟨rfl, hr5, ho5⟩
  have q5b := q4.call hr5 ho5
  have c5 : w5.cell? ⟨w.heap.size + 1, 8, none⟩ = some (.int .i64 0) := q5b.2.2.1.cell rfl
  have f5 := q5b.2.2.1.free 8
  have q5 := q5b.put hg 8 (.int .i64 (s5.2.1 : Int))
  have aF : AB (w5.setCell ⟨w.heap.size + 1, 8, none⟩ (.int .i64 (s5.2.1 : Int))) (w.heap.size + 1) #[.int .i64 7, .slice none 0 0, .int .i64 (s1.2.1 : Int), .int .i64 (s2.2.1 : Int), .int .i64 0, .bool false, .int .i64 (s3.2.1 : Int), .int .i64 (s4.2.1 : Int), .int .i64 (s5.2.1 : Int), .slice none 0 0] := q5.2.2.1
  have zF : AB (w5.setCell ⟨w.heap.size + 1, 8, none⟩ (.int .i64 (s5.2.1 : Int))) w.heap.size zeroA := q5.2.1
  obtain ⟨y0, y1, y2, y3, y4, y5, y6, y7, y8, y9⟩ := ask_cells aF
  obtain ⟨x0, x1, x2, x3, x4, x5, x6, x7, x8, x9⟩ := ask_cells zF
  have fz := fun i => zF.free i
  clear c1 f1
  clear c2 f2
  clear c3 f3
  clear c4 f4
  clear aF HW
  have er : rch7 l = (s5.1, s5.2.2, { AP0 with fr := s1.2.1, to := s2.2.1, ep := s3.2.1, ix := s4.2.1, li := s5.2.1 }) := by
    unfold rch7
    rw [hs5.out, hs4.out, hs3.out, hs2.out, hs1.out]
  have er2 : Hid _ := er
  clear er
  go_wp2
  refine bodyPost_ret (v := .agg #[.int .i64 7, .slice none 0 0, .int .i64 (s1.2.1 : Int), .int .i64 (s2.2.1 : Int), .int .i64 0, .bool false, .int .i64 (s3.2.1 : Int), .int .i64 (s4.2.1 : Int), .int .i64 (s5.2.1 : Int), .slice none 0 0]) ?_ rfl ?_
  · simp only [results, Try.results34]
    go_simp
  · have fin := filled (w0 := w) (.int .i64 7) (.slice none 0 0) (.int .i64 (s1.2.1 : Int)) (.int .i64 (s2.2.1 : Int)) (.int .i64 0) (.bool false) (.int .i64 (s3.2.1 : Int)) (.int .i64 (s4.2.1 : Int)) (.int .i64 (s5.2.1 : Int)) (.slice none 0 0) q5.1 zF q5.2.2.2 (HBN.nil _ g) (by omega) (Nat.le_refl _)
    rw [er2.out]
    exact ⟨_, rfl, fin.2.2, fin.1, fin.2.1⟩

def rch8 (l : List UInt8) : Int × List UInt8 × AP := (0, l, AP0)
set_option maxRecDepth 100000 in
set_option maxHeartbeats 4000000 in
theorem xf8 (g : Nat) (l : List UInt8) (w : World) (h : XR w g l 0) (_hsz : l.length ≤ 140737488355328) :
    Calls Try.prog 34 #[.pointer (some ⟨g, 0, none⟩), .int .i64 8] w fun x w' => ∃ idv, x = .returned (.agg #[.int .i64 8, idv, .int .i64 ((rch8 l).2.2.fr : Int), .int .i64 ((rch8 l).2.2.to : Int), .int .i64 ((rch8 l).2.2.ti : Int), .bool (rch8 l).2.2.so, .int .i64 ((rch8 l).2.2.ep : Int), .int .i64 ((rch8 l).2.2.ix : Int), .int .i64 ((rch8 l).2.2.li : Int), .slice none 0 0]) ∧ HBN w' g idv (rch8 l).2.2.id ∧ XR w' g (rch8 l).2.1 (rch8 l).1 ∧ Only g w w' := by
  have hg : g < w.heap.size := by obtain ⟨p, c, h1, _⟩ := h; exact h1.lt
  have bA := (Below.refl w.heap.size w).alloc (Nat.le_refl _) (.cells #[.int .i64 0, .slice none 0 0, .int .i64 0, .int .i64 0, .int .i64 0, .bool false, .int .i64 0, .int .i64 0, .int .i64 0, .slice none 0 0] 25)
  have aA : AB (w.alloc (.cells #[.int .i64 0, .slice none 0 0, .int .i64 0, .int .i64 0, .int .i64 0, .bool false, .int .i64 0, .int .i64 0, .int .i64 0, .slice none 0 0] 25)) w.heap.size zeroA := heap_alloc_new w _
  have sA : (w.alloc (.cells #[.int .i64 0, .slice none 0 0, .int .i64 0, .int .i64 0, .int .i64 0, .bool false, .int .i64 0, .int .i64 0, .int .i64 0, .slice none 0 0] 25)).heap.size = w.heap.size + 1 := World.size_alloc _ _
  have bB := bA.alloc bA.size (.cells #[.int .i64 8, .slice none 0 0, .int .i64 0, .int .i64 0, .int .i64 0, .bool false, .int .i64 0, .int .i64 0, .int .i64 0, .slice none 0 0] 25)
  have bB1 := (Below.refl _ (w.alloc (.cells #[.int .i64 0, .slice none 0 0, .int .i64 0, .int .i64 0, .int .i64 0, .bool false, .int .i64 0, .int .i64 0, .int .i64 0, .slice none 0 0] 25))).alloc (Nat.le_refl _) (.cells #[.int .i64 8, .slice none 0 0, .int .i64 0, .int .i64 0, .int .i64 0, .bool false, .int .i64 0, .int .i64 0, .int .i64 0, .slice none 0 0] 25)
  have aB : AB ((w.alloc (.cells #[.int .i64 0, .slice none 0 0, .int .i64 0, .int .i64 0, .int .i64 0, .bool false, .int .i64 0, .int .i64 0, .int .i64 0, .slice none 0 0] 25)).alloc (.cells #[.int .i64 8, .slice none 0 0, .int .i64 0, .int .i64 0, .int .i64 0, .bool false, .int .i64 0, .int .i64 0, .int .i64 0, .slice none 0 0] 25)) (w.heap.size + 1) #[.int .i64 8, .slice none 0 0, .int .i64 0, .int .i64 0, .int .i64 0, .bool false, .int .i64 0, .int .i64 0, .int .i64 0, .slice none 0 0] := by rw [← sA]; exact heap_alloc_new _ _
  have q0 : XS w g #[.int .i64 8, .slice none 0 0, .int .i64 0, .int .i64 0, .int .i64 0, .bool false, .int .i64 0, .int .i64 0, .int .i64 0, .slice none 0 0] l 0 ((w.alloc (.cells #[.int .i64 0, .slice none 0 0, .int .i64 0, .int .i64 0, .int .i64 0, .bool false, .int .i64 0, .int .i64 0, .int .i64 0, .slice none 0 0] 25)).alloc (.cells #[.int .i64 8, .slice none 0 0, .int .i64 0, .int .i64 0, .int .i64 0, .bool false, .int .i64 0, .int .i64 0, .int .i64 0, .slice none 0 0] 25)) := ⟨h.later bB, aA.later bB1, aB, Only.of_below bB (by omega)⟩
  clear bA aA sA bB bB1 aB h
  obtain ⟨w0, hw0⟩ : ∃ x, x = (w.alloc (.cells #[.int .i64 0, .slice none 0 0, .int .i64 0, .int .i64 0, .int .i64 0, .bool false, .int .i64 0, .int .i64 0, .int .i64 0, .slice none 0 0] 25)).alloc (.cells #[.int .i64 8, .slice none 0 0, .int .i64 0, .int .i64 0, .int .i64 0, .bool false, .int .i64 0, .int .i64 0, .int .i64 0, .slice none 0 0] 25) := ⟨_, rfl⟩
  rw [← hw0] at q0
  have HW : Hid (w0 = (w.alloc (.cells #[.int .i64 0, .slice none 0 0, .int .i64 0, .int .i64 0, .int .i64 0, .bool false, .int .i64 0, .int .i64 0, .int .i64 0, .slice none 0 0] 25)).alloc (.cells #[.int .i64 8, .slice none 0 0, .int .i64 0, .int .i64 0, .int .i64 0, .bool false, .int .i64 0, .int .i64 0, .int .i64 0, .slice none 0 0] 25)) := hw0
  clear hw0
  have aF := q0.2.2.1
  have zF := q0.2.1
  go_enter Try.func34, Try.ntmps34
  obtain ⟨y0, y1, y2, y3, y4, y5, y6, y7, y8, y9⟩ := ask_cells aF
  obtain ⟨x0, x1, x2, x3, x4, x5, x6, x7, x8, x9⟩ := ask_cells zF
  have fz := fun i => zF.free i
  clear aF 
  have er : rch8 l = (0, l, AP0) := by
    unfold rch8
    rfl
  have er2 : Hid _ := er
  clear er
  go_wp2_with (rw [← HW.out])
  refine bodyPost_ret (v := .agg #[.int .i64 8, .slice none 0 0, .int .i64 0, .int .i64 0, .int .i64 0, .bool false, .int .i64 0, .int .i64 0, .int .i64 0, .slice none 0 0]) ?_ rfl ?_
  · simp only [results, Try.results34]
    go_simp
  · have fin := filled (w0 := w) (.int .i64 8) (.slice none 0 0) (.int .i64 0) (.int .i64 0) (.int .i64 0) (.bool false) (.int .i64 0) (.int .i64 0) (.int .i64 0) (.slice none 0 0) q0.1 zF q0.2.2.2 (HBN.nil _ g) (by omega) (Nat.le_refl _)
    rw [er2.out]
    exact ⟨_, rfl, fin.2.2, fin.1, fin.2.1⟩

def rch9 (l : List UInt8) : Int × List UInt8 × AP := (0, l, AP0)
set_option maxRecDepth 100000 in
set_option maxHeartbeats 4000000 in
theorem xf9 (g : Nat) (l : List UInt8) (w : World) (h : XR w g l 0) (_hsz : l.length ≤ 140737488355328) :
    Calls Try.prog 34 #[.pointer (some ⟨g, 0, none⟩), .int .i64 9] w fun x w' => ∃ idv, x = .returned (.agg #[.int .i64 9, idv, .int .i64 ((rch9 l).2.2.fr : Int), .int .i64 ((rch9 l).2.2.to : Int), .int .i64 ((rch9 l).2.2.ti : Int), .bool (rch9 l).2.2.so, .int .i64 ((rch9 l).2.2.ep : Int), .int .i64 ((rch9 l).2.2.ix : Int), .int .i64 ((rch9 l).2.2.li : Int), .slice none 0 0]) ∧ HBN w' g idv (rch9 l).2.2.id ∧ XR w' g (rch9 l).2.1 (rch9 l).1 ∧ Only g w w' := by
  have hg : g < w.heap.size := by obtain ⟨p, c, h1, _⟩ := h; exact h1.lt
  have bA := (Below.refl w.heap.size w).alloc (Nat.le_refl _) (.cells #[.int .i64 0, .slice none 0 0, .int .i64 0, .int .i64 0, .int .i64 0, .bool false, .int .i64 0, .int .i64 0, .int .i64 0, .slice none 0 0] 25)
  have aA : AB (w.alloc (.cells #[.int .i64 0, .slice none 0 0, .int .i64 0, .int .i64 0, .int .i64 0, .bool false, .int .i64 0, .int .i64 0, .int .i64 0, .slice none 0 0] 25)) w.heap.size zeroA := heap_alloc_new w _
  have sA : (w.alloc (.cells #[.int .i64 0, .slice none 0 0, .int .i64 0, .int .i64 0, .int .i64 0, .bool false, .int .i64 0, .int .i64 0, .int .i64 0, .slice none 0 0] 25)).heap.size = w.heap.size + 1 := World.size_alloc _ _
  have bB := bA.alloc bA.size (.cells #[.int .i64 9, .slice none 0 0, .int .i64 0, .int .i64 0, .int .i64 0, .bool false, .int .i64 0, .int .i64 0, .int .i64 0, .slice none 0 0] 25)
  have bB1 := (Below.refl _ (w.alloc (.cells #[.int .i64 0, .slice none 0 0, .int .i64 0, .int .i64 0, .int .i64 0, .bool false, .int .i64 0, .int .i64 0, .int .i64 0, .slice none 0 0] 25))).alloc (Nat.le_refl _) (.cells #[.int .i64 9, .slice none 0 0, .int .i64 0, .int .i64 0, .int .i64 0, .bool false, .int .i64 0, .int .i64 0, .int .i64 0, .slice none 0 0] 25)
  have aB : AB ((w.alloc (.cells #[.int .i64 0, .slice none 0 0, .int .i64 0, .int .i64 0, .int .i64 0, .bool false, .int .i64 0, .int .i64 0, .int .i64 0, .slice none 0 0] 25)).alloc (.cells #[.int .i64 9, .slice none 0 0, .int .i64 0, .int .i64 0, .int .i64 0, .bool false, .int .i64 0, .int .i64 0, .int .i64 0, .slice none 0 0] 25)) (w.heap.size + 1) #[.int .i64 9, .slice none 0 0, .int .i64 0, .int .i64 0, .int .i64 0, .bool false, .int .i64 0, .int .i64 0, .int .i64 0, .slice none 0 0] := by rw [← sA]; exact heap_alloc_new _ _
  have q0 : XS w g #[.int .i64 9, .slice none 0 0, .int .i64 0, .int .i64 0, .int .i64 0, .bool false, .int .i64 0, .int .i64 0, .int .i64 0, .slice none 0 0] l 0 ((w.alloc (.cells #[.int .i64 0, .slice none 0 0, .int .i64 0, .int .i64 0, .int .i64 0, .bool false, .int .i64 0, .int .i64 0, .int .i64 0, .slice none 0 0] 25)).alloc (.cells #[.int .i64 9, .slice none 0 0, .int .i64 0, .int .i64 0, .int .i64 0, .bool false, .int .i64 0, .int .i64 0, .int .i64 0, .slice none 0 0] 25)) := ⟨h.later bB, aA.later bB1, aB, Only.of_below bB (by omega)⟩
  clear bA aA sA bB bB1 aB h
  obtain ⟨w0, hw0⟩ : ∃ x, x = (w.alloc (.cells #[.int .i64 0, .slice none 0 0, .int .i64 0, .int .i64 0, .int .i64 0, .bool false, .int .i64 0, .int .i64 0, .int .i64 0, .slice none 0 0] 25)).alloc (.cells #[.int .i64 9, .slice none 0 0, .int .i64 0, .int .i64 0, .int .i64 0, .bool false, .int .i64 0, .int .i64 0, .int .i64 0, .slice none 0 0] 25) := ⟨_, rfl⟩
  rw [← hw0] at q0
  have HW : Hid (w0 = (w.alloc (.cells #[.int .i64 0, .slice none 0 0, .int .i64 0, .int .i64 0, .int .i64 0, .bool false, .int .i64 0, .int .i64 0, .int .i64 0, .slice none 0 0] 25)).alloc (.cells #[.int .i64 9, .slice none 0 0, .int .i64 0, .int .i64 0, .int .i64 0, .bool false, .int .i64 0, .int .i64 0, .int .i64 0, .slice none 0 0] 25)) := hw0
  clear hw0
  have aF := q0.2.2.1
  have zF := q0.2.1
  go_enter Try.func34, Try.ntmps34
  obtain ⟨y0, y1, y2, y3, y4, y5, y6, y7, y8, y9⟩ := ask_cells aF
  obtain ⟨x0, x1, x2, x3, x4, x5, x6, x7, x8, x9⟩ := ask_cells zF
  have fz := fun i => zF.free i
  clear aF 
  have er : rch9 l = (0, l, AP0) := by
    unfold rch9
    rfl
  have er2 : Hid _ := er
  clear er
  go_wp2_with (rw [← HW.out])
  refine bodyPost_ret (v := .agg #[.int .i64 9, .slice none 0 0, .int .i64 0, .int .i64 0, .int .i64 0, .bool false, .int .i64 0, .int .i64 0, .int .i64 0, .slice none 0 0]) ?_ rfl ?_
  · simp only [results, Try.results34]
    go_simp
  · have fin := filled (w0 := w) (.int .i64 9) (.slice none 0 0) (.int .i64 0) (.int .i64 0) (.int .i64 0) (.bool false) (.int .i64 0) (.int .i64 0) (.int .i64 0) (.slice none 0 0) q0.1 zF q0.2.2.2 (HBN.nil _ g) (by omega) (Nat.le_refl _)
    rw [er2.out]
    exact ⟨_, rfl, fin.2.2, fin.1, fin.2.1⟩

def rch10 (l : List UInt8) : Int × List UInt8 × AP := ((rdU (rdU (rdU (rdB l 0 24).2.2 (rdB l 0 24).1 2147483648).2.2 (rdU (rdB l 0 24).2.2 (rdB l 0 24).1 2147483648).1 2147483648).2.2 (rdU (rdU (rdB l 0 24).2.2 (rdB l 0 24).1 2147483648).2.2 (rdU (rdB l 0 24).2.2 (rdB l 0 24).1 2147483648).1 2147483648).1 2147483648).1, (rdU (rdU (rdU (rdB l 0 24).2.2 (rdB l 0 24).1 2147483648).2.2 (rdU (rdB l 0 24).2.2 (rdB l 0 24).1 2147483648).1 2147483648).2.2 (rdU (rdU (rdB l 0 24).2.2 (rdB l 0 24).1 2147483648).2.2 (rdU (rdB l 0 24).2.2 (rdB l 0 24).1 2147483648).1 2147483648).1 2147483648).2.2, { AP0 with id := (rdB l 0 24).2.1, fr := (rdU (rdB l 0 24).2.2 (rdB l 0 24).1 2147483648).2.1, to := (rdU (rdU (rdB l 0 24).2.2 (rdB l 0 24).1 2147483648).2.2 (rdU (rdB l 0 24).2.2 (rdB l 0 24).1 2147483648).1 2147483648).2.1, li := (rdU (rdU (rdU (rdB l 0 24).2.2 (rdB l 0 24).1 2147483648).2.2 (rdU (rdB l 0 24).2.2 (rdB l 0 24).1 2147483648).1 2147483648).2.2 (rdU (rdU (rdB l 0 24).2.2 (rdB l 0 24).1 2147483648).2.2 (rdU (rdB l 0 24).2.2 (rdB l 0 24).1 2147483648).1 2147483648).1 2147483648).2.1 })
set_option maxRecDepth 100000 in
set_option maxHeartbeats 4000000 in
theorem xf10 (g : Nat) (l : List UInt8) (w : World) (h : XR w g l 0) (hsz : l.length ≤ 140737488355328) :
    Calls Try.prog 34 #[.pointer (some ⟨g, 0, none⟩), .int .i64 10] w fun x w' => ∃ idv, x = .returned (.agg #[.int .i64 10, idv, .int .i64 ((rch10 l).2.2.fr : Int), .int .i64 ((rch10 l).2.2.to : Int), .int .i64 ((rch10 l).2.2.ti : Int), .bool (rch10 l).2.2.so, .int .i64 ((rch10 l).2.2.ep : Int), .int .i64 ((rch10 l).2.2.ix : Int), .int .i64 ((rch10 l).2.2.li : Int), .slice none 0 0]) ∧ HBN w' g idv (rch10 l).2.2.id ∧ XR w' g (rch10 l).2.1 (rch10 l).1 ∧ Only g w w' := by
  have hg : g < w.heap.size := by obtain ⟨p, c, h1, _⟩ := h; exact h1.lt
  have bA := (Below.refl w.heap.size w).alloc (Nat.le_refl _) (.cells #[.int .i64 0, .slice none 0 0, .int .i64 0, .int .i64 0, .int .i64 0, .bool false, .int .i64 0, .int .i64 0, .int .i64 0, .slice none 0 0] 25)
  have aA : AB (w.alloc (.cells #[.int .i64 0, .slice none 0 0, .int .i64 0, .int .i64 0, .int .i64 0, .bool false, .int .i64 0, .int .i64 0, .int .i64 0, .slice none 0 0] 25)) w.heap.size zeroA := heap_alloc_new w _
  have sA : (w.alloc (.cells #[.int .i64 0, .slice none 0 0, .int .i64 0, .int .i64 0, .int .i64 0, .bool false, .int .i64 0, .int .i64 0, .int .i64 0, .slice none 0 0] 25)).heap.size = w.heap.size + 1 := World.size_alloc _ _
  have bB := bA.alloc bA.size (.cells #[.int .i64 10, .slice none 0 0, .int .i64 0, .int .i64 0, .int .i64 0, .bool false, .int .i64 0, .int .i64 0, .int .i64 0, .slice none 0 0] 25)
  have bB1 := (Below.refl _ (w.alloc (.cells #[.int .i64 0, .slice none 0 0, .int .i64 0, .int .i64 0, .int .i64 0, .bool false, .int .i64 0, .int .i64 0, .int .i64 0, .slice none 0 0] 25))).alloc (Nat.le_refl _) (.cells #[.int .i64 10, .slice none 0 0, .int .i64 0, .int .i64 0, .int .i64 0, .bool false, .int .i64 0, .int .i64 0, .int .i64 0, .slice none 0 0] 25)
  have aB : AB ((w.alloc (.cells #[.int .i64 0, .slice none 0 0, .int .i64 0, .int .i64 0, .int .i64 0, .bool false, .int .i64 0, .int .i64 0, .int .i64 0, .slice none 0 0] 25)).alloc (.cells #[.int .i64 10, .slice none 0 0, .int .i64 0, .int .i64 0, .int .i64 0, .bool false, .int .i64 0, .int .i64 0, .int .i64 0, .slice none 0 0] 25)) (w.heap.size + 1) #[.int .i64 10, .slice none 0 0, .int .i64 0, .int .i64 0, .int .i64 0, .bool false, .int .i64 0, .int .i64 0, .int .i64 0, .slice none 0 0] := by rw [← sA]; exact heap_alloc_new _ _
  have q0 : XS w g #[.int .i64 10, .slice none 0 0, .int .i64 0, .int .i64 0, .int .i64 0, .bool false, .int .i64 0, .int .i64 0, .int .i64 0, .slice none 0 0] l 0 ((w.alloc (.cells #[.int .i64 0, .slice none 0 0, .int .i64 0, .int .i64 0, .int .i64 0, .bool false, .int .i64 0, .int .i64 0, .int .i64 0, .slice none 0 0] 25)).alloc (.cells #[.int .i64 10, .slice none 0 0, .int .i64 0, .int .i64 0, .int .i64 0, .bool false, .int .i64 0, .int .i64 0, .int .i64 0, .slice none 0 0] 25)) := ⟨h.later bB, aA.later bB1, aB, Only.of_below bB (by omega)⟩
  clear bA aA sA bB bB1 aB h
  obtain ⟨w0, hw0⟩ : ∃ x, x = (w.alloc (.cells #[.int .i64 0, .slice none 0 0, .int .i64 0, .int .i64 0, .int .i64 0, .bool false, .int .i64 0, .int .i64 0, .int .i64 0, .slice none 0 0] 25)).alloc (.cells #[.int .i64 10, .slice none 0 0, .int .i64 0, .int .i64 0, .int .i64 0, .bool false, .int .i64 0, .int .i64 0, .int .i64 0, .slice none 0 0] 25) := ⟨_, rfl⟩
  rw [← hw0] at q0
  have HW : Hid (w0 = (w.alloc (.cells #[.int .i64 0, .slice none 0 0, .int .i64 0, .int .i64 0, .int .i64 0, .bool false, .int .i64 0, .int .i64 0, .int .i64 0, .slice none 0 0] 25)).alloc (.cells #[.int .i64 10, .slice none 0 0, .int .i64 0, .int .i64 0, .int .i64 0, .bool false, .int .i64 0, .int .i64 0, .int .i64 0, .slice none 0 0] 25)) := hw0
  have H1 := xbytes_all g l 0 24 w0 q0.1 (fun h => absurd rfl h) hsz
  obtain ⟨s1, hs1⟩ : ∃ s, Hid (s = rdB l 0 24) := ⟨_, rfl⟩
  have he1 : s1.1 ≠ 0 → s1.2.2 = [] := by rw [hs1.out]; exact rdB_fell l 0 24 (fun h => absurd rfl h)
  have hl1 : s1.2.2.length ≤ l.length := by rw [hs1.out]; exact rdB_le l 0 24
  rw [← hs1.out] at H1
  rw [hw0] at H1
  clear hw0
  go_enter Try.func34, Try.ntmps34
  go_wp2_with fail
  refine H1.mono ?_
  clear H1
  rintro x w1 ⟨v1, rfl, pt, ct, rfl, hn1, hr1, ho1⟩
  rw [← HW.out] at ho1
  have q1b := q0.call hr1 ho1
  have c1 : w1.cell? ⟨w.heap.size + 1, 1, none⟩ = some (.slice none 0 0) := q1b.2.2.1.cell rfl
  have f1 := q1b.2.2.1.free 1
  have q1 := q1b.put hg 1 (.slice pt s1.2.1.length ct)
  have m1 := hn1.tk (TK.of_only ((Only.refl (w.heap.size + 1) w1).setCell 1 (.slice pt s1.2.1.length ct)) q1b.2.2.1) (by decide)
  have H2 := xuint_all g s1.2.2 s1.1 2147483648 (w1.setCell ⟨w.heap.size + 1, 1, none⟩ (.slice pt s1.2.1.length ct)) q1.1 he1 (Nat.le_trans hl1 hsz)
  obtain ⟨s2, hs2⟩ : ∃ s, Hid (s = rdU s1.2.2 s1.1 2147483648) := ⟨_, rfl⟩
  have he2 : s2.1 ≠ 0 → s2.2.2 = [] := by rw [hs2.out]; exact rdU_fellX s1.2.2 s1.1 2147483648 he1
  have hl2 : s2.2.2.length ≤ l.length := by rw [hs2.out]; exact Nat.le_trans (rdU_le s1.2.2 s1.1 2147483648) hl1
  rw [← hs2.out] at H2
  go_wp2_with fail
  refine H2.mono ?_
  clear H2
  rintro x w2 ⟨rfl, hr2, ho2⟩
  have q2b := q1.call hr2 ho2
  have c2 : w2.cell? ⟨w.heap.size + 1, 2, none⟩ = some (.int .i64 0) := q2b.2.2.1.cell rfl
  have f2 := q2b.2.2.1.free 2
  have q2 := q2b.put hg 2 (.int .i64 (s2.2.1 : Int))
  have m2b := hbn_xr m1 q1.1 ho2
  have m2 := m2b.tk (TK.of_only ((Only.refl (w.heap.size + 1) w2).setCell 2 (.int .i64 (s2.2.1 : Int))) q2b.2.2.1) (by decide)
  have H3 := xuint_all g s2.2.2 s2.1 2147483648 (w2.setCell ⟨w.heap.size + 1, 2, none⟩ (.int .i64 (s2.2.1 : Int))) q2.1 he2 (Nat.le_trans hl2 hsz)
  obtain ⟨s3, hs3⟩ : ∃ s, Hid (s = rdU s2.2.2 s2.1 2147483648) := ⟨_, rfl⟩
  have he3 : s3.1 ≠ 0 → s3.2.2 = [] := by rw [hs3.out]; exact rdU_fellX s2.2.2 s2.1 2147483648 he2
  have hl3 : s3.2.2.length ≤ l.length := by rw [hs3.out]; exact Nat.le_trans (rdU_le s2.2.2 s2.1 2147483648) hl2
  rw [← hs3.out] at H3
  go_wp2_with fail
  refine H3.mono ?_
  clear H3
  rintro x w3 ⟨rfl, hr3, ho3⟩
  have q3b := q2.call hr3 ho3
  have c3 : w3.cell? ⟨w.heap.size + 1, 3, none⟩ = some (.int .i64 0) := q3b.2.2.1.cell rfl
  have f3 := q3b.2.2.1.free 3
  have q3 := q3b.put hg 3 (.int .i64 (s3.2.1 : Int))
  have m3b := hbn_xr m2 q2.1 ho3
  have m3 := m3b.tk (TK.of_only ((Only.refl (w.heap.size + 1) w3).setCell 3 (.int .i64 (s3.2.1 : Int))) q3b.2.2.1) (by decide)
  have H4 := xuint_all g s3.2.2 s3.1 2147483648 (w3.setCell ⟨w.heap.size + 1, 3, none⟩ (.int .i64 (s3.2.1 : Int))) q3.1 he3 (Nat.le_trans hl3 hsz)
  obtain ⟨s4, hs4⟩ : ∃ s, Hid (s = rdU s3.2.2 s3.1 2147483648) := ⟨_, rfl⟩
  have he4 : s4.1 ≠ 0 → s4.2.2 = [] := by rw [hs4.out]; exact rdU_fellX s3.2.2 s3.1 2147483648 he3
  have hl4 : s4.2.2.length ≤ l.length := by rw [hs4.out]; exact Nat.le_trans (rdU_le s3.2.2 s3.1 2147483648) hl3
  rw [← hs4.out] at H4
  go_wp2_with fail
  refine H4.mono ?_
  clear H4
  rintro x w4 ⟨rfl, hr4, ho4⟩
  have q4b := q3.call hr4 ho4
  have c4 : w4.cell? ⟨w.heap.size + 1, 8, none⟩ = some (.int .i64 0) := q4b.2.2.1.cell rfl
  have f4 := q4b.2.2.1.free 8
  have q4 := q4b.put hg 8 (.int .i64 (s4.2.1 : Int))
  have m4b := hbn_xr m3 q3.1 ho4
  have m4 := m4b.tk (TK.of_only ((Only.refl (w.heap.size + 1) w4).setCell 8 (.int .i64 (s4.2.1 : Int))) q4b.2.2.1) (by decide)
  have aF : AB (w4.setCell ⟨w.heap.size + 1, 8, none⟩ (.int .i64 (s4.2.1 : Int))) (w.heap.size + 1) #[.int .i64 10, .slice pt s1.2.1.length ct, .int .i64 (s2.2.1 : Int), .int .i64 (s3.2.1 : Int), .int .i64 0, .bool false, .int .i64 0, .int .i64 0, .int .i64 (s4.2.1 : Int), .slice none 0 0] := q4.2.2.1
  have zF : AB (w4.setCell ⟨w.heap.size + 1, 8, none⟩ (.int .i64 (s4.2.1 : Int))) w.heap.size zeroA := q4.2.1
  obtain ⟨y0, y1, y2, y3, y4, y5, y6, y7, y8, y9⟩ := ask_cells aF
  obtain ⟨x0, x1, x2, x3, x4, x5, x6, x7, x8, x9⟩ := ask_cells zF
  have fz := fun i => zF.free i
  clear c1 f1
  clear c2 f2
  clear c3 f3
  clear aF HW
  have er : rch10 l = (s4.1, s4.2.2, { AP0 with id := s1.2.1, fr := s2.2.1, to := s3.2.1, li := s4.2.1 }) := by
    unfold rch10
    rw [hs4.out, hs3.out, hs2.out, hs1.out]
  have er2 : Hid _ := er
  clear er
  go_wp2
  refine bodyPost_ret (v := .agg #[.int .i64 10, .slice pt s1.2.1.length ct, .int .i64 (s2.2.1 : Int), .int .i64 (s3.2.1 : Int), .int .i64 0, .bool false, .int .i64 0, .int .i64 0, .int .i64 (s4.2.1 : Int), .slice none 0 0]) ?_ rfl ?_
  · simp only [results, Try.results34]
    go_simp
  · have fin := filled (w0 := w) (.int .i64 10) (.slice pt s1.2.1.length ct) (.int .i64 (s2.2.1 : Int)) (.int .i64 (s3.2.1 : Int)) (.int .i64 0) (.bool false) (.int .i64 0) (.int .i64 0) (.int .i64 (s4.2.1 : Int)) (.slice none 0 0) q4.1 zF q4.2.2.2 m4 (by omega) (Nat.le_refl _)
    rw [er2.out]
    exact ⟨_, rfl, fin.2.2, fin.1, fin.2.1⟩

end Go.Proofs.Ythkgbgkijdeaoaa
