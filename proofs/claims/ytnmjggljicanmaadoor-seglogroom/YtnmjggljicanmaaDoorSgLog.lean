/- What this text proves: the walk of seglog's Append over this program, with the records that the log has (the device lives). -/
import Derived.Test.YtnmjggljicanmaaDoorSgAppend
namespace Go.Proofs.YtnmjggljicanmaaDoor
open Go.RowKit

/-- The slice lies in a block of bytes. -/
def BY (w : World) (u : Value) : Prop := ∀ a n c, u = .slice (some a) n c → ∃ cur fr, w.heap[a.block]? = some (.cells cur 5 fr)

theorem HB.sty {w w' : World} {u : Value} {l : List UInt8} (h : HB w u l) (hb : BY w u) (hs : Sty 5 w w') : HB w' u l ∧ BY w' u := by
  obtain ⟨p, c, rfl⟩ := h.shape
  constructor
  · have hl := h.len
    refine ⟨p, c, rfl, hl.2.1, hl.2.2.1, hl.2.2.2, fun hn => ?_⟩
    obtain ⟨b, o, rfl, hc⟩ := h.addr (List.length_pos_iff.2 hn)
    obtain ⟨cur, fr, hg⟩ := hb _ _ _ rfl
    refine ⟨b, o, rfl, fun i x hx => ?_⟩
    have := hc i x hx
    rw [World.cell?_of_block ((hs b cur fr hg).trans hg.symm)]
    exact this
  · intro a n' c' e
    obtain ⟨cur, fr, hg⟩ := hb a n' c' e
    exact ⟨cur, fr, hs _ _ _ hg⟩

theorem own_by {w : World} {base n m : Nat} {v : Value} {xs : List Value} (h : w.ownsRow base 5 m v n xs) : BY w v := by
  intro a k c e
  rcases h.2 with ⟨rfl, _⟩ | ⟨g, cap, cur, rfl, _, hg, _⟩
  · cases e
  · simp only [Value.slice.injEq, Option.some.injEq] at e
    obtain ⟨rfl, _⟩ := e
    exact ⟨cur, _, hg⟩

/-- A row of rows of bytes that the call owns. -/
def RB (w : World) (base : Nat) (v : Value) (ls : List (List UInt8)) : Prop :=
  ∃ vs : List Value, w.ownsRow base 31 1 v ls.length vs ∧ ∀ (j : Nat) u l, vs[j]? = some u → ls[j]? = some l → HB w u l ∧ BY w u

theorem RB.nil (w : World) (base : Nat) : RB w base (.slice none 0 0) [] := ⟨[], World.ownsRow_nil _ _ _ _, fun j u l h => by simp at h⟩
theorem RB.keep {w w' : World} {base : Nat} {v : Value} {ls : List (List UInt8)} (h : RB w base v ls) (hs : Sty 5 w w') (ho : ∀ b, v.ownBlock = some b → w'.heap[b]? = w.heap[b]?) : RB w' base v ls := by
  obtain ⟨vs, h1, h2⟩ := h
  exact ⟨vs, owns_same h1 ho, fun j u l hu hl => (h2 j u l hu hl).1.sty (h2 j u l hu hl).2 hs⟩
theorem RB.later {w w' : World} {base : Nat} {v : Value} {ls : List (List UInt8)} (h : RB w base v ls) (hb : Below w.heap.size w w') : RB w' base v ls := by
  obtain ⟨vs, h1, h2⟩ := h
  exact RB.keep ⟨vs, h1, h2⟩ (Sty.of_below hb) (fun b e => hb.block b (own_lt h1 b e))
theorem RB.pa {w : World} {base : Nat} {v : Value} {ls : List (List UInt8)} (h : RB w base v ls) : PA w v ls := by
  obtain ⟨vs, h1, h2⟩ := h
  have hl := h1.1
  rw [Nat.mul_one] at hl
  obtain ⟨_, q⟩ := h1
  rcases q with ⟨e0, h0⟩ | ⟨g, cap, cur, rfl, hb, hg, hle, hm, hsz, ht⟩
  · have h3 := List.eq_nil_of_length_eq_zero h0
    subst h3
    rw [e0]
    exact ⟨none, 0, [], rfl, Nat.le_refl _, Nat.zero_le _, fun _ => rfl, rfl, fun h => absurd rfl h, fun i x l h => by simp at h⟩
  · refine ⟨_, cap, vs, rfl, by simpa using hle, hm, (fun h => by cases h), by simp [hl], fun _ => ⟨g, 0, rfl, fun i x hx => ?_⟩, fun j u l hu hl => (h2 j u l hu hl).1⟩
    rw [Nat.zero_add, cell_of_row w g i cur 31 (0, 0) hg]
    have hi : i < vs.length := (List.getElem?_eq_some_iff.1 hx).1
    rw [← ht, List.getElem?_take, if_pos (by omega)] at hx
    simpa using hx

theorem own_not {w : World} {base n g bd : Nat} {v rs : Value} {xs : List Value} {a b : Int} {st : Bool} (h : w.ownsRow base 31 1 v n xs) (l : LB w g bd a b rs st) : ∀ q, v.ownBlock = some q → q ≠ g := by
  intro q hq
  rcases h.2 with ⟨rfl, _⟩ | ⟨g', cap, cur, rfl, _, hg, _⟩
  · cases hq
  · obtain rfl : g' = q := by simpa [Value.ownBlock] using hq
    rintro rfl
    unfold LB at l
    rw [hg] at l
    simp at l

theorem take_log {g bd base k : Nat} {n : Int} {rs : Value} {st : Bool} {ls : List (List UInt8)} {b : List UInt8} {pb : Option Addr} {cb : Nat} {w : World} (h : LB w g bd n (k : Int) rs st) (ho : RB w base rs ls) (hbase : base ≤ w.heap.size) (hr : ls.length ≤ 1000000) (hm : b.length ≤ 4000) (hk : k ≤ 16384) (hb : HB w (.slice pb b.length cb) b) (hy : BY w (.slice pb b.length cb)) :
    Calls Tryd.prog 17 #[.pointer (some ⟨g, 0, none⟩), .slice pb b.length cb] w fun e w' => e = .returned (.tuple #[]) ∧ ∃ rs', LB w' g bd n ((k + (tsec b.length + 1) : Nat) : Int) rs' st ∧ RB w' base rs' (ls ++ [b]) ∧ Part (fun q => q = g ∨ some q = rs.ownBlock) w w' := by
  obtain ⟨vs, h1, h2⟩ := ho
  have bA := (Below.refl _ w).alloc (Nat.le_refl _) (.cells #[.slice pb b.length cb] 31)
  have hvl := h1.1
  rw [Nat.mul_one] at hvl
  refine (take_any (pb := pb) (m := b.length) (cb := cb) h h1 hbase hr hm hk).mono ?_
  rintro e w' ⟨rfl, rs', w1, o1, l1, p1, g1, p2⟩
  refine ⟨rfl, rs', l1, ?_, p1⟩
  have hA := owns_later h1 bA
  have s1 : Sty 5 w w1 := (Sty.of_below bA).trans (Sty.of_grown hA g1 (by decide))
  have lA := h.same (bA.block _ h.lt)
  have hgw : w1.heap[g]? = (w.alloc (.cells #[.slice pb b.length cb] 31)).heap[g]? := g1.block g lA.lt (fun e => own_not hA lA g e.symm rfl)
  have lw1 : LB w1 g bd n (k : Int) rs st := lA.same hgw
  have s2 : Sty 5 w1 w' := Sty.of_part p2 (by rintro q cur fr rfl hq; unfold LB at lw1; rw [lw1] at hq; simp at hq)
  have hR : RB w1 base rs' (ls ++ [b]) := by
    refine ⟨vs ++ [.slice pb b.length cb], by simpa using o1, fun j u l hu hl => ?_⟩
    by_cases hj : j < ls.length
    · rw [List.getElem?_append_left (by omega)] at hu
      rw [List.getElem?_append_left hj] at hl
      exact (h2 j u l hu hl).1.sty (h2 j u l hu hl).2 s1
    · rw [List.getElem?_append_right (by omega), hvl] at hu
      rw [List.getElem?_append_right (by omega)] at hl
      cases hjk : j - ls.length with
      | zero =>
        rw [hjk] at hu hl
        simp at hu hl
        subst hu; subst hl
        exact hb.sty hy s1
      | succ m => rw [hjk] at hu; simp at hu
  exact hR.keep s2 (fun q hq => p2.2 q (own_lt o1 q hq) (own_not o1 lw1 q hq))

end Go.Proofs.YtnmjggljicanmaaDoor
