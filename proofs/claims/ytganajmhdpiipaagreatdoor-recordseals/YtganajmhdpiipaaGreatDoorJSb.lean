/- What this text holds: where a value points, there is a block of bytes (of CutR). What this text holds: rows of texts that a call owns (of RSRow, MLevels, MTL, MSign, RStep, RMWrite, MKeysT, MShape, MShaped), without trees and sums. What this text proves: the walk of mts.Write over this program: a signature's bytes behind bytes. -/
import Derived.Test.YtganajmhdpiipaaGreatDoorJRd
import Derived.Test.YtganajmhdpiipaaGreatDoorJB2
import Derived.Test.YtganajmhdpiipaaGreatDoorDigits
import Derived.Test.YtganajmhdpiipaaGreatDoorCUintT
namespace Go.Proofs.YtganajmhdpiipaaGreatDoor
open Go.RowKit

end Go.Proofs.YtganajmhdpiipaaGreatDoor

namespace Go.Proofs.YtganajmhdpiipaaGreatDoor
open Go.RowKit

/-- A row of k rows of bytes that the call owns, made by appends. -/
def RS (w : World) (base : Nat) (v : Value) (k : Nat) (sig : Nat → List UInt8) : Prop :=
  ∃ vs : List Value, w.ownsRow base 22 1 v k vs ∧ ∀ (j : Nat) u, vs[j]? = some u → HB w u (sig j) ∧ TB w u

theorem RS.later {w w' : World} {base k : Nat} {v : Value} {sig : Nat → List UInt8} (h : RS w base v k sig) (hb : Below w.heap.size w w') : RS w' base v k sig := by
  obtain ⟨vs, h1, h2⟩ := h
  exact ⟨vs, owns_later h1 hb, fun j u hu => ⟨(h2 j u hu).1.later hb, (h2 j u hu).2.later hb⟩⟩

/-- Bytes in a block of bytes stay where a row of rows grew. -/
theorem hb_grown {w w' : World} {base n : Nat} {v u : Value} {vs : List Value} {l : List UInt8} (ho : w.ownsRow base 22 1 v n vs) (hg : w.grownBy w' v.ownBlock) (h : HB w u l) (t : TB w u) : HB w' u l ∧ TB w' u := by
  have hne : ∀ b o n c, u = .slice (some ⟨b, o, none⟩) n c → some b ≠ v.ownBlock := by
    intro b o n' c e he
    obtain ⟨cur, fr, hb⟩ := t b o n' c e
    rcases ho.2 with ⟨rfl, _⟩ | ⟨g, cap, cur', rfl, _, hg', _⟩
    · simp [Value.ownBlock] at he
    · simp only [Value.ownBlock, Option.some.injEq] at he
      subst he
      rw [hb] at hg'
      simp only [Option.some.injEq, Obj.cells.injEq] at hg'
      exact absurd hg'.2.1 (by decide)
  constructor
  · obtain ⟨p, c, rfl⟩ := h.shape
    by_cases hn : l = []
    · subst hn
      have := h.len
      exact HB.empty _ p c this.2.2.1 this.2.2.2
    · obtain ⟨b, o, rfl, hc⟩ := h.addr (List.length_pos_iff.2 hn)
      have hl := h.len
      refine ⟨_, c, rfl, hl.2.1, hl.2.2.1, hl.2.2.2, fun _ => ⟨b, o, rfl, fun i x hx => hg.cell (hc i x hx) (hne b o _ _ rfl)⟩⟩
  · intro b o n' c e
    obtain ⟨cur, fr, hb⟩ := t b o n' c e
    exact ⟨cur, fr, by rw [hg.block b (Array.getElem?_eq_some_iff.1 hb).1 (hne b o n' c e)]; exact hb⟩

theorem RS.snoc {w w' : World} {base k : Nat} {v v' x : Value} {vs : List Value} {sig : Nat → List UInt8} (h1 : w.ownsRow base 22 1 v k vs) (h2 : ∀ (j : Nat) u, vs[j]? = some u → HB w u (sig j) ∧ TB w u) (hx : HB w x (sig k)) (tx : TB w x)
    (hg : w.grownBy w' v.ownBlock) (ho : w'.ownsRow base 22 1 v' (k + 1) (vs ++ [x])) : RS w' base v' (k + 1) sig := by
  refine ⟨vs ++ [x], ho, fun j u hu => ?_⟩
  have hl := h1.1
  rw [Nat.mul_one] at hl
  by_cases hj : j < k
  · rw [List.getElem?_append_left (by omega)] at hu
    exact hb_grown h1 hg (h2 j u hu).1 (h2 j u hu).2
  · rw [List.getElem?_append_right (by omega), hl] at hu
    cases hjk : j - k with
    | zero =>
      rw [hjk] at hu
      simp at hu
      subst hu
      obtain rfl : j = k := by omega
      exact hb_grown h1 hg hx tx
    | succ m => rw [hjk] at hu; simp at hu

theorem RS.pa {w : World} {base N : Nat} {v : Value} {sig : Nat → List UInt8} (h : RS w base v N sig) : PA w v ((List.range N).map sig) := by
  obtain ⟨vs, h1, h3⟩ := h
  have hl := h1.1
  rw [Nat.mul_one] at hl
  obtain ⟨_, q⟩ := h1
  have hel : ∀ (i : Nat) x l, vs[i]? = some x → ((List.range N).map sig)[i]? = some l → HB w x l := by
    intro i x l hx hl'
    have hi : i < vs.length := (List.getElem?_eq_some_iff.1 hx).1
    have e2 : l = sig i := by
      rw [List.getElem?_map, List.getElem?_range (by omega)] at hl'
      simpa using hl'.symm
    rw [e2]
    exact (h3 i x hx).1
  rcases q with ⟨rfl, h0⟩ | ⟨g, cap, cur, rfl, hb, hg, hle, hm, hsz, ht⟩
  · subst h0
    exact PA.nil w
  · refine ⟨_, cap, vs, by simp, by simpa using hle, hm, (fun h => by cases h), by simp [hl], fun _ => ⟨g, 0, rfl, fun i x hx => ?_⟩, hel⟩
    rw [Nat.zero_add, cell_of_row w g i cur 22 (0, 0) hg]
    have hi : i < vs.length := (List.getElem?_eq_some_iff.1 hx).1
    rw [← ht, List.getElem?_take, if_pos (by omega)] at hx
    simpa using hx

/-- A made list of N rows of bytes that the call owns, the first k of them told. -/
def RQ (w : World) (base g N k : Nat) (sig : Nat → List UInt8) : Prop :=
  ∃ vs : List Value, w.ownsRow base 22 1 (.slice (some ⟨g, 0, none⟩) N N) N vs ∧ ∀ (j : Nat) u, j < k → vs[j]? = some u → HB w u (sig j) ∧ TB w u

theorem RQ.later {w w' : World} {base g N k : Nat} {sig : Nat → List UInt8} (h : RQ w base g N k sig) (hb : Below w.heap.size w w') : RQ w' base g N k sig := by
  obtain ⟨vs, h1, h3⟩ := h
  exact ⟨vs, owns_later h1 hb, fun j u hj hu => ⟨(h3 j u hj hu).1.later hb, (h3 j u hj hu).2.later hb⟩⟩

theorem RQ.rs {w : World} {base g N : Nat} {sig : Nat → List UInt8} (h : RQ w base g N N sig) : RS w base (.slice (some ⟨g, 0, none⟩) N N) N sig := by
  obtain ⟨vs, h1, h3⟩ := h
  have hl := h1.1
  rw [Nat.mul_one] at hl
  exact ⟨vs, h1, fun j u hu => h3 j u (by have := (List.getElem?_eq_some_iff.1 hu).1; omega) hu⟩

theorem RQ.cell {w : World} {base g N k : Nat} {sig : Nat → List UInt8} (h : RQ w base g N k sig) (i : Nat) (hi : i < N) : ∃ y, w.cell? ⟨g, i, none⟩ = some y ∧ w.frozen? ⟨g, i, none⟩ = false := by
  obtain ⟨vs, q1, _⟩ := h
  have hl := q1.1
  rw [Nat.mul_one] at hl
  have hc := q1.cellAt i (by omega)
  rw [List.getElem?_eq_getElem (by omega)] at hc
  exact ⟨_, hc, q1.frozenAt i⟩

theorem RQ.put {w : World} {base g N k : Nat} {sig : Nat → List UInt8} (h : RQ w base g N k sig) (x : Value) (hx : HB w x (sig k)) (tx : TB w x) : RQ (w.setCell ⟨g, k, none⟩ x) base g N (k + 1) sig := by
  obtain ⟨vs, h1, h3⟩ := h
  obtain ⟨q1, q2⟩ := h1.stored k x
  refine ⟨vs.set k x, q1, fun j u hj hu => ?_⟩
  by_cases hjk : k = j
  · subst hjk
    rw [List.getElem?_set_self'] at hu
    cases hv : vs[k]? with
    | none => rw [hv] at hu; simp at hu
    | some y =>
      rw [hv] at hu
      simp at hu
      subst hu
      exact hb_grown h1 q2 hx tx
  · rw [List.getElem?_set_ne hjk] at hu
    obtain ⟨a, b⟩ := h3 j u (by omega) hu
    exact hb_grown h1 q2 a b

theorem RS.addr {w : World} {base N : Nat} {v : Value} {sig : Nat → List UInt8} (h : RS w base v N sig) (hN : 0 < N) : ∃ g cap, v = .slice (some ⟨g, 0, none⟩) N cap ∧ base ≤ g ∧ g < w.heap.size ∧ N ≤ maxLen ∧ ∀ i, i < N → ∃ p c, w.cell? ⟨g, i, none⟩ = some (.slice p (sig i).length c) ∧ HB w (.slice p (sig i).length c) (sig i) ∧ TB w (.slice p (sig i).length c) := by
  obtain ⟨vs, h1, h2⟩ := h
  have hl := h1.1
  rw [Nat.mul_one] at hl
  have h1' := h1
  rcases h1'.2 with ⟨rfl, h0⟩ | ⟨g, cap, cur, rfl, hb, hg, hle, hm, hsz, ht⟩
  · omega
  · refine ⟨g, cap, rfl, hb, (Array.getElem?_eq_some_iff.1 hg).1, by omega, fun i hi => ?_⟩
    obtain ⟨u, hvi⟩ : ∃ u, vs[i]? = some u := ⟨_, List.getElem?_eq_getElem (by omega)⟩
    obtain ⟨q1, q2⟩ := h2 i u hvi
    obtain ⟨p, c, e⟩ := q1.shape
    refine ⟨p, c, ?_, by rw [← e]; exact q1, by rw [← e]; exact q2⟩
    rw [cell_of_row w g i cur 22 (0, 0) hg, ← e]
    rw [← ht, List.getElem?_take, if_pos (by omega)] at hvi
    simpa using hvi

theorem owns_only {w w' : World} {g base e s n : Nat} {v : Value} {xs : List Value} (h : w.ownsRow base e s v n xs) (ho : Only g w w') (hg : g < base) : w'.ownsRow base e s v n xs := by
  refine ⟨h.1, ?_⟩
  rcases h.2 with hn | ⟨k, cap, cur, rfl, hb, hk, rest⟩
  · exact .inl hn
  · refine .inr ⟨k, cap, cur, rfl, hb, ?_, rest⟩
    rw [ho.block k (by omega) (Array.getElem?_eq_some_iff.1 hk).1]
    exact hk

theorem RS.mono {w : World} {base base' N : Nat} {v : Value} {sig : Nat → List UInt8} (r : RS w base v N sig) (hb : base' ≤ base) : RS w base' v N sig := by
  obtain ⟨vs, h1, h2⟩ := r
  exact ⟨vs, owns_mono h1 hb, h2⟩

/-- Whether there are digests of that size, and a tree of that height. -/
def mcanB (size height : Int) : Bool := decide (1 ≤ size ∧ size ≤ 32 ∧ 0 ≤ height ∧ height ≤ 8)

set_option maxRecDepth 100000 in
set_option maxHeartbeats 400000 in
theorem mcan_any (size height : Int) (w : World) :
    Calls Tryz.prog 50 #[.int .i64 size, .int .i64 height] w fun e w' => e = .returned (.bool (mcanB size height)) ∧ w' = w := by
  obtain ⟨B, hB⟩ : ∃ B, B = mcanB size height := ⟨_, rfl⟩
  rw [← hB]
  have hBt : 1 ≤ size → size ≤ 32 → 0 ≤ height → height ≤ 8 → B = true := by
    intros; rw [hB]; simp [mcanB]; omega
  have hBf : ¬ (1 ≤ size ∧ size ≤ 32 ∧ 0 ≤ height ∧ height ≤ 8) → B = false := by
    intro h; rw [hB]; simp only [mcanB, decide_eq_false_iff_not]; exact h
  clear hB
  go_enter Tryz.func50, Tryz.ntmps50
  by_cases h1 : 1 ≤ size
  · by_cases h2 : size ≤ 32
    · by_cases h3 : 0 ≤ height
      · by_cases h4 : height ≤ 8
        · obtain rfl := hBt h1 h2 h3 h4
          clear hBt hBf
          go_wp2
          go_ret
          exact ⟨rfl, rfl⟩
        · obtain rfl := hBf (by omega)
          clear hBt hBf
          go_wp2
          go_ret
          exact ⟨rfl, rfl⟩
      · obtain rfl := hBf (by omega)
        clear hBt hBf
        go_wp2
        go_ret
        exact ⟨rfl, rfl⟩
    · obtain rfl := hBf (by omega)
      clear hBt hBf
      go_wp2
      go_ret
      exact ⟨rfl, rfl⟩
  · obtain rfl := hBf (by omega)
    clear hBt hBf
    go_wp2
    go_ret
    exact ⟨rfl, rfl⟩

theorem Only.put {g gp : Nat} {w w' : World} (h : Only g w w') (hg : g ≤ gp) (hs : w.heap.size ≤ gp) (j : Nat) (x : Value) : Only g w (w'.setCell ⟨gp, j, none⟩ x) :=
  ⟨h.1.setCell (p := ⟨gp, j, none⟩) hg x, fun k hk hl => by rw [heap_setCell_other w' ⟨gp, j, none⟩ k x (by simp; omega)]; exact h.2 k hk hl⟩

/-- Bytes of a block of bytes stay where another block is written. -/
theorem hb_box {w w' : World} {gs : Nat} {cs : Array Value} {t : TypeId} {fr : Nat × Nat} {u : Value} {l : List UInt8} (hg : w.heap[gs]? = some (.cells cs t fr)) (ht : t ≠ 5) (ho : Only gs w w') (hu : HB w u l) (tb : TB w u) : HB w' u l ∧ TB w' u := by
  have hne : ∀ b o n c, u = .slice (some ⟨b, o, none⟩) n c → b ≠ gs := by
    intro b o n' c e hbg
    obtain ⟨cur, fr', hb⟩ := tb b o n' c e
    subst hbg
    rw [hb] at hg
    simp only [Option.some.injEq, Obj.cells.injEq] at hg
    exact ht hg.2.1.symm
  constructor
  · obtain ⟨p, cap, e, h1, h2, h3, h4⟩ := hu
    refine ⟨p, cap, e, h1, h2, h3, fun hn => ?_⟩
    obtain ⟨b, o, e1, e2⟩ := h4 hn
    refine ⟨b, o, e1, fun i x hx => ?_⟩
    rw [World.cell?_of_block (w := w) (ho.block b (hne b o _ _ (by rw [e, e1])) (cell_lt (e2 i x hx)))]
    exact e2 i x hx
  · intro b o n' c e
    obtain ⟨cur, fr', hb⟩ := tb b o n' c e
    exact ⟨cur, fr', by rw [ho.block b (hne b o n' c e) (Array.getElem?_eq_some_iff.1 hb).1]; exact hb⟩

theorem RS.box {w w' : World} {gs base N : Nat} {v : Value} {sig : Nat → List UInt8} {cs : Array Value} {t : TypeId} {fr : Nat × Nat} (r : RS w base v N sig) (hg : w.heap[gs]? = some (.cells cs t fr)) (ht : t ≠ 5) (ho : Only gs w w') (hB : gs < base) : RS w' base v N sig := by
  obtain ⟨us, r1, r2⟩ := r
  exact ⟨us, owns_only r1 ho hB, fun i' u' hu' => hb_box hg ht ho (r2 i' u' hu').1 (r2 i' u' hu').2⟩

/-- What another block holds stays where one block is written. -/
theorem cell_ony {g b o : Nat} {w w' : World} {v : Value} (ho : Only g w w') (hc : w.cell? ⟨b, o, none⟩ = some v) (hb : b ≠ g) : w'.cell? ⟨b, o, none⟩ = some v := by
  rw [World.cell?_of_block (w := w) (ho.block b hb (cell_lt hc))]
  exact hc

/-- A signature's bytes behind bytes. -/
def wrF (l : List UInt8) (idx : Int) (ls ps : List (List UInt8)) : List UInt8 := l ++ numL (clampN idx) ++ ls.flatten ++ ps.flatten

theorem flat_snoc {ls : List (List UInt8)} {k : Nat} {x : List UInt8} (h : ls[k]? = some x) : (ls.take (k + 1)).flatten = (ls.take k).flatten ++ x := by
  rw [List.take_add_one, h]
  simp

theorem flat_le {ls : List (List UInt8)} (k : Nat) : (ls.take k).flatten.length ≤ ls.flatten.length := by
  have := congrArg (fun x => (List.flatten x).length) (List.take_append_drop k ls)
  simp only [List.flatten_append, List.length_append] at this
  omega

theorem num_short (idx : Int) : (numL (clampN idx)).length ≤ 9 := by
  rw [numL_length]
  have := cnt_le8 (clampN idx) (by have := clampN_le idx; omega)
  omega

theorem run_index2 (a0 a1 : Option Addr) (n0 c0 n1 c1 : Nat) (w : World) : (Instr.index 64 (.agg #[.slice a0 n0 c0, .slice a1 n1 c1]) (.int .i64 0)).run Tryz.prog w = .ok (.slice a0 n0 c0) w ∧ (Instr.index 64 (.agg #[.slice a0 n0 c0, .slice a1 n1 c1]) (.int .i64 1)).run Tryz.prog w = .ok (.slice a1 n1 c1) w := by
  have hu : Tryz.prog.underlying 64 = some (.array 2 23) := Tryz.underlying64
  have hs : (Tryz.prog.info? 23).map (·.size) = some 1 := by kernel_rfl
  obtain ⟨i, hi, hs⟩ := Option.map_eq_some_iff.1 hs
  constructor
  · simp [Instr.index, run_underlying hu, asIntOf, Go.sizeOf, typeInfo, hi, Result.andThen, go_sem]
  · simp [Instr.index, run_underlying hu, asIntOf, Go.sizeOf, typeInfo, hi, hs, Result.andThen, go_sem]

set_option maxRecDepth 100000 in
set_option maxHeartbeats 1000000 in
theorem lengths_any (n : Nat) (h : Int) (w : World) (hn : n ≤ 32) :
    Calls Tryz.prog 51 #[.int .i64 (n : Int), .int .i64 h] w fun e w' => e = .returned (.agg #[.int .i64 (4 * (n : Int) + 5), .int .i64 h]) ∧ Below w.heap.size w w' := by
  obtain ⟨i0, hi, hz0, hz1, hz2⟩ := info_parts i_u8
  have b1 := (Below.refl _ w).alloc (Nat.le_refl _) (.cells #[.int .i64 0, .int .i64 0] 71)
  have hsz : (w.alloc (.cells #[.int .i64 0, .int .i64 0] 71)).heap.size = w.heap.size + 1 := by simp
  have g1 : (w.alloc (.cells #[.int .i64 0, .int .i64 0] 71)).heap[w.heap.size]? = some (.cells #[.int .i64 0, .int .i64 0] 71 (0, 0)) := heap_alloc_new w _
  go_enter Tryz.func51, Tryz.ntmps51
  go_wp2_with (first | (at_make; refine wpList_make_full _ rfl _ _ 22 rfl (w.heap.size + 1) 5 i0 (.int .u8 0) 1 Tryz.underlying22 hi hz0 hz1 .i64 .i64 _ _ n rfl rfl ?_ ?_ ?_ ?_ ?_ ?_))
  all_goals (try (first | omega | (unfold maxLen; omega) | (rw [hz2]; omega) | (simp)))
  intro w1 hown1 hgrow1
  rw [made_bcs] at hown1
  have hb1 : Below (w.heap.size + 1) (w.alloc (.cells #[.int .i64 0, .int .i64 0] 71)) w1 := (Below.refl _ _).grown hgrow1 (by omega) (by intro k hk; cases hk)
  have hD := digits_any _ _ w1 (HB.of_owns hown1)
  have HdL : Hid ((digF (List.replicate n 0)).length = 4 * n + 5) := by
    show (digF (List.replicate n 0)).length = 4 * n + 5
    rw [digF_length, List.length_replicate]
    omega
  rw [HdL.out] at hD
  clear hown1 hgrow1
  go_wp2_with fail
  refine hD.mono ?_
  rintro e w2 ⟨v2, rfl, o2, hb2⟩
  obtain ⟨p2, c2, hv2⟩ := owns_shape o2
  subst hv2
  have hb12 := hb1.trans (hb2.mono (by have := hb1.size; omega))
  have hg2 : w2.heap[w.heap.size]? = some (.cells #[.int .i64 0, .int .i64 0] 71 (0, 0)) := by
    rw [hb12.block w.heap.size (by omega)]
    exact g1
  have q0 := cell_of_row w2 w.heap.size 0 _ _ _ hg2
  have q1 := cell_of_row w2 w.heap.size 1 _ _ _ hg2
  have f0 : w2.frozen? ⟨w.heap.size, 0, none⟩ = false := by simp [World.frozen?, hg2]
  have f1 : w2.frozen? ⟨w.heap.size, 1, none⟩ = false := by simp [World.frozen?, hg2]
  simp at q0 q1
  clear o2 hD
  go_wp2
  have hbe : Below w.heap.size w ((w2.setCell ⟨w.heap.size, 0, none⟩ (.int .i64 (4 * (n : Int) + 5))).setCell ⟨w.heap.size, 1, none⟩ (.int .i64 h)) := ((b1.trans (hb12.mono (Nat.le_succ _))).setCell (Nat.le_refl _) _).setCell (Nat.le_refl _) _
  refine bodyPost_ret (v := .agg #[.int .i64 (4 * (n : Int) + 5), .int .i64 h]) ?_ rfl ⟨rfl, hbe⟩
  simp only [results, Tryz.results51]
  go_simp

set_option maxRecDepth 100000 in
set_option maxHeartbeats 1000000 in
theorem lists_any (idx : Int) (p q : Option Addr) (n c m d : Nat) (w : World) :
    Calls Tryz.prog 41 #[.agg #[.int .i64 idx, .slice p n c, .slice q m d]] w fun e w' => e = .returned (.agg #[.slice p n c, .slice q m d]) ∧ Below w.heap.size w w' := by
  have b1 := (Below.refl _ w).alloc (Nat.le_refl _) (.cells #[.int .i64 idx, .slice p n c, .slice q m d] 27)
  have b2 := b1.alloc b1.size (.cells #[.slice p n c, .slice q m d] 64)
  go_enter Tryz.func41, Tryz.ntmps41
  go_wp2
  refine bodyPost_ret (v := .agg #[.slice p n c, .slice q m d]) ?_ rfl ⟨rfl, b2⟩
  simp only [results, Tryz.results41]
  go_simp

end Go.Proofs.YtganajmhdpiipaaGreatDoor

namespace Go.Proofs.YtganajmhdpiipaaGreatDoor
open Go.RowKit

set_option maxRecDepth 100000 in
set_option maxHeartbeats 4000000 in
theorem mwrite_any (v ca pa : Value) (l : List UInt8) (idx : Int) (ls ps : List (List UInt8)) (w : World) (h : HB w v l) (hc : PA w ca ls) (hp : PA w pa ps) (hbig : l.length + ls.flatten.length + ps.flatten.length ≤ 140737488355200) :
    Calls Tryz.prog 16 #[v, .agg #[.int .i64 idx, ca, pa]] w fun e w' => ∃ p c, e = .returned (.slice p (wrF l idx ls ps).length c) ∧ w'.ownsRow w.heap.size 5 1 (.slice p (wrF l idx ls ps).length c) (wrF l idx ls ps).length (bcs (wrF l idx ls ps)) ∧ Below w.heap.size w w' := by
  obtain ⟨pv, cv, rfl⟩ := h.shape
  obtain ⟨pc, cc, rfl⟩ := hc.shape
  obtain ⟨pp, cp, rfl⟩ := hp.shape
  have hU := fun w' h' => cuint_any (.slice pv l.length cv) l idx w' h' (by omega)
  have hns := num_short idx
  have HF : Hid (wrF l idx ls ps = l ++ numL (clampN idx) ++ ls.flatten ++ ps.flatten) := rfl
  generalize wrF l idx ls ps = F at *
  have hRl : (l ++ numL (clampN idx)).length = l.length + (numL (clampN idx)).length := List.length_append
  generalize l ++ numL (clampN idx) = R at *
  have hR : R.length + ls.flatten.length + ps.flatten.length ≤ 140737488355300 := by omega
  clear hRl hns hbig
  obtain ⟨EE, hEE⟩ : ∃ EE : Nat → List UInt8, EE = fun k => R ++ (ls.take k).flatten := ⟨_, rfl⟩
  have HE0 : Hid (EE 0 = R) := by show _ = _; rw [hEE]; simp
  have HE1 : Hid (∀ k x, ls[k]? = some x → EE (k + 1) = EE k ++ x) := by
    show ∀ k x, _ → _
    intro k x hx
    rw [hEE]
    simp only [flat_snoc hx, List.append_assoc]
  have HEn : Hid (EE ls.length = R ++ ls.flatten) := by show _ = _; rw [hEE]; simp
  have HEL : Hid (∀ k, (EE k).length ≤ R.length + ls.flatten.length) := by
    show ∀ k, _
    intro k
    have := flat_le (ls := ls) k
    rw [hEE]
    simp only [List.length_append]
    omega
  clear hEE
  obtain ⟨GG, hGG⟩ : ∃ GG : Nat → List UInt8, GG = fun k => (R ++ ls.flatten) ++ (ps.take k).flatten := ⟨_, rfl⟩
  have HG0 : Hid (GG 0 = EE ls.length) := by show _ = _; rw [HEn.out, hGG]; simp
  have HG1 : Hid (∀ k x, ps[k]? = some x → GG (k + 1) = GG k ++ x) := by
    show ∀ k x, _ → _
    intro k x hx
    rw [hGG]
    simp only [flat_snoc hx, List.append_assoc]
  have HGn : Hid (GG ps.length = F) := by show _ = _; rw [HF.out, hGG]; simp
  have HGL : Hid (∀ k, (GG k).length ≤ R.length + ls.flatten.length + ps.flatten.length) := by
    show ∀ k, _
    intro k
    have := flat_le (ls := ps) k
    rw [hGG]
    simp only [List.length_append]
    omega
  clear hGG HF HEn
  generalize ls.flatten.length = LL at *
  generalize ps.flatten.length = PL at *
  have bA := (Below.refl _ w).alloc (Nat.le_refl _) (.cells #[.int .i64 idx, .slice pc ls.length cc, .slice pp ps.length cp] 27)
  have g1 := heap_alloc_new w (.cells #[.int .i64 idx, .slice pc ls.length cc, .slice pp ps.length cp] 27)
  have mc := hc.len.2
  have mp := hp.len.2
  unfold maxLen at mc mp
  go_enter Tryz.func16, Tryz.ntmps16
  go_wp2_with fail
  generalize hW : w.alloc (.cells #[.int .i64 idx, .slice pc ls.length cc, .slice pp ps.length cp] 27) = W at *
  clear hW
  have s1 : W.cell? ⟨w.heap.size, 1, none⟩ = some (.slice pc ls.length cc) := by rw [cell_of_row _ _ 1 _ _ _ g1]; rfl
  have s2 : W.cell? ⟨w.heap.size, 2, none⟩ = some (.slice pp ps.length cp) := by rw [cell_of_row _ _ 2 _ _ _ g1]; rfl
  refine (hU _ (h.later bA)).mono ?_
  rintro e w1 ⟨p1, c1, rfl, o1, hb1⟩
  have x1 := cell_later hb1 s1
  have sA := bA.size
  have s0 : W.cell? ⟨w.heap.size, 0, none⟩ = some (.int .i64 idx) := by rw [cell_of_row _ _ 0 _ _ _ g1]; rfl
  have x0 := cell_later hb1 s0
  have x2 := cell_later hb1 s2
  have hcW := hc.later bA
  have hpW := hp.later bA
  have hS := fun w' => lists_any idx pc pp ls.length cc ps.length cp w'
  clear hU h hc hp g1 s0 s1 s2
  go_wp2_with fail
  refine (hS _).mono ?_
  rintro e w2 ⟨rfl, hb2⟩
  have o2 := owns_later o1 hb2
  have hbe0 := hb1.trans (hb2.mono hb1.size)
  clear x0 x1 x2 hS o1 hb1 hb2
  obtain ⟨HH, h0, h1, h2⟩ : ∃ HH : Nat → List UInt8, Hid (HH 0 = R) ∧ Hid (HH 1 = GG 0) ∧ Hid (HH 2 = F) := ⟨fun j => if j = 0 then R else if j = 1 then GG 0 else F, rfl, rfl, rfl⟩
  have HI := fun n0 n1 w' => run_index2 pc pp n0 cc n1 cp w'
  have hI0 := fun n0 n1 w' => (HI n0 n1 w').1
  have hI1 := fun n0 n1 w' => (HI n0 n1 w').2
  clear HI
  rw [← h0.out] at o2
  have HR0 : Hid (R = HH 0) := h0.out.symm
  obtain ⟨N, hN⟩ : ∃ N, N = ls.length := ⟨_, rfl⟩
  obtain ⟨M, hM⟩ : ∃ M, M = ps.length := ⟨_, rfl⟩
  rw [← hN] at hcW mc HG0 ⊢
  rw [← hM] at hpW mp HGn ⊢
  clear hN hM
  go_wp2
  rw [HR0.out]
  go_loopw [0, 15] (fun v i wr => ∃ j : Nat, j ≤ 2 ∧ i = .int .i64 j ∧ wr.ownsRow W.heap.size 5 1 v (HH j).length (bcs (HH j)) ∧ Below W.heap.size W wr) (fun _ i _ => 2 - (intOf i).toNat)
  case atStart => exact ⟨0, by omega, rfl, o2, hbe0⟩
  case round =>
    obtain ⟨j, hj, rfl, hown, hbe⟩ := hrel
    clear o2 hbe0
    rcases (show j = 0 ∨ j = 1 ∨ j = 2 by omega) with rfl | rfl | rfl
    · rw [h0.out, ← HE0.out] at hown
      obtain ⟨wo, hwo⟩ : ∃ wo, wo = wr := ⟨_, rfl⟩
      subst hwo
      go_wp2
      go_loopw [0, 20] (fun v i wr => ∃ k : Nat, k ≤ N ∧ i = .int .i64 k ∧ wr.ownsRow W.heap.size 5 1 v (EE k).length (bcs (EE k)) ∧ Below W.heap.size W wr) (fun _ i _ => N - (intOf i).toNat)
      case atStart => exact ⟨0, Nat.zero_le _, rfl, hown, hbe⟩
      case round =>
        clear hown hbe
        obtain ⟨k, hk, rfl, hown, hbe⟩ := hrel
        by_cases hlt : k < N
        · obtain ⟨b1, o1, rfl⟩ := hcW.addr (by omega)
          obtain ⟨q6, k6, x, gx, ec, hx⟩ := (hcW.later hbe).get k hlt
          have hlt2 : (k : Int) < (N : Int) := by omega
          have HZ : Hid (EE (k + 1) = EE k ++ x) := HE1.out k x gx.out
          have hEk := HEL.out (k + 1)
          rw [HZ.out, List.length_append] at hEk
          have hsz := hbe.size
          generalize hX : EE k = X at *
          clear hX gx
          go_wp2_with (first | (at_builtin; refine wpList_append_hb rfl (.tmp 24) (.tmp 25) 22 rfl W.heap.size 5 Tryz.underlying22 i_u8 _ _ _ rfl hown _ _ _ x rfl hx ?sa ?sb ?_))
          case sa => omega
          case sb => omega
          intro v5 w5 hown5 hgrow5
          have hb5 : Below W.heap.size W w5 := hbe.grown hgrow5 hsz (fun k hk => (hown.lt k hk).1)
          have hown6 : w5.ownsRow W.heap.size 5 1 v5 (EE (k + 1)).length (bcs (EE (k + 1))) := by
            rw [HZ.out, List.length_append, bcs_append]
            exact hown5
          clear hown hown5 hgrow5 hbe hx
          go_wp2
          go_roundw
          case rel => first | exact ⟨k + 1, by omega, by go_num, hown6, hb5⟩ | ((repeat apply Exists.intro); exact ⟨⟨k + 1, by omega, by go_num, hown6, hb5⟩, rfl⟩)
          case measure => simp [intOf]; omega
        · obtain rfl : N = k := by omega
          rw [← HG0.out, ← h1.out] at hown
          go_wp2
          go_roundw
          case rel => exact ⟨1, by omega, by go_num, hown, hbe⟩
          case measure => simp [intOf]
    · rw [h1.out] at hown
      obtain ⟨wo, hwo⟩ : ∃ wo, wo = wr := ⟨_, rfl⟩
      subst hwo
      go_wp2
      go_loopw [0, 20] (fun v i wr => ∃ k : Nat, k ≤ M ∧ i = .int .i64 k ∧ wr.ownsRow W.heap.size 5 1 v (GG k).length (bcs (GG k)) ∧ Below W.heap.size W wr) (fun _ i _ => M - (intOf i).toNat)
      case atStart => exact ⟨0, Nat.zero_le _, rfl, hown, hbe⟩
      case round =>
        clear hown hbe
        obtain ⟨k, hk, rfl, hown, hbe⟩ := hrel
        by_cases hlt : k < M
        · obtain ⟨b1, o1, rfl⟩ := hpW.addr (by omega)
          obtain ⟨q6, k6, x, gx, ec, hx⟩ := (hpW.later hbe).get k hlt
          have hlt2 : (k : Int) < (M : Int) := by omega
          have HZ : Hid (GG (k + 1) = GG k ++ x) := HG1.out k x gx.out
          have hEk := HGL.out (k + 1)
          rw [HZ.out, List.length_append] at hEk
          have hsz := hbe.size
          generalize hX : GG k = X at *
          clear hX gx
          go_wp2_with (first | (at_builtin; refine wpList_append_hb rfl (.tmp 24) (.tmp 25) 22 rfl W.heap.size 5 Tryz.underlying22 i_u8 _ _ _ rfl hown _ _ _ x rfl hx ?ta ?tb ?_))
          case ta => omega
          case tb => omega
          intro v5 w5 hown5 hgrow5
          have hb5 : Below W.heap.size W w5 := hbe.grown hgrow5 hsz (fun k hk => (hown.lt k hk).1)
          have hown6 : w5.ownsRow W.heap.size 5 1 v5 (GG (k + 1)).length (bcs (GG (k + 1))) := by
            rw [HZ.out, List.length_append, bcs_append]
            exact hown5
          clear hown hown5 hgrow5 hbe hx
          go_wp2
          go_roundw
          case rel => first | exact ⟨k + 1, by omega, by go_num, hown6, hb5⟩ | ((repeat apply Exists.intro); exact ⟨⟨k + 1, by omega, by go_num, hown6, hb5⟩, rfl⟩)
          case measure => simp [intOf]; omega
        · obtain rfl : M = k := by omega
          rw [HGn.out, ← h2.out] at hown
          go_wp2
          go_roundw
          case rel => exact ⟨2, by omega, by go_num, hown, hbe⟩
          case measure => simp [intOf]
    · rw [h2.out] at hown
      have hown' := owns_mono hown sA
      have hb := bA.trans (hbe.mono sA)
      obtain ⟨p7, c7, rfl⟩ := owns_shape hown'
      clear hown hbe
      go_wp2
      go_ret
      exact ⟨_, _, rfl, hown', hb⟩

end Go.Proofs.YtganajmhdpiipaaGreatDoor
