/- What this text proves: the walks of mts.leaves and mts.raised over this program: a tree's levels, each in a block of its own. -/
import Derived.Test.YtdjaemobfbbkoaaDoorJMTree
namespace Go.Proofs.YtdjaemobfbbkoaaDoor
open Go.RowKit

/-- A made list of N rows of bytes that the call owns, the first k of them told. -/
def RQ (w : World) (base g N k : Nat) (sig : Nat → List UInt8) : Prop :=
  ∃ vs : List Value, w.ownsRow base 22 1 (.slice (some ⟨g, 0, none⟩) N N) N vs ∧ ∀ (j : Nat) u, j < k → vs[j]? = some u → HB w u (sig j) ∧ TB w u

theorem RQ.later {w w' : World} {base g N k : Nat} {sig : Nat → List UInt8} (h : RQ w base g N k sig) (hb : Below w.heap.size w w') : RQ w' base g N k sig := by
  obtain ⟨vs, h1, h3⟩ := h
  exact ⟨vs, owns_later h1 hb, fun j u hj hu => ⟨(h3 j u hj hu).1.later hb, (h3 j u hj hu).2.later hb⟩⟩

theorem RQ.rs {w : World} {base g N : Nat} {sig : Nat → List UInt8} (h : RQ w base g N N sig) : RS w base (.slice (some ⟨g, 0, none⟩) N N) N sig := by
  obtain ⟨vs, h1, h3⟩ := h
  have hl := h1.1
  rw [Nat.mul_one] at hl
  exact ⟨vs, h1, fun j u hu => h3 j u (by have := (List.getElem?_eq_some_iff.1 hu).1; omega) hu⟩

theorem RQ.cell {w : World} {base g N k : Nat} {sig : Nat → List UInt8} (h : RQ w base g N k sig) (i : Nat) (hi : i < N) : ∃ y, w.cell? ⟨g, i, none⟩ = some y ∧ w.frozen? ⟨g, i, none⟩ = false := by
  obtain ⟨vs, q1, _⟩ := h
  have hl := q1.1
  rw [Nat.mul_one] at hl
  have hc := q1.cellAt i (by omega)
  rw [List.getElem?_eq_getElem (by omega)] at hc
  exact ⟨_, hc, q1.frozenAt i⟩

theorem RQ.put {w : World} {base g N k : Nat} {sig : Nat → List UInt8} (h : RQ w base g N k sig) (x : Value) (hx : HB w x (sig k)) (tx : TB w x) : RQ (w.setCell ⟨g, k, none⟩ x) base g N (k + 1) sig := by
  obtain ⟨vs, h1, h3⟩ := h
  obtain ⟨q1, q2⟩ := h1.stored k x
  refine ⟨vs.set k x, q1, fun j u hj hu => ?_⟩
  by_cases hjk : k = j
  · subst hjk
    rw [List.getElem?_set_self'] at hu
    cases hv : vs[k]? with
    | none => rw [hv] at hu; simp at hu
    | some y =>
      rw [hv] at hu
      simp at hu
      subst hu
      exact hb_grown h1 q2 hx tx
  · rw [List.getElem?_set_ne hjk] at hu
    obtain ⟨a, b⟩ := h3 j u (by omega) hu
    exact hb_grown h1 q2 a b

set_option maxRecDepth 100000 in
set_option maxHeartbeats 4000000 in
theorem leaves_any (n h : Nat) (v : Value) (seed : List UInt8) (w : World) (hv : HB w v seed) (hs : seed.length ≤ 64) (hn : 1 ≤ n) (hn2 : n ≤ 32) (hh : h ≤ 8) (hT : Tabs w) :
    Calls Tryd.prog 51 #[.int .i64 (n : Int), v, .int .i64 (h : Int)] w fun e w' => e = .returned (.slice (some ⟨w.heap.size, 0, none⟩) (2 ^ h) (2 ^ h)) ∧ RS w' w.heap.size (.slice (some ⟨w.heap.size, 0, none⟩) (2 ^ h) (2 ^ h)) (2 ^ h) (treeS n seed 0) ∧ Below w.heap.size w w' := by
  obtain ⟨p, c, rfl⟩ := hv.shape
  have hN : 2 ^ h ≤ 256 := Nat.pow_le_pow_right (by decide) hh (n := 2)
  have hK : ∀ (i : Nat) w', i < 256 → HB w' (.slice p seed.length c) seed → Tabs w' → Calls Tryd.prog 72 #[.int .i64 (n : Int), .slice p seed.length c, .int .i64 (i : Int)] w' fun e w'' => ∃ p c, e = .returned (.tuple #[.slice p (treeS n seed 0 i).length c, .int .i64 0]) ∧ HB w'' (.slice p (treeS n seed 0 i).length c) (treeS n seed 0 i) ∧ Below w'.heap.size w' w'' ∧ TB w'' (.slice p (treeS n seed 0 i).length c) := fun i w' hi h' hT' => key_ty n i (.slice p seed.length c) seed w' h' hs hn hn2 (by omega) (by omega) hT'
  generalize treeS n seed 0 = sig at *
  obtain ⟨i0, hi0, hz0, hz1, hz2⟩ := info_parts i_bytes
  have hh2 : (h : Int) ≤ 8 := by omega
  have HW : Hid (wrap64 ((2 : Int) ^ h) = ((2 ^ h : Nat) : Int)) := by
    show wrap64 ((2 : Int) ^ h) = ((2 ^ h : Nat) : Int)
    have e : ((2 : Int) ^ h) = ((2 ^ h : Nat) : Int) := by push_cast; rfl
    rw [e]
    generalize 2 ^ h = N at *
    unfold wrap64
    omega
  generalize 2 ^ h = N at *
  go_enter Tryd.func51, Tryd.ntmps51
  go_wp2_with (first | (at_make; rw [HW.out]; refine wpList_make_full _ rfl _ _ 28 rfl w.heap.size 22 i0 (.slice none 0 0) 1 Tryd.underlying28 hi0 hz0 hz1 .i64 .i64 _ _ N rfl rfl ?_ ?_ ?_ ?_ ?_ ?_))
  all_goals (try (first | omega | (unfold maxLen; omega) | (rw [hz2]; omega)))
  intro w1 hown1 hgrow1
  have hb1 : Below w.heap.size w w1 := (Below.refl _ w).grown hgrow1 (Nat.le_refl _) (by intro k hk; cases hk)
  have hq1 : RQ w1 w.heap.size w.heap.size N 0 sig := ⟨_, hown1, fun j u hj => by omega⟩
  clear hown1 hgrow1
  go_wp2
  go_loopw [14] (fun i wr => ∃ k : Nat, k ≤ N ∧ i = .int .i64 k ∧ RQ wr w.heap.size w.heap.size N k sig ∧ Below w.heap.size w wr) (fun i _ => N - (intOf i).toNat)
  case atStart => exact ⟨0, Nat.zero_le _, rfl, hq1, hb1⟩
  case round =>
    obtain ⟨k, hk, rfl, hq, hbe⟩ := hrel
    clear hq1 hb1
    by_cases hlt : k < N
    · have hlt2 : (k : Int) < (N : Int) := by omega
      have hKk := hK k
      go_wp2_with fail
      refine (hKk _ (by omega) (hv.later hbe) (hT.later hbe)).mono ?_
      rintro e w3 ⟨p3, c3, rfl, h3, hb3, t3⟩
      have hq3 := hq.later hb3
      have hb03 := hbe.trans (hb3.mono hbe.size)
      obtain ⟨y, cy, fy⟩ := hq3.cell k hlt
      have hq4 := hq3.put _ h3 t3
      have hb4 : Below w.heap.size w (w3.setCell ⟨w.heap.size, k, none⟩ (.slice p3 (sig k).length c3)) := hb03.setCell (Nat.le_refl _) _
      clear hq hq3 hb3 hb03 h3 t3 hKk
      go_wp2
      go_roundw
      case rel => first | exact ⟨k + 1, by omega, by go_num, hq4, hb4⟩ | ((repeat apply Exists.intro); exact ⟨⟨k + 1, by omega, by go_num, hq4, hb4⟩, rfl⟩)
      case measure => simp [intOf]; omega
    · obtain rfl : k = N := by omega
      have hr := hq.rs
      clear hq
      go_wp2
      go_ret
      exact ⟨rfl, hr, hbe⟩

theorem RS.addr {w : World} {base N : Nat} {v : Value} {sig : Nat → List UInt8} (h : RS w base v N sig) (hN : 0 < N) : ∃ g cap, v = .slice (some ⟨g, 0, none⟩) N cap ∧ base ≤ g ∧ g < w.heap.size ∧ N ≤ maxLen ∧ ∀ i, i < N → ∃ p c, w.cell? ⟨g, i, none⟩ = some (.slice p (sig i).length c) ∧ HB w (.slice p (sig i).length c) (sig i) ∧ TB w (.slice p (sig i).length c) := by
  obtain ⟨vs, h1, h2⟩ := h
  have hl := h1.1
  rw [Nat.mul_one] at hl
  have h1' := h1
  rcases h1'.2 with ⟨rfl, h0⟩ | ⟨g, cap, cur, rfl, hb, hg, hle, hm, hsz, ht⟩
  · omega
  · refine ⟨g, cap, rfl, hb, (Array.getElem?_eq_some_iff.1 hg).1, by omega, fun i hi => ?_⟩
    obtain ⟨u, hvi⟩ : ∃ u, vs[i]? = some u := ⟨_, List.getElem?_eq_getElem (by omega)⟩
    obtain ⟨q1, q2⟩ := h2 i u hvi
    obtain ⟨p, c, e⟩ := q1.shape
    refine ⟨p, c, ?_, by rw [← e]; exact q1, by rw [← e]; exact q2⟩
    rw [cell_of_row w g i cur 22 (0, 0) hg, ← e]
    rw [← ht, List.getElem?_take, if_pos (by omega)] at hvi
    simpa using hvi

set_option maxRecDepth 100000 in
set_option maxHeartbeats 4000000 in
theorem raised_any (n l M : Nat) (base0 : Nat) (v : Value) (sig sig' : Nat → List UInt8) (w : World) (hv : RS w base0 v (2 * M) sig) (hM : 1 ≤ M) (hM2 : M ≤ 256) (hl : l ≤ 100) (hT : Tabs w)
    (hsig : ∀ p : Nat, sig' p = hashF n 9 [numB ((l + 1 : Nat) : Int), numB (p : Int), sig (2 * p), sig (2 * p + 1)]) :
    Calls Tryd.prog 52 #[.int .i64 (n : Int), .int .i64 (l : Int), v] w fun e w' => e = .returned (.slice (some ⟨w.heap.size, 0, none⟩) M M) ∧ RS w' w.heap.size (.slice (some ⟨w.heap.size, 0, none⟩) M M) M sig' ∧ Below w.heap.size w w' := by
  obtain ⟨gl, cl, rfl, hgl, hgs, hml, hcells⟩ := hv.addr (by omega)
  obtain ⟨i0, hi0, hz0, hz1, hz2⟩ := info_parts i_bytes
  have hJ : ∀ (p : Nat) (a b : Value) w', HB w' a (sig (2 * p)) → HB w' b (sig (2 * p + 1)) → Tabs w' → Calls Tryd.prog 30 #[.int .i64 (n : Int), .int .i64 (l + 1 : Int), .int .i64 (p : Int), .agg #[a, b]] w' fun e w'' => ∃ q c, e = .returned (.slice q (sig' p).length c) ∧ HB w'' (.slice q (sig' p).length c) (sig' p) ∧ Below w'.heap.size w' w'' ∧ TB w'' (.slice q (sig' p).length c) := by
    intro p a b w' h1 h2 h3
    rw [hsig p]
    have := join_any n ((l + 1 : Nat) : Int) p a b _ _ w' h1 h2 h3
    simpa using this
  clear hsig
  go_enter Tryd.func52, Tryd.ntmps52
  go_wp2_with (first | (at_make; refine wpList_make_full _ rfl _ _ 28 rfl w.heap.size 22 i0 (.slice none 0 0) 1 Tryd.underlying28 hi0 hz0 hz1 .i64 .i64 _ _ M rfl rfl ?_ ?_ ?_ ?_ ?_ ?_))
  all_goals (try (first | omega | (unfold maxLen; omega) | (rw [hz2]; omega)))
  intro w1 hown1 hgrow1
  have hb1 : Below w.heap.size w w1 := (Below.refl _ w).grown hgrow1 (Nat.le_refl _) (by intro k hk; cases hk)
  have hq1 : RQ w1 w.heap.size w.heap.size M 0 sig' := ⟨_, hown1, fun j u hj => by omega⟩
  clear hown1 hgrow1
  unfold maxLen at hml
  go_wp2
  go_loopw [15] (fun i wr => ∃ k : Nat, k ≤ M ∧ i = .int .i64 k ∧ RQ wr w.heap.size w.heap.size M k sig' ∧ Below w.heap.size w wr) (fun i _ => M - (intOf i).toNat)
  case atStart => exact ⟨0, Nat.zero_le _, rfl, hq1, hb1⟩
  case round =>
    obtain ⟨k, hk, rfl, hq, hbe⟩ := hrel
    clear hq1 hb1
    by_cases hlt : k < M
    · have hlt2 : (k : Int) < (M : Int) := by omega
      have hlt3 : 2 * (k : Int) < 2 * (M : Int) := by omega
      have hlt4 : 2 * (k : Int) + 1 < 2 * (M : Int) := by omega
      obtain ⟨pa, ca, ea0, ha, ta⟩ := hcells (2 * k) (by omega)
      obtain ⟨pb, cb, eb0, hb, tb⟩ := hcells (2 * k + 1) (by omega)
      have ea := cell_later hbe ea0
      have eb := cell_later hbe eb0
      have ha1 := ha.later hbe
      have hb1 := hb.later hbe
      have hT1 := hT.later hbe
      have hJk := hJ k (.slice pa (sig (2 * k)).length ca) (.slice pb (sig (2 * k + 1)).length cb)
      have wr1 : IntKind.i64.wrap (2 * (k : Int)) = 2 * (k : Int) := by rw [IntKind.wrap_i64]; omega
      have wr2 : IntKind.i64.wrap (2 * (k : Int) + 1) = 2 * (k : Int) + 1 := by rw [IntKind.wrap_i64]; omega
      have wr3 : IntKind.i64.wrap ((l : Int) + 1) = (l : Int) + 1 := by rw [IntKind.wrap_i64]; omega
      have hz1' : (0 : Int) ≤ 2 * (k : Int) := by omega
      have hz2' : (0 : Int) ≤ 2 * (k : Int) + 1 := by omega
      have hz3' : (0 : Int) ≤ (k : Int) := by omega
      have tn1 : (2 * (k : Int)).toNat = 2 * k := by omega
      have tn2 : (2 * (k : Int) + 1).toNat = 2 * k + 1 := by omega
      generalize sig (2 * k) = X at *
      generalize sig (2 * k + 1) = Y at *
      clear ea0 eb0 hcells
      go_wp2
      go_region_held3 (fun w' => w'.cell? ⟨gl, 2 * k, none⟩ = some (.slice pa X.length ca) ∧ w'.cell? ⟨gl, 2 * k + 1, none⟩ = some (.slice pb Y.length cb)) (first | exact ⟨ea, eb⟩ | exact ⟨fa, fb⟩ | exact ⟨(World.cell?_setCell_other _ _ _ _ (by intro e; have := congrArg Addr.block e; simp at this; omega)).trans fa, (World.cell?_setCell_other _ _ _ _ (by intro e; have := congrArg Addr.block e; simp at this; omega)).trans fb⟩) (first
        | (go_at_call 30; refine (hJk _ (ha1.later (by repeat (first | exact Below.refl _ _ | refine Below.drew ?_))) (hb1.later (by repeat (first | exact Below.refl _ _ | refine Below.drew ?_))) (hT1.later (by repeat (first | exact Below.refl _ _ | refine Below.drew ?_)))).mono ?_; rintro e w3 ⟨p3, c3, rfl, h3, hb3', t3⟩; have hb3 : Below wr.heap.size wr w3 := Below.trans (by repeat (first | exact Below.refl _ _ | refine Below.drew ?_)) hb3'; have fa := cell_later hb3 ea; have fb := cell_later hb3 eb; have hq3 := hq.later hb3; obtain ⟨y, cy, fy⟩ := hq3.cell k hlt))
      all_goals
        have hq4 := hq3.put _ h3 t3
        have hb03 := hbe.trans (hb3.mono hbe.size)
        have hb4 : Below w.heap.size w (w3.setCell ⟨w.heap.size, k, none⟩ (.slice p3 (sig' k).length c3)) := hb03.setCell (Nat.le_refl _) _
        clear hq hq3 hb3 hb03 h3 t3 fa fb cy fy hJk
        go_wp2
        go_roundw
        case rel => first | exact ⟨k + 1, by omega, by go_num, hq4, hb4⟩ | ((repeat apply Exists.intro); exact ⟨⟨k + 1, by omega, by go_num, hq4, hb4⟩, rfl⟩)
        case measure => simp [intOf]; omega
    · obtain rfl : k = M := by omega
      have hr := hq.rs
      clear hq
      go_wp2
      go_ret
      exact ⟨rfl, hr, hbe⟩

end Go.Proofs.YtdjaemobfbbkoaaDoor
