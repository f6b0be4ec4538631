/- What this text proves: the walks of the document's Range and part (annalsref11) over this program: what shows a range of digests. -/
import Derived.Test.YtggficgmjbgmpaaDoorJKt
namespace Go.Proofs.YtggficgmjbgmpaaDoor
open Go.RowKit

/-- What shows a range, as the document has it. -/
def rg (size : Int) : Nat → List (List UInt8) → Nat → Nat → List (List UInt8)
  | 0, ls, lo, hi => if lo = hi then [rootF size ls] else []
  | f + 1, ls, lo, hi => if lo = hi then [rootF size ls] else if lo = 0 ∧ hi = ls.length then [] else rg size f (ls.take (half ls.length)) (cl lo 0 (half ls.length)) (cl hi 0 (half ls.length)) ++ rg size f (ls.drop (half ls.length)) (cl lo (half ls.length) ls.length) (cl hi (half ls.length) ls.length)

theorem rg_wo (size : Int) (ls : List (List UInt8)) (lo hi : Nat) (hl : lo ≤ hi) (hb : ls.length ≤ 1048576) : ∀ (f b e : Nat), b < e → e ≤ ls.length → e - b ≤ 2 ^ f → rg size f (seg ls b e) (cl lo b e) (cl hi b e) = (wo lo hi f b e).map (partF size ls) := by
  intro f
  induction f with
  | zero =>
    intro b e h1 h2 h3
    simp at h3
    by_cases hc : cl lo b e = cl hi b e
    · simp only [rg, if_pos hc]
      rw [wo_out (by unfold cl at hc; omega) (by unfold cl at hc; omega)]
      rfl
    · simp only [rg, if_neg hc]
      rw [wo_in (by unfold cl at hc; omega)]
      rfl
  | succ f ih =>
    intro b e h1 h2 h3
    have hsl := seg_length (b := b) h2
    by_cases hc : cl lo b e = cl hi b e
    · simp only [rg, if_pos hc]
      rw [wo_out (by unfold cl at hc; omega) (by unfold cl at hc; omega)]
      rfl
    · by_cases hi2 : cl lo b e = 0 ∧ cl hi b e = e - b
      · simp only [rg, if_neg hc, hsl, if_pos hi2]
        rw [wo_in (by unfold cl at hi2; omega)]
        rfl
      · simp only [rg, if_neg hc, hsl, if_neg hi2]
        have hn : 2 ≤ e - b := by unfold cl at hc hi2; omega
        obtain ⟨q1, q2, q3⟩ := half_bounds hn (by omega)
        obtain ⟨r1, r2⟩ := half_le hn (by omega) h3
        have i1 := ih b (b + half (e - b)) (by omega) (by omega) (by omega)
        have i2 := ih (b + half (e - b)) e (by omega) h2 (by omega)
        rw [wo_fork (by unfold cl at hi2; omega) (by unfold cl at hc; omega), List.map_append, ← i1, ← i2]
        have c1 := cl_one lo b e (b + half (e - b)) (by omega) (by omega)
        have c2 := cl_one hi b e (b + half (e - b)) (by omega) (by omega)
        have c3 := cl_two lo b e (b + half (e - b)) (by omega) (by omega)
        have c4 := cl_two hi b e (b + half (e - b)) (by omega) (by omega)
        rw [show b + half (e - b) - b = half (e - b) by omega] at c1 c2 c3 c4
        rw [c1, c2, c3, c4, seg_take (by omega), seg_drop]

theorem rg_len (size : Int) (f : Nat) (ls : List (List UInt8)) (lo hi : Nat) (h1 : lo ≤ hi) (h2 : hi ≤ ls.length) (h0 : 0 < ls.length) (hb : ls.length ≤ 1048576) (hf : ls.length ≤ 2 ^ f) : rg size f ls lo hi = (wo lo hi f 0 ls.length).map (partF size ls) := by
  have e := rg_wo size ls lo hi h1 hb f 0 ls.length h0 (Nat.le_refl _) (by omega)
  have c1 : cl lo 0 ls.length = lo := by unfold cl; omega
  have c2 : cl hi 0 ls.length = hi := by unfold cl; omega
  rwa [c1, c2, seg_all] at e

theorem wpList_append_rows {P : Program} {w : World} {ops : Array Oper} {rest : List Oper} {o : Oper} {a : Act} {Q : Exit → Act → World → Prop} (hgd : o.guard = none) (s x : Operand) (t : TypeId)
    (ho : o.op = .call { callee := .builtin .append, args := #[s, x], argTypes := #[t, t] })
    (base base2 : Nat) (e : TypeId) (ht : P.underlying t = some (.slice e)) (hi0 : (P.info? e).map (fun i => (i.zero, i.size, i.bytes)) = some (some (.slice none 0 0), 1, 24))
    (v : Value) (n : Nat) (xs ys : List Value) (hs : a.eval s = v) (hown : w.ownsRow base e 1 v n xs)
    (u : Value) (m : Nat) (hx : a.eval x = u) (hsrc : w.ownsRow base2 e 1 u m ys) (h1 : ∀ y ∈ ys, y.oneCell' = true)
    (hbytes : n + m ≤ 4194304) (hbase : base ≤ w.heap.size)
    (h : ∀ v' w', w'.ownsRow base e 1 v' (n + m) (xs ++ ys) → w.grownBy w' v.ownBlock → wpList P ops Q rest (a.put o.dst v') w') : wpList P ops Q (o :: rest) a w := by
  obtain ⟨i, hi, hz, h1', h2⟩ := info_parts hi0
  have hl := hsrc.1
  rw [Nat.mul_one] at hl
  rcases hsrc.2 with ⟨rfl, h0⟩ | ⟨g, cap, cur, rfl, hb, hg, hle, hmx, hcs, htk⟩
  · subst h0
    obtain rfl : ys = [] := List.eq_nil_of_length_eq_zero hl
    exact wpList_append_own_none hgd s x t ho base e i 1 ht hi v n xs hs hown hx (h v w (by simpa using hown) (World.grownBy.refl _ _))
  · refine wpList_append_own w hgd s x t ho base e i (.slice none 0 0) 1 24 ht hi hz h1' h2 rfl (by decide) v n xs hs hown ⟨g, 0, none⟩ m cap ys hx (by omega) ?_ h1 (by unfold maxLen; omega) (by omega) hbase (fun v' w' q1 q2 _ => h v' w' q1 q2)
    intro j y hy
    rw [add_lit, Nat.zero_add, cell_of_row w g j cur _ _ hg]
    have hj : j < ys.length := (List.getElem?_eq_some_iff.1 hy).1
    rw [← htk, List.getElem?_take] at hy
    split at hy
    · simpa using hy
    · cases hy

theorem RL.cells1 {w : World} {vs : List Value} {ls : List (List UInt8)} (h : ∀ (j : Nat) u, vs[j]? = some u → HB w u (ls.getD j []) ∧ TB w u) : ∀ y ∈ vs, y.oneCell' = true := by
  intro y hy
  obtain ⟨j, hj⟩ := List.mem_iff_getElem?.1 hy
  obtain ⟨p, c, e⟩ := (h j y hj).1.shape
  rw [e]
  rfl

/-- Behind an append of rows onto rows. -/
theorem RL.join {w w' : World} {base : Nat} {v v' : Value} {vs ys : List Value} {ls ms : List (List UInt8)} (h1 : w.ownsRow base 39 1 v ls.length vs) (h2 : ∀ (j : Nat) u, vs[j]? = some u → HB w u (ls.getD j []) ∧ TB w u) (h4 : ∀ (j : Nat) u, ys[j]? = some u → HB w u (ms.getD j []) ∧ TB w u)
    (hg : w.grownBy w' v.ownBlock) (ho : w'.ownsRow base 39 1 v' (ls.length + ms.length) (vs ++ ys)) : RL w' base v' (ls ++ ms) := by
  have hl := h1.1
  rw [Nat.mul_one] at hl
  refine ⟨vs ++ ys, by rw [List.length_append]; exact ho, fun j u hu => ?_⟩
  by_cases hj : j < ls.length
  · rw [List.getElem?_append_left (by omega)] at hu
    have e : (ls ++ ms).getD j [] = ls.getD j [] := by simp [List.getD, List.getElem?_append_left hj]
    show HB w' u ((ls ++ ms).getD j []) ∧ TB w' u
    rw [e]
    exact hb_grown h1 hg (h2 j u hu).1 (h2 j u hu).2
  · rw [List.getElem?_append_right (by omega), hl] at hu
    have e : (ls ++ ms).getD j [] = ms.getD (j - ls.length) [] := by simp [List.getD, List.getElem?_append_right (Nat.le_of_not_lt hj)]
    show HB w' u ((ls ++ ms).getD j []) ∧ TB w' u
    rw [e]
    exact hb_grown h1 hg (h4 _ u hu).1 (h4 _ u hu).2

theorem RL.shape {w : World} {base : Nat} {v : Value} {ls : List (List UInt8)} (h : RL w base v ls) : ∃ p c, v = .slice p ls.length c := h.pa.shape

/-- What a call of Range answers. -/
def RSaid (w : World) (L : List (List UInt8)) (x : Ending) (w' : World) : Prop := ∃ p c, x = .returned (.slice p L.length c) ∧ RL w' w.heap.size (.slice p L.length c) L ∧ Below w.heap.size w w'

set_option maxRecDepth 100000 in
set_option maxHeartbeats 2000000 in
theorem rrange_same (size : Int) (p : Option Addr) (c n lo : Nat) (L : List UInt8) (w : World) (h0 : 0 < n) (h2 : lo ≤ n)
    (hR : Calls Tryd.prog 31 #[.int .i64 size, .slice p n c] w fun x w' => ∃ p c, x = .returned (.slice p L.length c) ∧ HB w' (.slice p L.length c) L ∧ Below w.heap.size w w' ∧ TB w' (.slice p L.length c)) :
    Calls Tryd.prog 24 #[.int .i64 size, .slice p n c, .int .i64 (lo : Int), .int .i64 (lo : Int)] w (RSaid w [L]) := by
  have a1 : decide ((lo : Int) < 0) = false := by simp
  have a2 : decide (lo < lo) = false := by simp
  have a3 : decide (n < lo) = false := by simp; omega
  have a4 : ((n : Int) == 0) = false := by simp; omega
  generalize hN : L.length = N at *
  go_enter Tryd.func24, Tryd.ntmps24
  go_wp2_with fail
  refine hR.mono ?_
  rintro x w1 ⟨p1, c1, rfl, k1, hb1, t1⟩
  clear hR
  have H : Hid (RL (w1.alloc (.cells #[.slice p1 N c1] 39)) w.heap.size (.slice (some ⟨w1.heap.size, 0, none⟩) 1 1) [L]) := by
    have bA := (Below.refl w1.heap.size w1).alloc (Nat.le_refl _) (.cells #[.slice p1 N c1] 39)
    refine ⟨[.slice p1 N c1], ⟨rfl, .inr ⟨w1.heap.size, 1, _, rfl, hb1.size, heap_alloc_new w1 _, Nat.le_refl _, by decide, rfl, rfl⟩⟩, fun j u hu => ?_⟩
    cases j with
    | zero => simp at hu; subst hu; exact ⟨k1.later bA, t1.later bA⟩
    | succ j => simp at hu
  have HB1 : Hid (Below w.heap.size w (w1.alloc (.cells #[.slice p1 N c1] 39))) := hb1.alloc hb1.size _
  clear k1 hb1 t1 hN
  go_wp2
  go_ret
  exact ⟨_, _, rfl, H.out, HB1.out⟩

set_option maxRecDepth 100000 in
set_option maxHeartbeats 2000000 in
theorem rrange_all (size : Int) (p : Option Addr) (c n : Nat) (w : World) (h0 : 0 < n) :
    Calls Tryd.prog 24 #[.int .i64 size, .slice p n c, .int .i64 0, .int .i64 (n : Int)] w (RSaid w []) := by
  have a1 : decide ((n : Int) < 0) = false := by simp
  have a3 : decide (n < n) = false := by simp
  have a4 : ((n : Int) == 0) = false := by simp; omega
  have a5 : decide ((n : Int) ≤ 0) = false := by simp; omega
  go_enter Tryd.func24, Tryd.ntmps24
  go_wp2
  go_ret
  exact ⟨none, 0, rfl, RL.nil _ _, Below.refl _ _⟩

set_option maxRecDepth 100000 in
set_option maxHeartbeats 2000000 in
theorem rrange_no (size : Int) (p : Option Addr) (c n : Nat) (lo hi : Int) (w : World) (h : ¬ (0 ≤ lo ∧ lo ≤ hi ∧ hi ≤ (n : Int) ∧ 0 < n)) :
    Calls Tryd.prog 24 #[.int .i64 size, .slice p n c, .int .i64 lo, .int .i64 hi] w (RSaid w []) := by
  by_cases h1 : lo < 0
  · clear h
    go_enter Tryd.func24, Tryd.ntmps24
    go_wp2
    go_ret
    exact ⟨none, 0, rfl, RL.nil _ _, Below.refl _ _⟩
  · have a1 : decide (lo < 0) = false := by simpa using h1
    by_cases h2 : hi < lo
    · clear h
      go_enter Tryd.func24, Tryd.ntmps24
      go_wp2
      go_ret
      exact ⟨none, 0, rfl, RL.nil _ _, Below.refl _ _⟩
    · have a2 : decide (hi < lo) = false := by simpa using h2
      by_cases h3 : (n : Int) < hi
      · clear h
        go_enter Tryd.func24, Tryd.ntmps24
        go_wp2
        go_ret
        exact ⟨none, 0, rfl, RL.nil _ _, Below.refl _ _⟩
      · have a3 : decide ((n : Int) < hi) = false := by simpa using h3
        obtain rfl : n = 0 := by omega
        clear h
        go_enter Tryd.func24, Tryd.ntmps24
        go_wp2
        go_ret
        exact ⟨none, 0, rfl, RL.nil _ _, Below.refl _ _⟩

set_option maxRecDepth 100000 in
set_option maxHeartbeats 2000000 in
theorem rpart_of (size : Int) (p : Option Addr) (c n lo hi : Nat) (x y : Int) (L : List (List UInt8)) (w : World) (hx : max 0 (min x (n : Int)) = (lo : Int)) (hy : max 0 (min y (n : Int)) = (hi : Int)) (hl : lo ≤ hi)
    (hC : Calls Tryd.prog 24 #[.int .i64 size, .slice p n c, .int .i64 (lo : Int), .int .i64 (hi : Int)] w (RSaid w L)) :
    Calls Tryd.prog 39 #[.int .i64 size, .slice p n c, .int .i64 x, .int .i64 y] w (RSaid w L) := by
  obtain ⟨X, hX⟩ : ∃ X : Int, (if (n : Int) < x then (n : Int) else x) = X := ⟨_, rfl⟩
  obtain ⟨Y, hY⟩ : ∃ Y : Int, (if (n : Int) < y then (n : Int) else y) = Y := ⟨_, rfl⟩
  have hX2 : (if 0 < X then X else 0) = (lo : Int) := by rw [← hx, ← hX]; split <;> split <;> omega
  have hY2 : (if 0 < Y then Y else 0) = (hi : Int) := by rw [← hy, ← hY]; split <;> split <;> omega
  have hm1 : (if (lo : Int) < (hi : Int) then (hi : Int) else (lo : Int)) = (hi : Int) := by split <;> omega
  have hm2 : (if lo < hi then (hi : Int) else (lo : Int)) = (hi : Int) := by split <;> omega
  clear hx hy
  go_enter Tryd.func39, Tryd.ntmps39
  go_wp2_with fail
  refine hC.mono ?_
  rintro r w1 ⟨p1, c1, rfl, k1, hb1⟩
  clear hC
  go_wp2
  go_ret
  exact ⟨p1, c1, rfl, k1, hb1⟩

set_option maxRecDepth 100000 in
set_option maxHeartbeats 4000000 in
theorem rrange_fork (size : Int) (p : Option Addr) (c n lo hi k : Nat) (LA LB : List (List UInt8)) (w : World) (h1 : lo < hi) (h2 : hi ≤ n) (hin : ¬ (lo = 0 ∧ hi = n)) (hk : k < n) (hc : n ≤ c) (hb : n ≤ 1048576) (hla : LA.length ≤ 1048576) (hlb : LB.length ≤ 1048576)
    (hS : Calls Tryd.prog 38 #[.int .i64 (n : Int)] w fun x w' => x = .returned (.int .i64 (k : Int)) ∧ w' = w)
    (hP : Calls Tryd.prog 39 #[.int .i64 size, .slice p k c, .int .i64 (lo : Int), .int .i64 (hi : Int)] w (RSaid w LA))
    (hQ : ∀ W, Below w.heap.size w W → Calls Tryd.prog 39 #[.int .i64 size, .slice (cutP p c k) (n - k) (c - k), .int .i64 ((lo : Int) - (k : Int)), .int .i64 ((hi : Int) - (k : Int))] W (RSaid W LB)) :
    Calls Tryd.prog 24 #[.int .i64 size, .slice p n c, .int .i64 (lo : Int), .int .i64 (hi : Int)] w (RSaid w (LA ++ LB)) := by
  have a1 : decide ((lo : Int) < 0) = false := by simp
  have a2 : decide (hi < lo) = false := by simp; omega
  have a3 : decide (n < hi) = false := by simp; omega
  have a4 : ((n : Int) == 0) = false := by simp; omega
  have a5 : ((hi : Int) == (lo : Int)) = false := by simp; omega
  have a6 : decide ((hi : Int) ≤ 0) = false := by simp; omega
  have a7 : decide (n ≤ lo) = false := by simp; omega
  have s1 := fun w => run_kupto (P := Tryd.prog) Tryd.underlying33 s_bytes p n c k (k : Int) rfl (by omega) w
  have s2 := fun w => run_cut (P := Tryd.prog) Tryd.underlying33 s_bytes p n c k (k : Int) rfl (by omega) w
  have hgo : ∀ (B : Bool), ((lo : Int) == 0) = B → (B = true → ((hi : Int) == (n : Int)) = false) → Calls Tryd.prog 24 #[.int .i64 size, .slice p n c, .int .i64 (lo : Int), .int .i64 (hi : Int)] w (RSaid w (LA ++ LB)) := by
    intro B hB hB2
    clear hin
    cases B
    all_goals
      (try have hB3 := hB2 rfl)
      clear hB2
      go_enter Tryd.func24, Tryd.ntmps24
      go_wp2_with fail
      refine hS.mono ?_
      rintro r w1 ⟨rfl, hw⟩
      subst hw
      clear hS
      go_wp2_with fail
      refine hP.mono ?_
      rintro r w2 ⟨p2, c2, rfl, ⟨ys, o2, q2⟩, hb2⟩
      clear hP
      go_wp2_with (first | (at_builtin; refine wpList_append_rows rfl (.tmp 57) (.tmp 64) 33 rfl w1.heap.size w1.heap.size 39 Tryd.underlying33 i_bytes _ 0 [] ys rfl (World.ownsRow_nil _ _ _ _) _ _ rfl o2 (RL.cells1 q2) ?ua ?ub ?_))
      case ua => omega
      case ub => exact hb2.size
      intro v3 w3 hown3 hgrow3
      have r3 : RL w3 w1.heap.size v3 LA := RL.join (ls := []) (World.ownsRow_nil _ _ _ _) (fun j u hu => by simp at hu) q2 hgrow3 (by rw [List.length_nil]; simpa using hown3)
      have b3 : Below w1.heap.size w1 w3 := hb2.grown hgrow3 hb2.size (fun k hk => by cases hk)
      obtain ⟨p3, c3, hv3⟩ := r3.shape
      subst hv3
      obtain ⟨vs, o3, q3⟩ := r3
      have hQ3 := hQ w3 b3
      clear hQ hown3 hgrow3 o2 q2 hb2
      go_wp2_with fail
      refine hQ3.mono ?_
      rintro r w4 ⟨p4, c4, rfl, ⟨zs, o4, q4⟩, hb4⟩
      clear hQ3
      have o3' := owns_later o3 hb4
      have b4 := b3.trans (hb4.mono b3.size)
      go_wp2_with (first | (at_builtin; refine wpList_append_rows rfl (.tmp 66) (.tmp 77) 33 rfl w1.heap.size w3.heap.size 39 Tryd.underlying33 i_bytes _ LA.length vs zs rfl o3' _ _ rfl o4 (RL.cells1 q4) ?uc ?ud ?_))
      case uc => omega
      case ud => exact b4.size
      intro v5 w5 hown5 hgrow5
      have r5 : RL w5 w1.heap.size v5 (LA ++ LB) := RL.join o3' (fun j u hu => ⟨(q3 j u hu).1.later hb4, (q3 j u hu).2.later hb4⟩) q4 hgrow5 hown5
      have b5 : Below w1.heap.size w1 w5 := b4.grown hgrow5 b4.size (fun k hk => (o3'.lt k hk).1)
      obtain ⟨p5, c5, hv5⟩ := r5.shape
      subst hv5
      obtain ⟨N, hN⟩ : ∃ N, N = (LA ++ LB).length := ⟨_, rfl⟩
      rw [← hN] at r5 ⊢
      have HN : Hid (N = (LA ++ LB).length) := hN
      have H : Hid (RL w5 w1.heap.size (.slice p5 N c5) (LA ++ LB)) := r5
      clear hN
      clear r5 hown5 hgrow5 o3' o3 q3 o4 q4 b4 b3 hb4
      go_wp2
      go_ret
      refine ⟨p5, c5, ?_, ?_, b5⟩
      · rw [← HN.out]; rfl
      · rw [← HN.out]; exact H.out
  by_cases hz : lo = 0
  · exact hgo true (by simp; omega) (fun _ => by simp; omega)
  · exact hgo false (by simp; omega) (fun h => by cases h)

theorem rrange_ok (size : Int) : ∀ (f : Nat) (v : Value) (ls : List (List UInt8)) (lo hi : Nat) (w : World), PA w v ls → lo ≤ hi → hi ≤ ls.length → 0 < ls.length → ls.length ≤ 2 ^ f → ls.length ≤ 1048576 → (∀ l ∈ ls, l.length ≤ 140737488355328) →
    Calls Tryd.prog 24 #[.int .i64 size, v, .int .i64 (lo : Int), .int .i64 (hi : Int)] w (RSaid w (rg size f ls lo hi)) := by
  intro f
  induction f with
  | zero =>
    intro v ls lo hi w hp h1 h2 h0 hf hb hl
    obtain ⟨p, c, rfl⟩ := hp.shape
    by_cases hc : lo = hi
    · subst hc
      simp only [rg, if_pos]
      exact rrange_same size p c ls.length lo _ w h0 h2 (rroot_any size 0 _ ls w hp hf hb hl)
    · simp only [rg, if_neg hc]
      simp at hf
      obtain rfl : lo = 0 := by omega
      obtain rfl : hi = ls.length := by omega
      exact rrange_all size p c ls.length w h0
  | succ f ih =>
    intro v ls lo hi w hp h1 h2 h0 hf hb hl
    obtain ⟨p, c, rfl⟩ := hp.shape
    by_cases hc : lo = hi
    · subst hc
      simp only [rg, if_pos]
      exact rrange_same size p c ls.length lo _ w h0 h2 (rroot_any size (f + 1) _ ls w hp hf hb hl)
    · by_cases hin : lo = 0 ∧ hi = ls.length
      · simp only [rg, if_neg hc, if_pos hin]
        obtain ⟨rfl, rfl⟩ := hin
        exact rrange_all size p c ls.length w h0
      · simp only [rg, if_neg hc, if_neg hin]
        have hn : 2 ≤ ls.length := by omega
        obtain ⟨q1, q2, q3⟩ := half_bounds hn (by omega)
        obtain ⟨r1, r2⟩ := half_le hn (by omega) hf
        have hlen := hp.len
        have pA := hp.kfront (half ls.length) (by omega)
        have pB := hp.seg (half ls.length) ls.length (by omega) (Nat.le_refl _)
        have eB : Go.Proofs.YtggficgmjbgmpaaDoor.seg ls (half ls.length) ls.length = ls.drop (half ls.length) := by
          unfold Go.Proofs.YtggficgmjbgmpaaDoor.seg
          exact List.take_of_length_le (by simp)
        rw [eB] at pB
        have lA : (ls.take (half ls.length)).length = half ls.length := by simp; omega
        have lB : (ls.drop (half ls.length)).length = ls.length - half ls.length := by simp
        have l1 : cl lo 0 (half ls.length) ≤ cl hi 0 (half ls.length) := by unfold cl; omega
        have l2 : cl lo (half ls.length) ls.length ≤ cl hi (half ls.length) ls.length := by unfold cl; omega
        have m1 := cl_le hi 0 (half ls.length)
        have m2 := cl_le hi (half ls.length) ls.length
        have bnd : ∀ (ms : List (List UInt8)) (a b : Nat), a ≤ b → b ≤ ms.length → 0 < ms.length → ms.length ≤ 1048576 → ms.length ≤ 2 ^ f → (rg size f ms a b).length ≤ 1048576 := by
          intro ms a b x1 x2 x3 x4 x5
          rw [rg_len size f ms a b x1 x2 x3 x4 x5, List.length_map]
          have := wo_room (lo := a) (hi := b) f 0 ms.length x3 (by omega) (by omega)
          omega
        refine rrange_fork size p c ls.length lo hi (half ls.length) _ _ w (by omega) h2 hin q2 hlen.2.1 hb (bnd _ _ _ l1 (by omega) (by omega) (by omega) (by omega)) (bnd _ _ _ l2 (by omega) (by omega) (by omega) (by omega)) (rsplit2_any _ w hn (by omega)) ?_ ?_
        · exact rpart_of size p c (half ls.length) _ _ (lo : Int) (hi : Int) _ w (by unfold cl; omega) (by unfold cl; omega) l1 (ih (.slice p (half ls.length) c) _ _ _ w pA l1 (by omega) (by omega) (by omega) (by omega) (fun l h => hl l (List.mem_of_mem_take h)))
        · intro W hW
          exact rpart_of size _ _ (ls.length - half ls.length) _ _ _ _ _ W (by unfold cl; omega) (by unfold cl; omega) l2 (ih _ _ _ _ W (pB.later hW) l2 (by omega) (by omega) (by omega) (by omega) (fun l h => hl l (List.mem_of_mem_drop h)))

theorem rrange_any (size : Int) (v : Value) (ls : List (List UInt8)) (lo hi : Int) (w : World) (hp : PA w v ls) (hb : ls.length ≤ 1048576) (hl : ∀ l ∈ ls, l.length ≤ 140737488355328) :
    Calls Tryd.prog 24 #[.int .i64 size, v, .int .i64 lo, .int .i64 hi] w (RSaid w (rngF size ls lo hi)) := by
  unfold rngF
  by_cases h : 0 ≤ lo ∧ lo ≤ hi ∧ hi ≤ (ls.length : Int) ∧ 0 < ls.length
  · rw [if_pos h]
    obtain ⟨A, rfl⟩ : ∃ A : Nat, lo = (A : Int) := ⟨lo.toNat, by omega⟩
    obtain ⟨B, rfl⟩ : ∃ B : Nat, hi = (B : Int) := ⟨hi.toNat, by omega⟩
    simp only [Int.toNat_natCast]
    have := rrange_ok size 20 v ls A B w hp (by omega) (by omega) h.2.2.2 (by omega) hb hl
    rwa [rg_len size 20 ls A B (by omega) (by omega) h.2.2.2 hb (by omega)] at this
  · rw [if_neg h]
    obtain ⟨p, c, rfl⟩ := hp.shape
    exact rrange_no size p c ls.length lo hi w h

end Go.Proofs.YtggficgmjbgmpaaDoor
