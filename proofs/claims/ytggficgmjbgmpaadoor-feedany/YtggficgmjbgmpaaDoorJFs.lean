/- What this text proves: the walk of feed.cuts over this program: a function that goes through a page's cuts. What this text holds: a row of numbers that the call owns is a slice of numbers (plain facts). What this text proves: feed.cuts as a loop's function again, where the loop's rounds may write into two blocks that lay ahead of it. -/
import Derived.Test.YtggficgmjbgmpaaDoorJFdPlain
import Derived.RangeFuncNested
import Derived.RangeFuncBound
import Derived.RangeFuncCalls
import Derived.RangeFuncLeaves
import Derived.RangeFuncBox
import Derived.Maps.AppendAt
import Derived.Shelf.Abstract
import Derived.Shelf.RegionOpen
import Derived.WalkKit
import Derived.OwnWalkIn
import Derived.TacticsInMore
import Derived.LoopNIn
import Derived.LoopIn
import Derived.Test.YtggficgmjbgmpaaDoorJIn
namespace Go.Proofs.YtggficgmjbgmpaaDoor
open Go.RowKit Go.Shelf

attribute [local go_sem] Oper.semAt_some

theorem grown_drew (W : World) : W.grownBy W.drew none := ⟨rfl, rfl, rfl, Nat.le_refl _, fun _ _ _ => rfl⟩

/-- What a cut is handed on as. -/
def encC (x : Nat × Int × Int) : Array Value := #[.int .i64 (x.1 : Int), .agg #[.int .i64 x.2.1, .int .i64 x.2.2]]

set_option maxRecDepth 100000 in
set_option maxHeartbeats 2000000 in
theorem cuts_stopsE (enc : Nat × Int × Int → Array Value) (n S : Nat) (v : Value) (T : List Int) (fr0 lf0 : Int) (w : World) (hn1 : 1 ≤ n) (hfr : -9223372036854775808 ≤ fr0 ∧ fr0 ≤ 9223372036854775807) (hlf : -9223372036854775808 ≤ lf0 ∧ lf0 ≤ 9223372036854775807) (hwT : ∀ x ∈ T, -9223372036854775808 ≤ x ∧ x ≤ 9223372036854775807)
    (c0 : w.cell? ⟨S, 0, none⟩ = some v) (c1 : w.cell? ⟨S + 1, 0, none⟩ = some (.int .i64 fr0)) (c2 : w.cell? ⟨S + 2, 0, none⟩ = some (.int .i64 lf0)) (wT : World) (hi : IZ wT v T) (hwB : Below wT.heap.size wT w) (henc : ∀ x ∈ cutsG 0 T fr0 lf0, enc x = encC x) :
    SeqStopsK Fence.wide n Tryd.prog 32 #[.pointer (some ⟨S + 1, 0, none⟩), .pointer (some ⟨S + 2, 0, none⟩), .pointer (some ⟨S, 0, none⟩)] enc (Below wT.heap.size) (fun xs => xs = cutsG 0 T fr0 lf0) (fun pre => pre <+: cutsG 0 T fr0 lf0) (cutsG 0 T fr0 lf0).length w := fun l J Jx W hW hJ hJx hY h0 => by
  have d0 := cell_later hW c0
  have d1 := cell_later hW c1
  have d2 := cell_later hW c2
  have hmx := hi.len_le
  unfold maxLen at hmx
  obtain ⟨p, c, rfl⟩ := hi.shape
  have hJd : J [] W.drew := hJ [] W W.drew none h0 (grown_drew W) (fun r e => by cases e)
  have hWd : Below wT.heap.size wT W.drew := (hwB.trans (hW.mono hwB.size)).drew
  have HX : Hid ([] ++ cutsG 0 (T.drop 0) fr0 lf0 = cutsG 0 T fr0 lf0) := by show _ = _; simp
  have HW : Hid (∀ x ∈ T, -9223372036854775808 ≤ x ∧ x ≤ 9223372036854775807) := hwT
  have HEN : Hid (∀ x ∈ cutsG 0 T fr0 lf0, enc x = encC x) := henc
  clear henc
  generalize cutsG 0 T fr0 lf0 = X at *
  clear hJ hJx c0 c1 c2 h0 hwT hwB hW
  refine callsIn_of_wp Tryd.func32 rfl trivial ?_ rfl
  simp only [Tryd.ntmps32, List.size_toArray, List.length_cons, List.length_nil, Nat.reduceAdd, Nat.reduceSub, Array.replicate_succ, Array.replicate_zero, List.push_toArray, List.append_toArray, List.nil_append, List.cons_append]
  gi_wp2
  gi_region
  all_goals
    gi_wp2
    gi_loopw [5, 6, 14] (fun a b i wr => ∃ (k : Nat) (pre : List (Nat × Int × Int)) (fr lf : Int), k ≤ T.length ∧ a = .int .i64 fr ∧ b = .int .i64 lf ∧ i = .int .i64 (k : Int) ∧ (-9223372036854775808 ≤ fr ∧ fr ≤ 9223372036854775807) ∧ (-9223372036854775808 ≤ lf ∧ lf ≤ 9223372036854775807) ∧ Hid (pre ++ cutsG k (T.drop k) fr lf = X) ∧ J pre wr ∧ Below wT.heap.size wT wr) (fun _ _ i _ => T.length - (intOf i).toNat)
    case atStart => exact ⟨0, [], fr0, lf0, Nat.zero_le _, rfl, rfl, rfl, hfr, hlf, HX, hJd, hWd⟩
    case round =>
      obtain ⟨k, pre, fr, lf, hk, rfl, rfl, rfl, hr1, hr2, hX, hJs, hbe⟩ := hrel
      by_cases hlt : k < T.length
      · obtain ⟨y, hy⟩ : ∃ y, T[k]? = some y := ⟨_, List.getElem?_eq_getElem hlt⟩
        have hyb := HW.out y (List.mem_of_getElem? hy)
        have hdr := drop_cons hy
        obtain ⟨g1, o1, rfl, q1⟩ := (hi.later hbe).addr (by omega)
        have e1 := q1 k y hy
        have hlt2 : (k : Int) < (T.length : Int) := by omega
        have HD : Hid (T.drop k = y :: T.drop (k + 1)) := hdr
        clear hy hdr q1
        by_cases hs : lf < 1 ∨ fr < 0 ∨ y ≤ fr
        · have hE : pre = X := by
            have := hX.out
            rw [HD.out, cutsG_stop _ _ _ _ _ hs, List.append_nil] at this
            exact this
          clear hX HD HX hY HW
          by_cases h1 : lf < 1
          · gi_wp2
            refine bodyPost_ret (results_none rfl _ _ _) rfl ?_
            first | exact ⟨⟨_, rfl⟩, .inl ⟨pre, hE, hJs⟩⟩ | (subst hE; exact ⟨⟨_, rfl⟩, .inl hJs⟩) | (subst hE; exact .inl hJs)
          · by_cases h2 : fr < 0
            · gi_wp2
              refine bodyPost_ret (results_none rfl _ _ _) rfl ?_
              first | exact ⟨⟨_, rfl⟩, .inl ⟨pre, hE, hJs⟩⟩ | (subst hE; exact ⟨⟨_, rfl⟩, .inl hJs⟩) | (subst hE; exact .inl hJs)
            · have h3 : y ≤ fr := by omega
              gi_wp2
              refine bodyPost_ret (results_none rfl _ _ _) rfl ?_
              first | exact ⟨⟨_, rfl⟩, .inl ⟨pre, hE, hJs⟩⟩ | (subst hE; exact ⟨⟨_, rfl⟩, .inl hJs⟩) | (subst hE; exact .inl hJs)
        · obtain ⟨N, hN⟩ : ∃ N, N = min lf (y - fr) := ⟨_, rfl⟩
          have h1 : ¬ lf < 1 := by omega
          have h2 : ¬ fr < 0 := by omega
          have h3 : ¬ y ≤ fr := by omega
          have hE : Hid (pre ++ (k, fr, fr + N) :: cutsG (k + 1) (T.drop (k + 1)) 0 (lf - N) = X) := by
            have := hX.out
            rw [HD.out, cutsG_go _ _ _ _ _ hs, ← hN] at this
            exact this
          have hlen : pre.length < X.length := by
            rw [← hE.out]
            simp
          have n1 : (if y - fr < lf then y - fr else lf) = N := by split <;> omega
          have n2 : min lf (y - fr) = N := hN.symm
          have n3 : 0 < N := by omega
          have n4 : N ≤ lf := by omega
          have n5 : N ≤ y - fr := by omega
          obtain ⟨fn, tmps, assign, body, hyy, hR⟩ := hY pre (k, fr, fr + N) wr hJs hlen
          rw [HEN.out (k, fr, fr + N) (by rw [← hE.out]; simp)] at hyy
          dsimp only [encC] at hyy
          clear hX HD HX hN hs
          gi_wp2
          refine hR.mono ?_
          rintro e W3 (⟨rfl, hJ3, hk3⟩ | ⟨rfl, hJx3⟩)
          · have hE3 : Hid ((pre ++ [(k, fr, fr + N)]) ++ cutsG (k + 1) (T.drop (k + 1)) 0 (lf - N) = X) := by
              show _ = _
              rw [List.append_assoc]
              exact hE.out
            have hb3 := hbe.trans hk3
            clear hE hR
            gi_wp2
            go_roundw
            case rel => first | exact ⟨k + 1, pre ++ [(k, fr, fr + N)], 0, lf - N, by omega, rfl, by go_num, by go_num, ⟨by omega, by omega⟩, ⟨by omega, by omega⟩, hE3, hJ3, hb3⟩ | ((repeat apply Exists.intro); exact ⟨⟨k + 1, pre ++ [(k, fr, fr + N)], 0, lf - N, by omega, rfl, by go_num, by go_num, ⟨by omega, by omega⟩, ⟨by omega, by omega⟩, hE3, hJ3, hb3⟩, rfl⟩)
            case measure => simp [intOf]; omega
          · gi_wp2
            refine bodyPost_ret (results_none rfl _ _ _) rfl ?_
            exact ⟨⟨_, rfl⟩, .inr ⟨pre ++ [(k, fr, fr + N)], ⟨_, by rw [List.append_assoc]; exact hE.out⟩, hJx3⟩⟩
      · have hE : pre = X := by
          have := hX.out
          rw [List.drop_eq_nil_of_le (by omega)] at this
          simpa [cutsG] using this
        clear hX HX hY HW
        have hge : ¬ ((k : Int) < (T.length : Int)) := by omega
        gi_wp2
        go_end0
        first | exact ⟨⟨_, rfl⟩, .inl ⟨pre, hE, hJs⟩⟩ | (subst hE; exact ⟨⟨_, rfl⟩, .inl hJs⟩) | (subst hE; exact .inl hJs)

theorem cuts_stops (n S : Nat) (v : Value) (T : List Int) (fr0 lf0 : Int) (w : World) (hn1 : 1 ≤ n) (hfr : -9223372036854775808 ≤ fr0 ∧ fr0 ≤ 9223372036854775807) (hlf : -9223372036854775808 ≤ lf0 ∧ lf0 ≤ 9223372036854775807) (hwT : ∀ x ∈ T, -9223372036854775808 ≤ x ∧ x ≤ 9223372036854775807)
    (c0 : w.cell? ⟨S, 0, none⟩ = some v) (c1 : w.cell? ⟨S + 1, 0, none⟩ = some (.int .i64 fr0)) (c2 : w.cell? ⟨S + 2, 0, none⟩ = some (.int .i64 lf0)) (wT : World) (hi : IZ wT v T) (hwB : Below wT.heap.size wT w) :
    SeqStopsK Fence.wide n Tryd.prog 32 #[.pointer (some ⟨S + 1, 0, none⟩), .pointer (some ⟨S + 2, 0, none⟩), .pointer (some ⟨S, 0, none⟩)] encC (Below wT.heap.size) (fun xs => xs = cutsG 0 T fr0 lf0) (fun pre => pre <+: cutsG 0 T fr0 lf0) (cutsG 0 T fr0 lf0).length w :=
  cuts_stopsE encC n S v T fr0 lf0 w hn1 hfr hlf hwT c0 c1 c2 wT hi hwB (fun _ _ => rfl)

/-- A cut of the page: x, if it is one. -/
def fixC (X : List (Nat × Int × Int)) (x : Nat × Int × Int) : Nat × Int × Int := if x ∈ X then x else X.headD x
theorem fixC_mem {X : List (Nat × Int × Int)} {x : Nat × Int × Int} (h : x ∈ X) : fixC X x = x := by unfold fixC; rw [if_pos h]
theorem fixC_in {X : List (Nat × Int × Int)} (x : Nat × Int × Int) (h : 0 < X.length) : fixC X x ∈ X := by
  unfold fixC
  split
  · assumption
  · cases X with
    | nil => simp at h
    | cons a r => simp

/-- The world with the three boxes of cuts. -/
def cuW (w : World) (v : Value) (fr lf : Int) : World := ((w.alloc (.cells #[v] 22)).alloc (.cells #[.int .i64 fr] 3)).alloc (.cells #[.int .i64 lf] 3)
theorem cuW_size (w : World) (v : Value) (fr lf : Int) : (cuW w v fr lf).heap.size = w.heap.size + 3 := by simp [cuW]
theorem cuW_below (w : World) (v : Value) (fr lf : Int) : Below w.heap.size w (cuW w v fr lf) := by
  have b1 := (Below.refl w.heap.size w).alloc (Nat.le_refl _) (.cells #[v] 22)
  have b2 := b1.alloc b1.size (.cells #[.int .i64 fr] 3)
  exact b2.alloc b2.size (.cells #[.int .i64 lf] 3)
theorem cuW_cells (w : World) (v : Value) (fr lf : Int) : (cuW w v fr lf).cell? ⟨w.heap.size, 0, none⟩ = some v ∧ (cuW w v fr lf).cell? ⟨w.heap.size + 1, 0, none⟩ = some (.int .i64 fr) ∧ (cuW w v fr lf).cell? ⟨w.heap.size + 2, 0, none⟩ = some (.int .i64 lf) := by
  have n1 := ((Boxed.new w 22 v).alloc (.cells #[.int .i64 fr] 3)).alloc (.cells #[.int .i64 lf] 3)
  have n2 := (Boxed.new (w.alloc (.cells #[v] 22)) 3 (.int .i64 fr)).alloc (.cells #[.int .i64 lf] 3)
  have n3 := Boxed.new ((w.alloc (.cells #[v] 22)).alloc (.cells #[.int .i64 fr] 3)) 3 (.int .i64 lf)
  simp only [World.size_alloc] at n2 n3
  exact ⟨n1.cell, n2.cell, n3.cell⟩

set_option maxRecDepth 100000 in
set_option maxHeartbeats 1000000 in
theorem seq_any (v : Value) (fr lf : Int) (w : World) (p : Option Addr) (n c : Nat) (hv : v = .slice p n c) : Calls Tryd.prog 21 #[v, .int .i64 fr, .int .i64 lf] w fun e w' => e = .returned (.func (.func 32) #[] #[.pointer (some ⟨w.heap.size + 1, 0, none⟩), .pointer (some ⟨w.heap.size + 2, 0, none⟩), .pointer (some ⟨w.heap.size, 0, none⟩)]) ∧ w' = cuW w v fr lf := by
  subst hv
  have e1 : (w.alloc (.cells #[.slice p n c] 22)).heap.size = w.heap.size + 1 := by simp
  have e2 : ((w.alloc (.cells #[.slice p n c] 22)).alloc (.cells #[.int .i64 fr] 3)).heap.size = w.heap.size + 2 := by simp
  go_enter Tryd.func21, Tryd.ntmps21
  go_wp2
  go_ret
  exact ⟨rfl, rfl⟩

end Go.Proofs.YtggficgmjbgmpaaDoor

namespace Go.Proofs.YtggficgmjbgmpaaDoor
open Go.RowKit

def izs (l : List Int) : List Value := l.map fun x => .int .i64 x
theorem izs_len (l : List Int) : (izs l).length = l.length := by simp [izs]
theorem izs_snoc (l : List Int) (x : Int) : izs (l ++ [x]) = izs l ++ [.int .i64 x] := by simp [izs]

theorem IZ.of_owns {w : World} {base : Nat} {e : TypeId} {v : Value} {n : Nat} {l : List Int} (h : w.ownsRow base e 1 v n (izs l)) : IZ w v l := by
  obtain ⟨h1, h2⟩ := h
  rw [izs_len, Nat.mul_one] at h1
  subst h1
  rcases h2 with ⟨rfl, h0⟩ | ⟨g, cap, cur, rfl, hb, hg, hl, hm, hs, ht⟩
  · obtain rfl : l = [] := List.eq_nil_of_length_eq_zero h0
    exact ⟨none, 0, rfl, Nat.le_refl _, Nat.zero_le _, fun h => absurd rfl h⟩
  · refine ⟨_, cap, rfl, hl, hm, fun _ => ⟨g, 0, rfl, fun i x hx => ?_⟩⟩
    rw [Nat.zero_add, cell_of_row w g i cur e (0, 0) hg]
    have hi : i < l.length := (List.getElem?_eq_some_iff.1 hx).1
    have e1 : (izs l)[i]? = some (.int .i64 x) := by simp [izs, hx]
    rw [← ht, List.getElem?_take, if_pos (by omega)] at e1
    simpa using e1

end Go.Proofs.YtggficgmjbgmpaaDoor

namespace Go.Proofs.YtggficgmjbgmpaaDoor
open Go.RowKit Go.Shelf

attribute [local go_sem] Oper.semAt_some

/-- All stays below N but two blocks. -/
structure KX (N e r : Nat) (A B : World) : Prop where
  os : B.os = A.os
  tape : B.tape = A.tape
  output : B.output = A.output
  size : A.heap.size ≤ B.heap.size
  block : ∀ k, k < N → k ≠ e → k ≠ r → B.heap[k]? = A.heap[k]?

theorem KX.trans {N e r : Nat} {A B C : World} (h : KX N e r A B) (k : KX N e r B C) : KX N e r A C :=
  ⟨k.os.trans h.os, k.tape.trans h.tape, k.output.trans h.output, Nat.le_trans h.size k.size, fun i a b c => (k.block i a b c).trans (h.block i a b c)⟩

theorem KX.of_below {N n e r : Nat} {A B : World} (h : Below n A B) (hn : N ≤ n) : KX N e r A B := ⟨h.os, h.tape, h.output, h.size, fun k hk _ _ => h.block k (by omega)⟩

theorem KX.set {N e r : Nat} (A : World) (b o : Nat) (v : Value) (h : b = e ∨ b = r ∨ N ≤ b) : KX N e r A (A.setCell ⟨b, o, none⟩ v) :=
  ⟨rfl, rfl, rfl, (KeepsWalks.setCell A _ v).size, fun k h1 h2 h3 => Below.heap_setCell _ _ _ k (fun q => by
    have q' : k = b := q
    omega)⟩

theorem KX.below {N n e r : Nat} {w A B : World} (h : Below n w A) (k : KX N e r A B) (h1 : n ≤ N) (h2 : n ≤ e) (h3 : n ≤ r) : Below n w B :=
  ⟨k.os.trans h.os, k.tape.trans h.tape, k.output.trans h.output, Nat.le_trans h.size k.size, fun i hi => (k.block i (by omega) (by omega) (by omega)).trans (h.block i hi)⟩

theorem kx_own {β : Type} {N e r n : Nat} {w : World} (h1 : N ≤ w.heap.size) (h2 : N ≤ n) : OwnFrom n (fun (_ : β) W => KX N e r w W) :=
  fun _ A _ _ hs hg hr => hs.trans (KX.of_below ((Below.refl N A).grown hg (Nat.le_trans h1 hs.size) (fun k q => Nat.le_trans h2 (hr k q).1)) (Nat.le_refl _))

theorem ownsRow_blk {W W' : World} {base e s g o n c m : Nat} {vs : List Value} (h : W.ownsRow base e s (.slice (some ⟨g, o, none⟩) n c) m vs) (hb : W'.heap[g]? = W.heap[g]?) : W'.ownsRow base e s (.slice (some ⟨g, o, none⟩) n c) m vs := by
  obtain ⟨h1, h2⟩ := h
  rcases h2 with ⟨q, _⟩ | ⟨g', cap, cur, q, q1, q2, q3⟩
  · cases q
  · simp only [Value.slice.injEq, Option.some.injEq, Addr.mk.injEq, and_true] at q
    obtain ⟨⟨rfl, rfl⟩, rfl, rfl⟩ := q
    exact ⟨h1, .inr ⟨_, _, cur, rfl, q1, hb.trans q2, q3⟩⟩

set_option maxRecDepth 100000 in
set_option maxHeartbeats 2000000 in
theorem cuts_stopsK (Kp : World → World → Prop) (Rel : World → Prop) (enc : Nat × Int × Int → Array Value) (n S : Nat) (v : Value) (T : List Int) (fr0 lf0 : Int) (w : World) (hn1 : 1 ≤ n) (hfr : -9223372036854775808 ≤ fr0 ∧ fr0 ≤ 9223372036854775807) (hlf : -9223372036854775808 ≤ lf0 ∧ lf0 ≤ 9223372036854775807) (hwT : ∀ x ∈ T, -9223372036854775808 ≤ x ∧ x ≤ 9223372036854775807)
    (c0 : w.cell? ⟨S, 0, none⟩ = some v) (c1 : w.cell? ⟨S + 1, 0, none⟩ = some (.int .i64 fr0)) (c2 : w.cell? ⟨S + 2, 0, none⟩ = some (.int .i64 lf0)) (wT : World) (hi : IZ wT v T) (HRI : Hid (∀ W, Rel W → IZ W v T)) (HR0 : Hid (∀ W, Below w.heap.size w W → Rel W.drew)) (HRk : Hid (∀ A B, Rel A → Kp A B → Rel B)) (henc : ∀ x ∈ cutsG 0 T fr0 lf0, enc x = encC x) :
    SeqStopsK Fence.wide n Tryd.prog 32 #[.pointer (some ⟨S + 1, 0, none⟩), .pointer (some ⟨S + 2, 0, none⟩), .pointer (some ⟨S, 0, none⟩)] enc Kp (fun xs => xs = cutsG 0 T fr0 lf0) (fun pre => pre <+: cutsG 0 T fr0 lf0) (cutsG 0 T fr0 lf0).length w := fun l J Jx W hW hJ hJx hY h0 => by
  have d0 := cell_later hW c0
  have d1 := cell_later hW c1
  have d2 := cell_later hW c2
  have hmx := hi.len_le
  unfold maxLen at hmx
  obtain ⟨p, c, rfl⟩ := hi.shape
  have hJd : J [] W.drew := hJ [] W W.drew none h0 (grown_drew W) (fun r e => by cases e)
  have hWd : Rel W.drew := HR0.out W hW
  have HX : Hid ([] ++ cutsG 0 (T.drop 0) fr0 lf0 = cutsG 0 T fr0 lf0) := by show _ = _; simp
  have HW : Hid (∀ x ∈ T, -9223372036854775808 ≤ x ∧ x ≤ 9223372036854775807) := hwT
  have HEN : Hid (∀ x ∈ cutsG 0 T fr0 lf0, enc x = encC x) := henc
  clear henc
  generalize cutsG 0 T fr0 lf0 = X at *
  clear hJ hJx c0 c1 c2 h0 hwT hW HR0
  refine callsIn_of_wp Tryd.func32 rfl trivial ?_ rfl
  simp only [Tryd.ntmps32, List.size_toArray, List.length_cons, List.length_nil, Nat.reduceAdd, Nat.reduceSub, Array.replicate_succ, Array.replicate_zero, List.push_toArray, List.append_toArray, List.nil_append, List.cons_append]
  gi_wp2
  gi_region
  all_goals
    gi_wp2
    gi_loopw [5, 6, 14] (fun a b i wr => ∃ (k : Nat) (pre : List (Nat × Int × Int)) (fr lf : Int), k ≤ T.length ∧ a = .int .i64 fr ∧ b = .int .i64 lf ∧ i = .int .i64 (k : Int) ∧ (-9223372036854775808 ≤ fr ∧ fr ≤ 9223372036854775807) ∧ (-9223372036854775808 ≤ lf ∧ lf ≤ 9223372036854775807) ∧ Hid (pre ++ cutsG k (T.drop k) fr lf = X) ∧ J pre wr ∧ Rel wr) (fun _ _ i _ => T.length - (intOf i).toNat)
    case atStart => exact ⟨0, [], fr0, lf0, Nat.zero_le _, rfl, rfl, rfl, hfr, hlf, HX, hJd, hWd⟩
    case round =>
      obtain ⟨k, pre, fr, lf, hk, rfl, rfl, rfl, hr1, hr2, hX, hJs, hbe⟩ := hrel
      by_cases hlt : k < T.length
      · obtain ⟨y, hy⟩ : ∃ y, T[k]? = some y := ⟨_, List.getElem?_eq_getElem hlt⟩
        have hyb := HW.out y (List.mem_of_getElem? hy)
        have hdr := drop_cons hy
        obtain ⟨g1, o1, rfl, q1⟩ := (HRI.out wr hbe).addr (by omega)
        have e1 := q1 k y hy
        have hlt2 : (k : Int) < (T.length : Int) := by omega
        have HD : Hid (T.drop k = y :: T.drop (k + 1)) := hdr
        clear hy hdr q1
        by_cases hs : lf < 1 ∨ fr < 0 ∨ y ≤ fr
        · have hE : pre = X := by
            have := hX.out
            rw [HD.out, cutsG_stop _ _ _ _ _ hs, List.append_nil] at this
            exact this
          clear hX HD HX hY HW
          by_cases h1 : lf < 1
          · gi_wp2
            refine bodyPost_ret (results_none rfl _ _ _) rfl ?_
            first | exact ⟨⟨_, rfl⟩, .inl ⟨pre, hE, hJs⟩⟩ | (subst hE; exact ⟨⟨_, rfl⟩, .inl hJs⟩) | (subst hE; exact .inl hJs)
          · by_cases h2 : fr < 0
            · gi_wp2
              refine bodyPost_ret (results_none rfl _ _ _) rfl ?_
              first | exact ⟨⟨_, rfl⟩, .inl ⟨pre, hE, hJs⟩⟩ | (subst hE; exact ⟨⟨_, rfl⟩, .inl hJs⟩) | (subst hE; exact .inl hJs)
            · have h3 : y ≤ fr := by omega
              gi_wp2
              refine bodyPost_ret (results_none rfl _ _ _) rfl ?_
              first | exact ⟨⟨_, rfl⟩, .inl ⟨pre, hE, hJs⟩⟩ | (subst hE; exact ⟨⟨_, rfl⟩, .inl hJs⟩) | (subst hE; exact .inl hJs)
        · obtain ⟨N, hN⟩ : ∃ N, N = min lf (y - fr) := ⟨_, rfl⟩
          have h1 : ¬ lf < 1 := by omega
          have h2 : ¬ fr < 0 := by omega
          have h3 : ¬ y ≤ fr := by omega
          have hE : Hid (pre ++ (k, fr, fr + N) :: cutsG (k + 1) (T.drop (k + 1)) 0 (lf - N) = X) := by
            have := hX.out
            rw [HD.out, cutsG_go _ _ _ _ _ hs, ← hN] at this
            exact this
          have hlen : pre.length < X.length := by
            rw [← hE.out]
            simp
          have n1 : (if y - fr < lf then y - fr else lf) = N := by split <;> omega
          have n2 : min lf (y - fr) = N := hN.symm
          have n3 : 0 < N := by omega
          have n4 : N ≤ lf := by omega
          have n5 : N ≤ y - fr := by omega
          obtain ⟨fn, tmps, assign, body, hyy, hR⟩ := hY pre (k, fr, fr + N) wr hJs hlen
          rw [HEN.out (k, fr, fr + N) (by rw [← hE.out]; simp)] at hyy
          dsimp only [encC] at hyy
          clear hX HD HX hN hs
          gi_wp2
          refine hR.mono ?_
          rintro e W3 (⟨rfl, hJ3, hk3⟩ | ⟨rfl, hJx3⟩)
          · have hE3 : Hid ((pre ++ [(k, fr, fr + N)]) ++ cutsG (k + 1) (T.drop (k + 1)) 0 (lf - N) = X) := by
              show _ = _
              rw [List.append_assoc]
              exact hE.out
            have hb3 := HRk.out _ _ hbe hk3
            clear hE hR
            gi_wp2
            go_roundw
            case rel => first | exact ⟨k + 1, pre ++ [(k, fr, fr + N)], 0, lf - N, by omega, rfl, by go_num, by go_num, ⟨by omega, by omega⟩, ⟨by omega, by omega⟩, hE3, hJ3, hb3⟩ | ((repeat apply Exists.intro); exact ⟨⟨k + 1, pre ++ [(k, fr, fr + N)], 0, lf - N, by omega, rfl, by go_num, by go_num, ⟨by omega, by omega⟩, ⟨by omega, by omega⟩, hE3, hJ3, hb3⟩, rfl⟩)
            case measure => simp [intOf]; omega
          · gi_wp2
            refine bodyPost_ret (results_none rfl _ _ _) rfl ?_
            exact ⟨⟨_, rfl⟩, .inr ⟨pre ++ [(k, fr, fr + N)], ⟨_, by rw [List.append_assoc]; exact hE.out⟩, hJx3⟩⟩
      · have hE : pre = X := by
          have := hX.out
          rw [List.drop_eq_nil_of_le (by omega)] at this
          simpa [cutsG] using this
        clear hX HX hY HW
        have hge : ¬ ((k : Int) < (T.length : Int)) := by omega
        gi_wp2
        go_end0
        first | exact ⟨⟨_, rfl⟩, .inl ⟨pre, hE, hJs⟩⟩ | (subst hE; exact ⟨⟨_, rfl⟩, .inl hJs⟩) | (subst hE; exact .inl hJs)

end Go.Proofs.YtggficgmjbgmpaaDoor
