/- What this text proves: the walk of feed.cuts over this program: a function that goes through a page's cuts. -/
import Derived.Test.YtnnfbaboiilmiaaFdPlain
import Derived.RangeFuncNested
import Derived.RangeFuncBound
import Derived.RangeFuncCalls
import Derived.RangeFuncLeaves
import Derived.RangeFuncBox
import Derived.Maps.AppendAt
import Derived.Shelf.Abstract
import Derived.Shelf.RegionOpen
import Derived.WalkKit
import Derived.OwnWalkIn
import Derived.TacticsInMore
import Derived.LoopNIn
import Derived.LoopIn
namespace Go.Proofs.Ytnnfbaboiilmiaa
open Go.RowKit Go.Shelf

attribute [local go_sem] Oper.semAt_some

theorem grown_drew (W : World) : W.grownBy W.drew none := ⟨rfl, rfl, rfl, Nat.le_refl _, fun _ _ _ => rfl⟩

/-- What a cut is handed on as. -/
def encC (x : Nat × Int × Int) : Array Value := #[.int .i64 (x.1 : Int), .agg #[.int .i64 x.2.1, .int .i64 x.2.2]]

set_option maxRecDepth 100000 in
set_option maxHeartbeats 2000000 in
theorem cuts_stops (n S : Nat) (v : Value) (T : List Int) (fr0 lf0 : Int) (w : World) (hn1 : 1 ≤ n) (hfr : -9223372036854775808 ≤ fr0 ∧ fr0 ≤ 9223372036854775807) (hlf : -9223372036854775808 ≤ lf0 ∧ lf0 ≤ 9223372036854775807) (hwT : ∀ x ∈ T, -9223372036854775808 ≤ x ∧ x ≤ 9223372036854775807)
    (c0 : w.cell? ⟨S, 0, none⟩ = some v) (c1 : w.cell? ⟨S + 1, 0, none⟩ = some (.int .i64 fr0)) (c2 : w.cell? ⟨S + 2, 0, none⟩ = some (.int .i64 lf0)) (wT : World) (hi : IZ wT v T) (hwB : Below wT.heap.size wT w) :
    SeqStopsK Fence.wide n Try.prog 8 #[.pointer (some ⟨S + 1, 0, none⟩), .pointer (some ⟨S + 2, 0, none⟩), .pointer (some ⟨S, 0, none⟩)] encC (Below wT.heap.size) (fun xs => xs = cutsG 0 T fr0 lf0) (fun pre => pre <+: cutsG 0 T fr0 lf0) (cutsG 0 T fr0 lf0).length w := fun l J Jx W hW hJ hJx hY h0 => by
  have d0 := cell_later hW c0
  have d1 := cell_later hW c1
  have d2 := cell_later hW c2
  have hmx := hi.len_le
  unfold maxLen at hmx
  obtain ⟨p, c, rfl⟩ := hi.shape
  have hJd : J [] W.drew := hJ [] W W.drew none h0 (grown_drew W) (fun r e => by cases e)
  have hWd : Below wT.heap.size wT W.drew := (hwB.trans (hW.mono hwB.size)).drew
  have HX : Hid ([] ++ cutsG 0 (T.drop 0) fr0 lf0 = cutsG 0 T fr0 lf0) := by show _ = _; simp
  have HW : Hid (∀ x ∈ T, -9223372036854775808 ≤ x ∧ x ≤ 9223372036854775807) := hwT
  generalize cutsG 0 T fr0 lf0 = X at *
  clear hJ hJx c0 c1 c2 h0 hwT hwB hW
  refine callsIn_of_wp Try.func8 rfl trivial ?_ rfl
  simp only [Try.ntmps8, List.size_toArray, List.length_cons, List.length_nil, Nat.reduceAdd, Nat.reduceSub, Array.replicate_succ, Array.replicate_zero, List.push_toArray, List.append_toArray, List.nil_append, List.cons_append]
  gi_wp2
  gi_region
  all_goals
    gi_wp2
    gi_loopw [5, 6, 14] (fun a b i wr => ∃ (k : Nat) (pre : List (Nat × Int × Int)) (fr lf : Int), k ≤ T.length ∧ a = .int .i64 fr ∧ b = .int .i64 lf ∧ i = .int .i64 (k : Int) ∧ (-9223372036854775808 ≤ fr ∧ fr ≤ 9223372036854775807) ∧ (-9223372036854775808 ≤ lf ∧ lf ≤ 9223372036854775807) ∧ Hid (pre ++ cutsG k (T.drop k) fr lf = X) ∧ J pre wr ∧ Below wT.heap.size wT wr) (fun _ _ i _ => T.length - (intOf i).toNat)
    case atStart => exact ⟨0, [], fr0, lf0, Nat.zero_le _, rfl, rfl, rfl, hfr, hlf, HX, hJd, hWd⟩
    case round =>
      obtain ⟨k, pre, fr, lf, hk, rfl, rfl, rfl, hr1, hr2, hX, hJs, hbe⟩ := hrel
      by_cases hlt : k < T.length
      · obtain ⟨y, hy⟩ : ∃ y, T[k]? = some y := ⟨_, List.getElem?_eq_getElem hlt⟩
        have hyb := HW.out y (List.mem_of_getElem? hy)
        have hdr := drop_cons hy
        obtain ⟨g1, o1, rfl, q1⟩ := (hi.later hbe).addr (by omega)
        have e1 := q1 k y hy
        have hlt2 : (k : Int) < (T.length : Int) := by omega
        have HD : Hid (T.drop k = y :: T.drop (k + 1)) := hdr
        clear hy hdr q1
        by_cases hs : lf < 1 ∨ fr < 0 ∨ y ≤ fr
        · have hE : pre = X := by
            have := hX.out
            rw [HD.out, cutsG_stop _ _ _ _ _ hs, List.append_nil] at this
            exact this
          clear hX HD HX hY HW
          by_cases h1 : lf < 1
          · gi_wp2
            refine bodyPost_ret (results_none rfl _ _ _) rfl ?_
            first | exact ⟨⟨_, rfl⟩, .inl ⟨pre, hE, hJs⟩⟩ | (subst hE; exact ⟨⟨_, rfl⟩, .inl hJs⟩) | (subst hE; exact .inl hJs)
          · by_cases h2 : fr < 0
            · gi_wp2
              refine bodyPost_ret (results_none rfl _ _ _) rfl ?_
              first | exact ⟨⟨_, rfl⟩, .inl ⟨pre, hE, hJs⟩⟩ | (subst hE; exact ⟨⟨_, rfl⟩, .inl hJs⟩) | (subst hE; exact .inl hJs)
            · have h3 : y ≤ fr := by omega
              gi_wp2
              refine bodyPost_ret (results_none rfl _ _ _) rfl ?_
              first | exact ⟨⟨_, rfl⟩, .inl ⟨pre, hE, hJs⟩⟩ | (subst hE; exact ⟨⟨_, rfl⟩, .inl hJs⟩) | (subst hE; exact .inl hJs)
        · obtain ⟨N, hN⟩ : ∃ N, N = min lf (y - fr) := ⟨_, rfl⟩
          have h1 : ¬ lf < 1 := by omega
          have h2 : ¬ fr < 0 := by omega
          have h3 : ¬ y ≤ fr := by omega
          have hE : Hid (pre ++ (k, fr, fr + N) :: cutsG (k + 1) (T.drop (k + 1)) 0 (lf - N) = X) := by
            have := hX.out
            rw [HD.out, cutsG_go _ _ _ _ _ hs, ← hN] at this
            exact this
          have hlen : pre.length < X.length := by
            rw [← hE.out]
            simp
          have n1 : (if y - fr < lf then y - fr else lf) = N := by split <;> omega
          have n2 : min lf (y - fr) = N := hN.symm
          have n3 : 0 < N := by omega
          have n4 : N ≤ lf := by omega
          have n5 : N ≤ y - fr := by omega
          obtain ⟨fn, tmps, assign, body, hyy, hR⟩ := hY pre (k, fr, fr + N) wr hJs hlen
          dsimp only [encC] at hyy
          clear hX HD HX hN hs
          gi_wp2
          refine hR.mono ?_
          rintro e W3 (⟨rfl, hJ3, hk3⟩ | ⟨rfl, hJx3⟩)
          · have hE3 : Hid ((pre ++ [(k, fr, fr + N)]) ++ cutsG (k + 1) (T.drop (k + 1)) 0 (lf - N) = X) := by
              show _ = _
              rw [List.append_assoc]
              exact hE.out
            have hb3 := hbe.trans hk3
            clear hE hR
            gi_wp2
            go_roundw
            case rel => first | exact ⟨k + 1, pre ++ [(k, fr, fr + N)], 0, lf - N, by omega, rfl, by go_num, by go_num, ⟨by omega, by omega⟩, ⟨by omega, by omega⟩, hE3, hJ3, hb3⟩ | ((repeat apply Exists.intro); exact ⟨⟨k + 1, pre ++ [(k, fr, fr + N)], 0, lf - N, by omega, rfl, by go_num, by go_num, ⟨by omega, by omega⟩, ⟨by omega, by omega⟩, hE3, hJ3, hb3⟩, rfl⟩)
            case measure => simp [intOf]; omega
          · gi_wp2
            refine bodyPost_ret (results_none rfl _ _ _) rfl ?_
            exact ⟨⟨_, rfl⟩, .inr ⟨pre ++ [(k, fr, fr + N)], ⟨_, by rw [List.append_assoc]; exact hE.out⟩, hJx3⟩⟩
      · have hE : pre = X := by
          have := hX.out
          rw [List.drop_eq_nil_of_le (by omega)] at this
          simpa [cutsG] using this
        clear hX HX hY HW
        have hge : ¬ ((k : Int) < (T.length : Int)) := by omega
        gi_wp2
        go_end0
        first | exact ⟨⟨_, rfl⟩, .inl ⟨pre, hE, hJs⟩⟩ | (subst hE; exact ⟨⟨_, rfl⟩, .inl hJs⟩) | (subst hE; exact .inl hJs)

/-- The world with the three boxes of cuts. -/
def cuW (w : World) (v : Value) (fr lf : Int) : World := ((w.alloc (.cells #[v] 22)).alloc (.cells #[.int .i64 fr] 3)).alloc (.cells #[.int .i64 lf] 3)
theorem cuW_size (w : World) (v : Value) (fr lf : Int) : (cuW w v fr lf).heap.size = w.heap.size + 3 := by simp [cuW]
theorem cuW_below (w : World) (v : Value) (fr lf : Int) : Below w.heap.size w (cuW w v fr lf) := by
  have b1 := (Below.refl w.heap.size w).alloc (Nat.le_refl _) (.cells #[v] 22)
  have b2 := b1.alloc b1.size (.cells #[.int .i64 fr] 3)
  exact b2.alloc b2.size (.cells #[.int .i64 lf] 3)
theorem cuW_cells (w : World) (v : Value) (fr lf : Int) : (cuW w v fr lf).cell? ⟨w.heap.size, 0, none⟩ = some v ∧ (cuW w v fr lf).cell? ⟨w.heap.size + 1, 0, none⟩ = some (.int .i64 fr) ∧ (cuW w v fr lf).cell? ⟨w.heap.size + 2, 0, none⟩ = some (.int .i64 lf) := by
  have n1 := ((Boxed.new w 22 v).alloc (.cells #[.int .i64 fr] 3)).alloc (.cells #[.int .i64 lf] 3)
  have n2 := (Boxed.new (w.alloc (.cells #[v] 22)) 3 (.int .i64 fr)).alloc (.cells #[.int .i64 lf] 3)
  have n3 := Boxed.new ((w.alloc (.cells #[v] 22)).alloc (.cells #[.int .i64 fr] 3)) 3 (.int .i64 lf)
  simp only [World.size_alloc] at n2 n3
  exact ⟨n1.cell, n2.cell, n3.cell⟩

set_option maxHeartbeats 1000000 in
theorem seq_any (v : Value) (fr lf : Int) (w : World) (p : Option Addr) (n c : Nat) (hv : v = .slice p n c) : Calls Try.prog 6 #[v, .int .i64 fr, .int .i64 lf] w fun e w' => e = .returned (.func (.func 8) #[] #[.pointer (some ⟨w.heap.size + 1, 0, none⟩), .pointer (some ⟨w.heap.size + 2, 0, none⟩), .pointer (some ⟨w.heap.size, 0, none⟩)]) ∧ w' = cuW w v fr lf := by
  subst hv
  have e1 : (w.alloc (.cells #[.slice p n c] 22)).heap.size = w.heap.size + 1 := by simp
  have e2 : ((w.alloc (.cells #[.slice p n c] 22)).alloc (.cells #[.int .i64 fr] 3)).heap.size = w.heap.size + 2 := by simp
  go_enter Try.func6, Try.ntmps6
  go_wp2
  go_ret
  exact ⟨rfl, rfl⟩

end Go.Proofs.Ytnnfbaboiilmiaa
