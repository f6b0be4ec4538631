/- What this text proves: the walks of merkle.sized, and of the function that merkle.Fold hands to over, over this program. What this text proves: the walk of merkle.Fold over this program: the root that digests, and what shows them, come to, or the error. What this text proves: the walk of merkle.Fold over this program where all is right: the root. -/
import Derived.Test.YtggficgmjbgmpaaDoorJKr
import Derived.Test.YtggficgmjbgmpaaDoorJKt
namespace Go.Proofs.YtggficgmjbgmpaaDoor
open Go.RowKit

/-- What is known of digests inside and outside of a range. -/
def knF (lo hi : Nat) (ins outs : List (List UInt8)) (s b e : Nat) : Option (List UInt8) × Nat :=
  if lo = hi ∨ e ≤ lo ∨ hi ≤ b then (some (outs.getD s []), s + 1) else if e ≤ b + 1 then (some (ins.getD (b - lo) []), s) else (none, s)

theorem knF_one (lo hi : Nat) (ins outs : List (List UInt8)) (s b e : Nat) (h : e ≤ b + 1) : (knF lo hi ins outs s b e).1 ≠ none := by
  unfold knF
  by_cases h1 : lo = hi ∨ e ≤ lo ∨ hi ≤ b
  · simp [h1]
  · simp [h1, h]

/-- The five boxes of Fold. -/
def FB (w0 : World) (g lo hi : Nat) (iv ov : Value) (s : Nat) (w : World) : Prop :=
  w.heap[w0.heap.size]? = some (.cells #[.int .i64 (lo : Int)] 3 (0, 0)) ∧ w.heap[w0.heap.size + 1]? = some (.cells #[iv] 33 (0, 0)) ∧ w.heap[w0.heap.size + 2]? = some (.cells #[ov] 33 (0, 0)) ∧ w.heap[w0.heap.size + 3]? = some (.cells #[.int .i64 (hi : Int)] 3 (0, 0)) ∧ w.heap[g]? = some (.cells #[.int .i64 (s : Int)] 3 (0, 0)) ∧ w0.heap.size + 3 < g ∧ Below w0.heap.size w0 w

theorem FB.later {w0 : World} {g lo hi s : Nat} {iv ov : Value} {w w' : World} (h : FB w0 g lo hi iv ov s w) (hb : Below w.heap.size w w') : FB w0 g lo hi iv ov s w' := by
  obtain ⟨h1, h2, h3, h4, h5, h6, h7⟩ := h
  have l5 := (Array.getElem?_eq_some_iff.1 h5).1
  refine ⟨?_, ?_, ?_, ?_, ?_, h6, h7.trans (hb.mono (by omega))⟩
  · rw [hb.block _ (by omega)]; exact h1
  · rw [hb.block _ (by omega)]; exact h2
  · rw [hb.block _ (by omega)]; exact h3
  · rw [hb.block _ (by omega)]; exact h4
  · rw [hb.block _ l5]; exact h5

theorem FB.put {w0 : World} {g lo hi s : Nat} {iv ov : Value} {w : World} (h : FB w0 g lo hi iv ov s w) (s' : Nat) : FB w0 g lo hi iv ov s' (w.setCell ⟨g, 0, none⟩ (.int .i64 (s' : Int))) := by
  obtain ⟨h1, h2, h3, h4, h5, h6, h7⟩ := h
  have l5 := (Array.getElem?_eq_some_iff.1 h5).1
  have O := (Only.refl g w).setCell 0 (.int .i64 (s' : Int))
  refine ⟨(O.block _ (by omega) (by omega)).trans h1, (O.block _ (by omega) (by omega)).trans h2, (O.block _ (by omega) (by omega)).trans h3, (O.block _ (by omega) (by omega)).trans h4, ?_, h6, ?_⟩
  · rw [heap_setCell_same w g 0 _ _ _ h5]; rfl
  · exact h7.setCell (by simp; omega) _

theorem eg_foldF : ∀ args w, (callFunc 52 args).run Tryd.prog w = .ok (.enter 52 args) w := by intro args w; go_simp

set_option maxRecDepth 100000 in
set_option maxHeartbeats 2000000 in
theorem foldF_walk (w0 : World) (g lo hi : Nat) (iv ov : Value) (ins outs : List (List UInt8)) (s b e : Nat) (w : World) (hpi : PA w0 iv ins) (hpo : PA w0 ov outs) (hhi : hi = lo + ins.length) (hob : outs.length ≤ 140737488355328) (h : FB w0 g lo hi iv ov s w) (hbe : b < e) (he : e ≤ 1048576)
    (hs : (lo = hi ∨ e ≤ lo ∨ hi ≤ b) → s < outs.length) :
    Calls Tryd.prog 52 (#[.int .i64 (b : Int), .int .i64 (e : Int)] ++ #[.pointer (some ⟨w0.heap.size, 0, none⟩), .pointer (some ⟨w0.heap.size + 3, 0, none⟩), .pointer (some ⟨g, 0, none⟩), .pointer (some ⟨w0.heap.size + 2, 0, none⟩), .pointer (some ⟨w0.heap.size + 1, 0, none⟩)]) w fun x w' => Only g w w' ∧ FB w0 g lo hi iv ov (knF lo hi ins outs s b e).2 w' ∧ ((knF lo hi ins outs s b e).1 = none ∧ x = .returned (.tuple #[.slice none 0 0, .bool false]) ∨ ∃ l p c, (knF lo hi ins outs s b e).1 = some l ∧ x = .returned (.tuple #[.slice p l.length c, .bool true]) ∧ HBG w' g (.slice p l.length c) l) := by
  show Calls Tryd.prog 52 #[.int .i64 (b : Int), .int .i64 (e : Int), .pointer (some ⟨w0.heap.size, 0, none⟩), .pointer (some ⟨w0.heap.size + 3, 0, none⟩), .pointer (some ⟨g, 0, none⟩), .pointer (some ⟨w0.heap.size + 2, 0, none⟩), .pointer (some ⟨w0.heap.size + 1, 0, none⟩)] w _
  have H : Hid (FB w0 g lo hi iv ov s w) := h
  obtain ⟨g0, g1, g2, g3, g4, g5, hb⟩ := h
  have c0 : w.cell? ⟨w0.heap.size, 0, none⟩ = some (.int .i64 (lo : Int)) := by rw [cell_of_row w _ _ _ _ _ g0]; rfl
  have c1 : w.cell? ⟨w0.heap.size + 1, 0, none⟩ = some iv := by rw [cell_of_row w _ _ _ _ _ g1]; rfl
  have c2 : w.cell? ⟨w0.heap.size + 2, 0, none⟩ = some ov := by rw [cell_of_row w _ _ _ _ _ g2]; rfl
  have c3 : w.cell? ⟨w0.heap.size + 3, 0, none⟩ = some (.int .i64 (hi : Int)) := by rw [cell_of_row w _ _ _ _ _ g3]; rfl
  have c4 : w.cell? ⟨g, 0, none⟩ = some (.int .i64 (s : Int)) := by rw [cell_of_row w _ _ _ _ _ g4]; rfl
  have f4 : w.frozen? ⟨g, 0, none⟩ = false := by simp [World.frozen?, g4]
  have hA := fun w => apart_any (b : Int) (e : Int) (lo : Int) (hi : Int) w
  clear g0 g1 g2 g3 g4
  by_cases ho : lo = hi ∨ e ≤ lo ∨ hi ≤ b
  · have hk : knF lo hi ins outs s b e = (some (outs.getD s []), s + 1) := by unfold knF; rw [if_pos ho]
    rw [hk]
    have hs' := hs ho
    rw [show decide ((lo : Int) = (hi : Int) ∨ (e : Int) ≤ (lo : Int) ∨ (hi : Int) ≤ (b : Int)) = true by simp; omega] at hA
    obtain ⟨p, c, hv⟩ := hpo.shape
    subst hv
    obtain ⟨bl, o, rfl⟩ := hpo.addr (by omega)
    obtain ⟨q, k, l, hl, hc1, hh⟩ := hpo.get s (by omega)
    have hblk : bl < w0.heap.size := cell_lt hc1
    have hG : HBG w g (.slice q l.length k) l := ⟨hh.later hb, (HBG.old hh (by omega)).2⟩
    have O := (Only.refl g w).setCell 0 (.int .i64 ((s + 1 : Nat) : Int))
    have HG : Hid (HBG (w.setCell ⟨g, 0, none⟩ (.int .i64 ((s + 1 : Nat) : Int))) g (.slice q l.length k) l) := hG.only O
    have HO : Hid (Only g w (w.setCell ⟨g, 0, none⟩ (.int .i64 ((s + 1 : Nat) : Int)))) := O
    have HP : Hid (FB w0 g lo hi iv (.slice (some ⟨bl, o, none⟩) outs.length c) (s + 1) (w.setCell ⟨g, 0, none⟩ (.int .i64 ((s + 1 : Nat) : Int)))) := H.out.put (s + 1)
    have k1 := (World.cell?_of_block (O.block bl (by omega) (Nat.lt_of_lt_of_le hblk hb.size))).trans (cell_later hb hc1)
    have k2 := (World.cell?_of_block (O.block (w0.heap.size + 2) (by omega) (cell_lt c2))).trans c2
    have k4 := World.cell?_setCell_same w ⟨g, 0, none⟩ (.int .i64 ((s + 1 : Nat) : Int)) c4
    rw [getD_of hl]
    have hlt : (s : Int) < (outs.length : Int) := by omega
    clear hk hs hs' hh hl hc1 hG O hpi hpo H hb hhi ho hblk
    simp only [Int.natCast_add, Int.natCast_one] at k1 k2 k4 HG HO HP ⊢
    go_enter Tryd.func52, Tryd.ntmps52
    go_wp2_with fail
    refine (hA _).mono ?_
    rintro x w1 ⟨rfl, hw⟩
    subst hw
    clear hA
    go_wp2
    go_ret2
    exact ⟨HO.out, HP.out, .inr ⟨l, q, k, rfl, rfl, HG.out⟩⟩
  · rw [show decide ((lo : Int) = (hi : Int) ∨ (e : Int) ≤ (lo : Int) ∨ (hi : Int) ≤ (b : Int)) = false by simp; omega] at hA
    by_cases h1 : e ≤ b + 1
    · have hk : knF lo hi ins outs s b e = (some (ins.getD (b - lo) []), s) := by unfold knF; rw [if_neg ho, if_pos h1]
      rw [hk]
      obtain rfl : e = b + 1 := by omega
      obtain ⟨p, c, hv⟩ := hpi.shape
      subst hv
      have hlt : b - lo < ins.length := by omega
      obtain ⟨bl, o, rfl⟩ := hpi.addr (by omega)
      obtain ⟨q, k, l, hl, hc1, hh⟩ := hpi.get (b - lo) hlt
      have HG : Hid (HBG w g (.slice q l.length k) l) := ⟨hh.later hb, (HBG.old hh (by omega)).2⟩
      have k1 := cell_later hb hc1
      rw [getD_of hl]
      have e1 : ((b - lo : Nat) : Int) = (b : Int) - (lo : Int) := by omega
      have hi1 : (0 : Int) ≤ (b : Int) - (lo : Int) := by omega
      have hi2 : (b : Int) - (lo : Int) < (ins.length : Int) := by omega
      have e2 : ((b : Int) - (lo : Int)).toNat = b - lo := by omega
      have d1 : (((b + 1 : Nat) : Int) - (b : Int)) = 1 := by omega
      clear hk hs hh hl hc1 hpi hpo hb f4 h1 hbe hhi ho
      go_enter Tryd.func52, Tryd.ntmps52
      go_wp2_with fail
      refine (hA _).mono ?_
      rintro x w1 ⟨rfl, hw⟩
      subst hw
      clear hA
      go_wp2
      go_ret2
      exact ⟨Only.refl _ _, H.out, .inr ⟨l, q, k, rfl, rfl, HG.out⟩⟩
    · have hk : knF lo hi ins outs s b e = (none, s) := by unfold knF; rw [if_neg ho, if_neg h1]
      rw [hk]
      have d1 : ((e : Int) - (b : Int) == 1) = false := by simp; omega
      clear hk hs hpi hpo hb f4 h1 hhi ho
      go_enter Tryd.func52, Tryd.ntmps52
      go_wp2_with fail
      refine (hA _).mono ?_
      rintro x w1 ⟨rfl, hw⟩
      subst hw
      clear hA
      go_wp2
      go_ret2
      exact ⟨Only.refl _ _, H.out, .inl ⟨by first | trivial | rfl, rfl⟩⟩

/-- All have n bytes. -/
def allLen (n : Int) (ls : List (List UInt8)) : Bool := ls.all fun l => decide ((l.length : Int) = n)

set_option maxRecDepth 100000 in
set_option maxHeartbeats 1000000 in
theorem sizedK_any (n : Int) (v : Value) (ls : List (List UInt8)) (w : World) (hp : PA w v ls) (hbig : ls.length ≤ 140737488355328) :
    Calls Tryd.prog 51 #[.int .i64 n, v] w fun x w' => x = .returned (.bool (allLen n ls)) ∧ w' = w := by
  obtain ⟨p, c, rfl⟩ := hp.shape
  go_enter Tryd.func51, Tryd.ntmps51
  go_wp2
  go_loop [9] (fun i => ∃ k : Nat, k ≤ ls.length ∧ i = .int .i64 (k : Int) ∧ Hid (allLen n (ls.take k) = true)) (fun i => ls.length - (intOf i).toNat)
  case atStart => exact ⟨0, Nat.zero_le _, rfl, rfl⟩
  case round =>
    obtain ⟨k, hk, rfl, ha⟩ := hrel
    by_cases hlt : k < ls.length
    · obtain ⟨bl, o, rfl⟩ := hp.addr (by omega)
      obtain ⟨q, d, l, hl, hc1, hh⟩ := hp.get k hlt
      have hlt2 : (k : Int) < (ls.length : Int) := by omega
      have htk : ls.take (k + 1) = ls.take k ++ [l] := by rw [List.take_add_one, hl]; rfl
      by_cases hn : (l.length : Int) = n
      · have HA : Hid (allLen n (ls.take (k + 1)) = true) := by
          show _ = _
          have := ha.out
          unfold allLen at this ⊢
          rw [htk, List.all_append, this]
          simp [hn]
        subst hn
        clear hh hp hl htk ha
        go_wp2
        go_round
        case rel => exact ⟨k + 1, by omega, by go_num, HA.out⟩
        case measure => simp [intOf]; omega
      · have HA : Hid (allLen n ls = false) := by
          show _ = _
          unfold allLen
          rw [List.all_eq_false]
          exact ⟨l, List.mem_of_getElem? hl, by simpa using hn⟩
        have hne : ((l.length : Int) != n) = true := by simpa using hn
        clear hh hp hl htk ha
        go_wp2
        go_ret
        rw [HA.out]
        exact ⟨rfl, rfl⟩
    · obtain rfl : k = ls.length := by omega
      have HA := ha.out
      rw [List.take_length] at HA
      have HA' : Hid (allLen n ls = true) := HA
      clear ha HA hp
      go_wp2
      go_ret
      rw [HA'.out]
      exact ⟨rfl, rfl⟩

end Go.Proofs.YtggficgmjbgmpaaDoor

namespace Go.Proofs.YtggficgmjbgmpaaDoor
open Go.RowKit

/-- Whether the arguments of Fold may be. -/
def foldOk (size n lo : Int) (k : Nat) : Prop := 0 ≤ lo ∧ lo + (k : Int) ≤ n ∧ n ≤ 1048576 ∧ 1 ≤ size ∧ size ≤ 32

theorem below3 (w : World) (a b c : Obj) : Below w.heap.size w (((w.alloc a).alloc b).alloc c) := by
  have b1 := (Below.refl w.heap.size w).alloc (Nat.le_refl _) a
  have b2 := b1.alloc b1.size b
  exact b2.alloc b2.size c

set_option maxRecDepth 100000 in
set_option maxHeartbeats 2000000 in
theorem fold_arg (size n lo : Int) (iv ov : Value) (ins outs : List (List UInt8)) (w : World) (hi : PA w iv ins) (ho : PA w ov outs) (hn0 : -9223372036854775808 ≤ n) (hn1 : n ≤ 9223372036854775807) (h : ¬ foldOk size n lo ins.length) :
    Calls Tryd.prog 41 #[.int .i64 size, .int .i64 n, .int .i64 lo, iv, ov] w fun x w' => x = .returned (.tuple #[.slice none 0 0, .int .i64 1]) ∧ Below w.heap.size w w' := by
  obtain ⟨p, c, rfl⟩ := hi.shape
  obtain ⟨q, d, rfl⟩ := ho.shape
  have HB : Hid (Below w.heap.size w (((w.alloc (.cells #[.int .i64 lo] 3)).alloc (.cells #[.slice p ins.length c] 33)).alloc (.cells #[.slice q outs.length d] 33))) := below3 w _ _ _
  have c1 : (w.alloc (.cells #[.int .i64 lo] 3)).heap.size = w.heap.size + 1 := by simp
  have hL := hi.le
  unfold maxLen at hL
  unfold foldOk at h
  clear hi ho
  by_cases h1 : lo < 0
  · clear h
    go_enter Tryd.func41, Tryd.ntmps41
    go_wp2
    go_ret2
    exact ⟨rfl, HB.out⟩
  · have d1 : decide (lo < 0) = false := by simpa using h1
    by_cases h2 : n < lo
    · clear h
      go_enter Tryd.func41, Tryd.ntmps41
      go_wp2
      go_ret2
      exact ⟨rfl, HB.out⟩
    · have d2 : decide (n < lo) = false := by simpa using h2
      by_cases h3 : n - lo < (ins.length : Int)
      · clear h
        go_enter Tryd.func41, Tryd.ntmps41
        go_wp2
        go_ret2
        exact ⟨rfl, HB.out⟩
      · have d3 : decide (n - lo < (ins.length : Int)) = false := by simpa using h3
        by_cases h4 : 1048576 < n
        · clear h
          go_enter Tryd.func41, Tryd.ntmps41
          go_wp2
          go_ret2
          exact ⟨rfl, HB.out⟩
        · have d4 : decide (1048576 < n) = false := by simpa using h4
          by_cases h5 : size < 1
          · clear h
            go_enter Tryd.func41, Tryd.ntmps41
            go_wp2
            go_ret2
            exact ⟨rfl, HB.out⟩
          · have d5 : decide (size < 1) = false := by simpa using h5
            have h6 : 32 < size := by omega
            clear h
            go_enter Tryd.func41, Tryd.ntmps41
            go_wp2
            go_ret2
            exact ⟨rfl, HB.out⟩


theorem cf_count (xs : Array Value) (w : World) : (callFunc 50 xs).run Tryd.prog w = .ok (.enter 50 xs) w := by go_simp
theorem cf_sized (xs : Array Value) (w : World) : (callFunc 51 xs).run Tryd.prog w = .ok (.enter 51 xs) w := by go_simp

/-- The four boxes as they are made. -/
def BX (w V : World) (lo hi : Nat) (iv ov : Value) : Prop :=
  V.heap[w.heap.size]? = some (.cells #[.int .i64 (lo : Int)] 3 (0, 0)) ∧ V.heap[w.heap.size + 1]? = some (.cells #[iv] 33 (0, 0)) ∧ V.heap[w.heap.size + 2]? = some (.cells #[ov] 33 (0, 0)) ∧ V.heap[w.heap.size + 3]? = some (.cells #[.int .i64 (hi : Int)] 3 (0, 0)) ∧ Below w.heap.size w V ∧ w.heap.size + 3 < V.heap.size

theorem BX.made (w : World) (lo hi : Nat) (iv ov : Value) : BX w ((((w.alloc (.cells #[.int .i64 (lo : Int)] 3)).alloc (.cells #[iv] 33)).alloc (.cells #[ov] 33)).alloc (.cells #[.int .i64 (hi : Int)] 3)) lo hi iv ov := by
  have n1 := heap_alloc_new w (.cells #[.int .i64 (lo : Int)] 3)
  have b1 := (Below.refl w.heap.size w).alloc (Nat.le_refl _) (.cells #[.int .i64 (lo : Int)] 3)
  have s1 : (w.alloc (.cells #[.int .i64 (lo : Int)] 3)).heap.size = w.heap.size + 1 := by simp
  generalize w.alloc (.cells #[.int .i64 (lo : Int)] 3) = w1 at *
  have n2 := heap_alloc_new w1 (.cells #[iv] 33)
  have b2 := (Below.refl w1.heap.size w1).alloc (Nat.le_refl _) (.cells #[iv] 33)
  have s2 : (w1.alloc (.cells #[iv] 33)).heap.size = w1.heap.size + 1 := by simp
  generalize w1.alloc (.cells #[iv] 33) = w2 at *
  have n3 := heap_alloc_new w2 (.cells #[ov] 33)
  have b3 := (Below.refl w2.heap.size w2).alloc (Nat.le_refl _) (.cells #[ov] 33)
  have s3 : (w2.alloc (.cells #[ov] 33)).heap.size = w2.heap.size + 1 := by simp
  generalize w2.alloc (.cells #[ov] 33) = w3 at *
  have n4 := heap_alloc_new w3 (.cells #[.int .i64 (hi : Int)] 3)
  have b4 := (Below.refl w3.heap.size w3).alloc (Nat.le_refl _) (.cells #[.int .i64 (hi : Int)] 3)
  have s4 : (w3.alloc (.cells #[.int .i64 (hi : Int)] 3)).heap.size = w3.heap.size + 1 := by simp
  generalize w3.alloc (.cells #[.int .i64 (hi : Int)] 3) = w4 at *
  rw [show w1.heap.size = w.heap.size + 1 from s1] at n2
  rw [show w2.heap.size = w.heap.size + 2 by omega] at n3
  rw [show w3.heap.size = w.heap.size + 3 by omega] at n4
  refine ⟨?_, ?_, ?_, n4, ?_, by omega⟩
  · rw [b4.block _ (by omega), b3.block _ (by omega), b2.block _ (by omega)]; exact n1
  · rw [b4.block _ (by omega), b3.block _ (by omega)]; exact n2
  · rw [b4.block _ (by omega)]; exact n3
  · exact ((b1.trans (b2.mono (by omega))).trans (b3.mono (by omega))).trans (b4.mono (by omega))

theorem BX.later {w V V' : World} {lo hi : Nat} {iv ov : Value} (h : BX w V lo hi iv ov) (hb : Below V.heap.size V V') : BX w V' lo hi iv ov := by
  obtain ⟨h1, h2, h3, h4, h5, h6⟩ := h
  have := hb.size
  refine ⟨?_, ?_, ?_, ?_, h5.trans (hb.mono (by omega)), by omega⟩
  · rw [hb.block _ (by omega)]; exact h1
  · rw [hb.block _ (by omega)]; exact h2
  · rw [hb.block _ (by omega)]; exact h3
  · rw [hb.block _ (by omega)]; exact h4

theorem BX.cells {w V : World} {lo hi : Nat} {iv ov : Value} (h : BX w V lo hi iv ov) : V.cell? ⟨w.heap.size, 0, none⟩ = some (.int .i64 (lo : Int)) ∧ V.cell? ⟨w.heap.size + 1, 0, none⟩ = some iv ∧ V.cell? ⟨w.heap.size + 1 + 1, 0, none⟩ = some ov ∧ V.cell? ⟨w.heap.size + 1 + 1 + 1, 0, none⟩ = some (.int .i64 (hi : Int)) := by
  obtain ⟨h1, h2, h3, h4, h5, h6⟩ := h
  refine ⟨?_, ?_, ?_, ?_⟩
  · rw [cell_of_row V _ _ _ _ _ h1]; rfl
  · rw [cell_of_row V _ _ _ _ _ h2]; rfl
  · rw [cell_of_row V _ _ _ _ _ h3]; rfl
  · rw [cell_of_row V _ _ _ _ _ h4]; rfl

set_option maxRecDepth 100000 in
set_option maxHeartbeats 8000000 in
theorem fold_cnt (size : Int) (n lo hi C : Nat) (iv ov : Value) (ins outs : List (List UInt8)) (w : World) (hi' : PA w iv ins) (ho' : PA w ov outs) (hhi : lo + ins.length = hi) (h1 : hi ≤ n) (h2 : n ≤ 1048576) (h3 : 1 ≤ size) (h4 : size ≤ 32) (hC : Hid (cntF (n : Int) (lo : Int) (hi : Int) = C)) (hne : ¬ outs.length = C) :
    Calls Tryd.prog 41 #[.int .i64 size, .int .i64 (n : Int), .int .i64 (lo : Int), iv, ov] w fun x w' => x = .returned (.tuple #[.slice none 0 0, .int .i64 5]) ∧ Below w.heap.size w w' := by
  have hS1 := fun W hp => sizedK_any size iv ins W hp (by omega)
  obtain ⟨p, c, rfl⟩ := hi'.shape
  obtain ⟨q, d, rfl⟩ := ho'.shape
  have hCt := fun w => count_any (n : Int) (lo : Int) (hi : Int) w
  rw [hC.out] at hCt
  have e1 : (lo : Int) + (ins.length : Int) = (hi : Int) := by omega
  have d3 : decide ((n : Int) - (lo : Int) < (ins.length : Int)) = false := by simp; omega
  have d4 : decide ((lo : Int) < 0) = false := by simp
  have d5 : decide (n < lo) = false := by simp; omega
  have d6 : decide ((1048576 : Int) < (n : Int)) = false := by simp; omega
  have d7 : decide (size < 1) = false := by simp; omega
  have d8 : decide (32 < size) = false := by simp; omega
  have d1 : ((outs.length : Int) != (C : Int)) = true := by simp; omega
  obtain ⟨V, hV⟩ : ∃ V, V = (((w.alloc (.cells #[.int .i64 (lo : Int)] 3)).alloc (.cells #[.slice p ins.length c] 33)).alloc (.cells #[.slice q outs.length d] 33)).alloc (.cells #[.int .i64 (hi : Int)] 3) := ⟨_, rfl⟩
  have hX := BX.made w lo hi (.slice p ins.length c) (.slice q outs.length d)
  rw [← hV] at hX
  clear hhi hC hne
  go_enter Tryd.func41, Tryd.ntmps41
  go_wp2_with fail
  rw [← hV]
  clear hV e1
  obtain ⟨v0, v1, v2, v3⟩ := hX.cells
  have hsP := fun W (hB : Below V.heap.size V W) => hS1 W (hi'.later (hX.later hB).2.2.2.2.1)
  clear hS1
  have hHeld := (hX.later ((Below.refl _ V).drew)).cells
  refine wp_region_heldN (by kernel_rfl) (fun w' => w'.cell? ⟨w.heap.size, 0, none⟩ = some (.int .i64 (lo : Int)) ∧ w'.cell? ⟨w.heap.size + 1, 0, none⟩ = some (.slice p ins.length c) ∧ w'.cell? ⟨w.heap.size + 1 + 1, 0, none⟩ = some (.slice q outs.length d) ∧ w'.cell? ⟨w.heap.size + 1 + 1 + 1, 0, none⟩ = some (.int .i64 (hi : Int))) 19 rfl ?_
  refine wpAnyH_take (i := 0) (oi := { dst := some 46, op := Op.load 33 (Operand.tmp 9), type := 33, pos := "merkle.go:100", after := #[], guard := none }) (v := ?v0) rfl (by kernel_rfl) (by kernel_rfl) (by kernel_rfl) (fun _ _ _ h => h) (Or.inl ⟨by rfl, ?y0⟩) hHeld ?r0
  case y0 => (intro w hSw; (try dsimp only at hSw); go_simp) <;> with_reducible rfl
  try simp only [Act.put, List.setIfInBounds_toArray, List.set_cons_zero, List.set_cons_succ]
  refine wpAnyH_take (i := 1) (oi := { dst := some 47, op := Op.call { callee := Callee.builtin Builtin.len, args := #[Operand.tmp 46], argTypes := #[33] }, type := 3, pos := "merkle.go:100", after := #[{ on := 0, ground := Ground.data }], guard := none }) (v := ?v1) rfl (by kernel_rfl) (by kernel_rfl) (by kernel_rfl) (fun _ _ _ h => h) (Or.inl ⟨by rfl, ?y1⟩) hHeld ?r1
  case y1 => (intro w hSw; (try dsimp only at hSw); go_simp) <;> with_reducible rfl
  try simp only [Act.put, List.setIfInBounds_toArray, List.set_cons_zero, List.set_cons_succ]
  refine wpAnyH_take (i := 2) (oi := { dst := some 48, op := Op.move (Operand.tmp 1), type := 3, pos := "merkle.go:100", after := #[], guard := none }) (v := ?v2) rfl (by kernel_rfl) (by kernel_rfl) (by kernel_rfl) (fun _ _ _ h => h) (Or.inl ⟨by rfl, ?y2⟩) hHeld ?r2
  case y2 => (intro w hSw; (try dsimp only at hSw); go_simp) <;> with_reducible rfl
  try simp only [Act.put, List.setIfInBounds_toArray, List.set_cons_zero, List.set_cons_succ]
  refine wpAnyH_take (i := 3) (oi := { dst := some 49, op := Op.load 3 (Operand.tmp 7), type := 3, pos := "merkle.go:100", after := #[], guard := none }) (v := ?v3) rfl (by kernel_rfl) (by kernel_rfl) (by kernel_rfl) (fun _ _ _ h => h) (Or.inl ⟨by rfl, ?y3⟩) hHeld ?r3
  case y3 => (intro w hSw; (try dsimp only at hSw); go_simp) <;> with_reducible rfl
  try simp only [Act.put, List.setIfInBounds_toArray, List.set_cons_zero, List.set_cons_succ]
  refine wpAnyH_take (i := 4) (oi := { dst := some 50, op := Op.load 3 (Operand.tmp 12), type := 3, pos := "merkle.go:100", after := #[], guard := none }) (v := ?v4) rfl (by kernel_rfl) (by kernel_rfl) (by kernel_rfl) (fun _ _ _ h => h) (Or.inl ⟨by rfl, ?y4⟩) hHeld ?r4
  case y4 => (intro w hSw; (try dsimp only at hSw); go_simp) <;> with_reducible rfl
  try simp only [Act.put, List.setIfInBounds_toArray, List.set_cons_zero, List.set_cons_succ]
  refine wpAnyH_ready (rs := [5]) (by kernel_rfl) (by simp) ?_
  refine AllReadyH.cons (o := { dst := some 51, op := Op.call { callee := Callee.value (Operand.func 50), args := #[Operand.tmp 48, Operand.tmp 49, Operand.tmp 50], argTypes := #[3, 3, 3] }, type := 3, pos := "merkle.go:100", after := #[{ on := 2, ground := Ground.data }, { on := 3, ground := Ground.data }, { on := 4, ground := Ground.data }], guard := none }) rfl (fun K hK => ?_) AllReadyH.nil
  go_simp
  refine (hCt _).mono ?_
  rintro e w1 ⟨rfl, hb1'⟩
  have hb1 : Below V.heap.size V w1 := ((Below.refl _ V).drew).trans (hb1'.mono (by simp))
  replace hHeld := (hX.later hb1).cells
  refine hK.out _ _ ?_ (fun _ => ?_)
  · exact hHeld
  clear hK K
  try simp only [Act.put, List.setIfInBounds_toArray, List.set_cons_zero, List.set_cons_succ]
  refine wpAnyH_take (i := 6) (oi := { dst := some 52, op := Op.binOp BinOp.neq 3 (Operand.tmp 47) (Operand.tmp 51) 3, type := 4, pos := "merkle.go:100", after := #[{ on := 1, ground := Ground.data }, { on := 5, ground := Ground.data }], guard := none }) (v := ?v6) rfl (by kernel_rfl) (by kernel_rfl) (by kernel_rfl) (fun _ _ _ h => h) (Or.inl ⟨by rfl, ?y6⟩) hHeld ?r6
  case y6 => (intro w hSw; (try dsimp only at hSw); go_simp) <;> with_reducible rfl
  try simp only [Act.put, List.setIfInBounds_toArray, List.set_cons_zero, List.set_cons_succ]
  refine wpAnyH_take (i := 7) (oi := { dst := some 53, op := Op.move (Operand.tmp 52), type := 4, pos := "merkle.go:100", after := #[{ on := 6, ground := Ground.data }, { on := 5, ground := Ground.chain }], guard := none }) (v := ?v7) rfl (by kernel_rfl) (by kernel_rfl) (by kernel_rfl) (fun _ _ _ h => h) (Or.inl ⟨by rfl, ?y7⟩) hHeld ?r7
  case y7 => (intro w hSw; (try dsimp only at hSw); go_simp) <;> with_reducible rfl
  try simp only [Act.put, List.setIfInBounds_toArray, List.set_cons_zero, List.set_cons_succ]
  refine wpAnyH_take (i := 8) (oi := { dst := some 54, op := Op.move (Operand.tmp 0), type := 3, pos := "merkle.go:100", after := #[{ on := 7, ground := Ground.guard }], guard := some (7, false) }) (v := undef) rfl (by kernel_rfl) (by kernel_rfl) (by kernel_rfl) (fun _ _ _ h => h) (Or.inr ⟨by rfl, rfl⟩) hHeld ?_
  try simp only [Act.put, List.setIfInBounds_toArray, List.set_cons_zero, List.set_cons_succ]
  refine wpAnyH_take (i := 9) (oi := { dst := some 55, op := Op.load 33 (Operand.tmp 8), type := 33, pos := "merkle.go:100", after := #[{ on := 7, ground := Ground.guard }], guard := some (7, false) }) (v := undef) rfl (by kernel_rfl) (by kernel_rfl) (by kernel_rfl) (fun _ _ _ h => h) (Or.inr ⟨by rfl, rfl⟩) hHeld ?_
  try simp only [Act.put, List.setIfInBounds_toArray, List.set_cons_zero, List.set_cons_succ]
  refine wpAnyH_take (i := 10) (oi := { dst := some 56, op := Op.call { callee := Callee.value (Operand.func 51), args := #[Operand.tmp 54, Operand.tmp 55], argTypes := #[3, 33] }, type := 4, pos := "merkle.go:100", after := #[{ on := 8, ground := Ground.data }, { on := 9, ground := Ground.data }, { on := 7, ground := Ground.chain }, { on := 7, ground := Ground.guard }], guard := some (7, false) }) (v := undef) rfl (by kernel_rfl) (by kernel_rfl) (by kernel_rfl) (fun _ _ _ h => h) (Or.inr ⟨by rfl, rfl⟩) hHeld ?_
  try simp only [Act.put, List.setIfInBounds_toArray, List.set_cons_zero, List.set_cons_succ]
  refine wpAnyH_take (i := 11) (oi := { dst := some 57, op := Op.unOp UnOp.not 4 (Operand.tmp 56), type := 4, pos := "merkle.go:100", after := #[{ on := 10, ground := Ground.data }, { on := 7, ground := Ground.guard }], guard := some (7, false) }) (v := undef) rfl (by kernel_rfl) (by kernel_rfl) (by kernel_rfl) (fun _ _ _ h => h) (Or.inr ⟨by rfl, rfl⟩) hHeld ?_
  try simp only [Act.put, List.setIfInBounds_toArray, List.set_cons_zero, List.set_cons_succ]
  refine wpAnyH_take (i := 12) (oi := { dst := some 58, op := Op.pick (Operand.tmp 53) (Operand.const (Value.bool true)) (Operand.tmp 57), type := 4, pos := "merkle.go:100", after := #[{ on := 7, ground := Ground.data }, { on := 11, ground := Ground.data }], guard := none }) (v := ?v12) rfl (by kernel_rfl) (by kernel_rfl) (by kernel_rfl) (fun _ _ _ h => h) (Or.inl ⟨by rfl, ?y12⟩) hHeld ?r12
  case y12 => (intro w hSw; (try dsimp only at hSw); go_simp) <;> with_reducible rfl
  try simp only [Act.put, List.setIfInBounds_toArray, List.set_cons_zero, List.set_cons_succ]
  refine wpAnyH_take (i := 13) (oi := { dst := some 59, op := Op.move (Operand.tmp 58), type := 4, pos := "merkle.go:100", after := #[{ on := 12, ground := Ground.data }, { on := 10, ground := Ground.chain }], guard := none }) (v := ?v13) rfl (by kernel_rfl) (by kernel_rfl) (by kernel_rfl) (fun _ _ _ h => h) (Or.inl ⟨by rfl, ?y13⟩) hHeld ?r13
  case y13 => (intro w hSw; (try dsimp only at hSw); go_simp) <;> with_reducible rfl
  try simp only [Act.put, List.setIfInBounds_toArray, List.set_cons_zero, List.set_cons_succ]
  refine wpAnyH_take (i := 14) (oi := { dst := some 60, op := Op.move (Operand.tmp 0), type := 3, pos := "merkle.go:100", after := #[{ on := 13, ground := Ground.guard }], guard := some (13, false) }) (v := undef) rfl (by kernel_rfl) (by kernel_rfl) (by kernel_rfl) (fun _ _ _ h => h) (Or.inr ⟨by rfl, rfl⟩) hHeld ?_
  try simp only [Act.put, List.setIfInBounds_toArray, List.set_cons_zero, List.set_cons_succ]
  refine wpAnyH_take (i := 15) (oi := { dst := some 61, op := Op.load 33 (Operand.tmp 9), type := 33, pos := "merkle.go:100", after := #[{ on := 13, ground := Ground.guard }], guard := some (13, false) }) (v := undef) rfl (by kernel_rfl) (by kernel_rfl) (by kernel_rfl) (fun _ _ _ h => h) (Or.inr ⟨by rfl, rfl⟩) hHeld ?_
  try simp only [Act.put, List.setIfInBounds_toArray, List.set_cons_zero, List.set_cons_succ]
  refine wpAnyH_take (i := 16) (oi := { dst := some 62, op := Op.call { callee := Callee.value (Operand.func 51), args := #[Operand.tmp 60, Operand.tmp 61], argTypes := #[3, 33] }, type := 4, pos := "merkle.go:100", after := #[{ on := 14, ground := Ground.data }, { on := 15, ground := Ground.data }, { on := 13, ground := Ground.chain }, { on := 13, ground := Ground.guard }], guard := some (13, false) }) (v := undef) rfl (by kernel_rfl) (by kernel_rfl) (by kernel_rfl) (fun _ _ _ h => h) (Or.inr ⟨by rfl, rfl⟩) hHeld ?_
  try simp only [Act.put, List.setIfInBounds_toArray, List.set_cons_zero, List.set_cons_succ]
  refine wpAnyH_take (i := 17) (oi := { dst := some 63, op := Op.unOp UnOp.not 4 (Operand.tmp 62), type := 4, pos := "merkle.go:100", after := #[{ on := 16, ground := Ground.data }, { on := 13, ground := Ground.guard }], guard := some (13, false) }) (v := undef) rfl (by kernel_rfl) (by kernel_rfl) (by kernel_rfl) (fun _ _ _ h => h) (Or.inr ⟨by rfl, rfl⟩) hHeld ?_
  try simp only [Act.put, List.setIfInBounds_toArray, List.set_cons_zero, List.set_cons_succ]
  refine wpAnyH_take (i := 18) (oi := { dst := some 64, op := Op.pick (Operand.tmp 59) (Operand.const (Value.bool true)) (Operand.tmp 63), type := 4, pos := "merkle.go:100", after := #[{ on := 13, ground := Ground.data }, { on := 17, ground := Ground.data }], guard := none }) (v := ?v18) rfl (by kernel_rfl) (by kernel_rfl) (by kernel_rfl) (fun _ _ _ h => h) (Or.inl ⟨by rfl, ?y18⟩) hHeld ?r18
  case y18 => (intro w hSw; (try dsimp only at hSw); go_simp) <;> with_reducible rfl
  try simp only [Act.put, List.setIfInBounds_toArray, List.set_cons_zero, List.set_cons_succ]
  refine wpAnyH_done (by kernel_rfl) ?_ _
  have hB := (hX.later hb1).2.2.2.2.1
  clear hsP hCt v0 v1 v2 v3 hb1 hb1' hX hi' ho' hHeld
  go_wp2
  go_ret2
  exact ⟨rfl, hB⟩

set_option maxRecDepth 100000 in
set_option maxHeartbeats 8000000 in
theorem fold_ins (size : Int) (n lo hi C : Nat) (iv ov : Value) (ins outs : List (List UInt8)) (w : World) (hi' : PA w iv ins) (ho' : PA w ov outs) (hhi : lo + ins.length = hi) (hb : outs.length ≤ 140737488355328) (h1 : hi ≤ n) (h2 : n ≤ 1048576) (h3 : 1 ≤ size) (h4 : size ≤ 32) (hC : Hid (cntF (n : Int) (lo : Int) (hi : Int) = C)) (hne : outs.length = C) (ha : allLen size ins = false) :
    Calls Tryd.prog 41 #[.int .i64 size, .int .i64 (n : Int), .int .i64 (lo : Int), iv, ov] w fun x w' => x = .returned (.tuple #[.slice none 0 0, .int .i64 5]) ∧ Below w.heap.size w w' := by
  have hS1 := fun W hp => sizedK_any size iv ins W hp (by omega)
  have hS2 := fun W hp => sizedK_any size ov outs W hp hb
  obtain ⟨p, c, rfl⟩ := hi'.shape
  obtain ⟨q, d, rfl⟩ := ho'.shape
  have hCt := fun w => count_any (n : Int) (lo : Int) (hi : Int) w
  rw [hC.out] at hCt
  have e1 : (lo : Int) + (ins.length : Int) = (hi : Int) := by omega
  have d3 : decide ((n : Int) - (lo : Int) < (ins.length : Int)) = false := by simp; omega
  have d4 : decide ((lo : Int) < 0) = false := by simp
  have d5 : decide (n < lo) = false := by simp; omega
  have d6 : decide ((1048576 : Int) < (n : Int)) = false := by simp; omega
  have d7 : decide (size < 1) = false := by simp; omega
  have d8 : decide (32 < size) = false := by simp; omega
  have d1 : ((outs.length : Int) != (C : Int)) = false := by simp; omega
  rw [ha] at hS1
  obtain ⟨V, hV⟩ : ∃ V, V = (((w.alloc (.cells #[.int .i64 (lo : Int)] 3)).alloc (.cells #[.slice p ins.length c] 33)).alloc (.cells #[.slice q outs.length d] 33)).alloc (.cells #[.int .i64 (hi : Int)] 3) := ⟨_, rfl⟩
  have hX := BX.made w lo hi (.slice p ins.length c) (.slice q outs.length d)
  rw [← hV] at hX
  clear hhi hC hne ha
  go_enter Tryd.func41, Tryd.ntmps41
  go_wp2_with fail
  rw [← hV]
  clear hV e1
  obtain ⟨v0, v1, v2, v3⟩ := hX.cells
  have hsP := fun W (hB : Below V.heap.size V W) => hS1 W (hi'.later (hX.later hB).2.2.2.2.1)
  have hsQ := fun W (hB : Below V.heap.size V W) => hS2 W (ho'.later (hX.later hB).2.2.2.2.1)
  clear hS1 hS2
  have hHeld := (hX.later ((Below.refl _ V).drew)).cells
  refine wp_region_heldN (by kernel_rfl) (fun w' => w'.cell? ⟨w.heap.size, 0, none⟩ = some (.int .i64 (lo : Int)) ∧ w'.cell? ⟨w.heap.size + 1, 0, none⟩ = some (.slice p ins.length c) ∧ w'.cell? ⟨w.heap.size + 1 + 1, 0, none⟩ = some (.slice q outs.length d) ∧ w'.cell? ⟨w.heap.size + 1 + 1 + 1, 0, none⟩ = some (.int .i64 (hi : Int))) 19 rfl ?_
  refine wpAnyH_take (i := 0) (oi := { dst := some 46, op := Op.load 33 (Operand.tmp 9), type := 33, pos := "merkle.go:100", after := #[], guard := none }) (v := ?v0) rfl (by kernel_rfl) (by kernel_rfl) (by kernel_rfl) (fun _ _ _ h => h) (Or.inl ⟨by rfl, ?y0⟩) hHeld ?r0
  case y0 => (intro w hSw; (try dsimp only at hSw); go_simp) <;> with_reducible rfl
  try simp only [Act.put, List.setIfInBounds_toArray, List.set_cons_zero, List.set_cons_succ]
  refine wpAnyH_take (i := 1) (oi := { dst := some 47, op := Op.call { callee := Callee.builtin Builtin.len, args := #[Operand.tmp 46], argTypes := #[33] }, type := 3, pos := "merkle.go:100", after := #[{ on := 0, ground := Ground.data }], guard := none }) (v := ?v1) rfl (by kernel_rfl) (by kernel_rfl) (by kernel_rfl) (fun _ _ _ h => h) (Or.inl ⟨by rfl, ?y1⟩) hHeld ?r1
  case y1 => (intro w hSw; (try dsimp only at hSw); go_simp) <;> with_reducible rfl
  try simp only [Act.put, List.setIfInBounds_toArray, List.set_cons_zero, List.set_cons_succ]
  refine wpAnyH_take (i := 2) (oi := { dst := some 48, op := Op.move (Operand.tmp 1), type := 3, pos := "merkle.go:100", after := #[], guard := none }) (v := ?v2) rfl (by kernel_rfl) (by kernel_rfl) (by kernel_rfl) (fun _ _ _ h => h) (Or.inl ⟨by rfl, ?y2⟩) hHeld ?r2
  case y2 => (intro w hSw; (try dsimp only at hSw); go_simp) <;> with_reducible rfl
  try simp only [Act.put, List.setIfInBounds_toArray, List.set_cons_zero, List.set_cons_succ]
  refine wpAnyH_take (i := 3) (oi := { dst := some 49, op := Op.load 3 (Operand.tmp 7), type := 3, pos := "merkle.go:100", after := #[], guard := none }) (v := ?v3) rfl (by kernel_rfl) (by kernel_rfl) (by kernel_rfl) (fun _ _ _ h => h) (Or.inl ⟨by rfl, ?y3⟩) hHeld ?r3
  case y3 => (intro w hSw; (try dsimp only at hSw); go_simp) <;> with_reducible rfl
  try simp only [Act.put, List.setIfInBounds_toArray, List.set_cons_zero, List.set_cons_succ]
  refine wpAnyH_take (i := 4) (oi := { dst := some 50, op := Op.load 3 (Operand.tmp 12), type := 3, pos := "merkle.go:100", after := #[], guard := none }) (v := ?v4) rfl (by kernel_rfl) (by kernel_rfl) (by kernel_rfl) (fun _ _ _ h => h) (Or.inl ⟨by rfl, ?y4⟩) hHeld ?r4
  case y4 => (intro w hSw; (try dsimp only at hSw); go_simp) <;> with_reducible rfl
  try simp only [Act.put, List.setIfInBounds_toArray, List.set_cons_zero, List.set_cons_succ]
  refine wpAnyH_ready (rs := [5]) (by kernel_rfl) (by simp) ?_
  refine AllReadyH.cons (o := { dst := some 51, op := Op.call { callee := Callee.value (Operand.func 50), args := #[Operand.tmp 48, Operand.tmp 49, Operand.tmp 50], argTypes := #[3, 3, 3] }, type := 3, pos := "merkle.go:100", after := #[{ on := 2, ground := Ground.data }, { on := 3, ground := Ground.data }, { on := 4, ground := Ground.data }], guard := none }) rfl (fun K hK => ?_) AllReadyH.nil
  go_simp
  refine (hCt _).mono ?_
  rintro e w1 ⟨rfl, hb1'⟩
  have hb1 : Below V.heap.size V w1 := ((Below.refl _ V).drew).trans (hb1'.mono (by simp))
  replace hHeld := (hX.later hb1).cells
  refine hK.out _ _ ?_ (fun _ => ?_)
  · exact hHeld
  clear hK K
  try simp only [Act.put, List.setIfInBounds_toArray, List.set_cons_zero, List.set_cons_succ]
  refine wpAnyH_take (i := 6) (oi := { dst := some 52, op := Op.binOp BinOp.neq 3 (Operand.tmp 47) (Operand.tmp 51) 3, type := 4, pos := "merkle.go:100", after := #[{ on := 1, ground := Ground.data }, { on := 5, ground := Ground.data }], guard := none }) (v := ?v6) rfl (by kernel_rfl) (by kernel_rfl) (by kernel_rfl) (fun _ _ _ h => h) (Or.inl ⟨by rfl, ?y6⟩) hHeld ?r6
  case y6 => (intro w hSw; (try dsimp only at hSw); go_simp) <;> with_reducible rfl
  try simp only [Act.put, List.setIfInBounds_toArray, List.set_cons_zero, List.set_cons_succ]
  refine wpAnyH_take (i := 7) (oi := { dst := some 53, op := Op.move (Operand.tmp 52), type := 4, pos := "merkle.go:100", after := #[{ on := 6, ground := Ground.data }, { on := 5, ground := Ground.chain }], guard := none }) (v := ?v7) rfl (by kernel_rfl) (by kernel_rfl) (by kernel_rfl) (fun _ _ _ h => h) (Or.inl ⟨by rfl, ?y7⟩) hHeld ?r7
  case y7 => (intro w hSw; (try dsimp only at hSw); go_simp) <;> with_reducible rfl
  try simp only [Act.put, List.setIfInBounds_toArray, List.set_cons_zero, List.set_cons_succ]
  refine wpAnyH_take (i := 8) (oi := { dst := some 54, op := Op.move (Operand.tmp 0), type := 3, pos := "merkle.go:100", after := #[{ on := 7, ground := Ground.guard }], guard := some (7, false) }) (v := ?v8) rfl (by kernel_rfl) (by kernel_rfl) (by kernel_rfl) (fun _ _ _ h => h) (Or.inl ⟨by rfl, ?y8⟩) hHeld ?r8
  case y8 => (intro w hSw; (try dsimp only at hSw); go_simp) <;> with_reducible rfl
  try simp only [Act.put, List.setIfInBounds_toArray, List.set_cons_zero, List.set_cons_succ]
  refine wpAnyH_take (i := 9) (oi := { dst := some 55, op := Op.load 33 (Operand.tmp 8), type := 33, pos := "merkle.go:100", after := #[{ on := 7, ground := Ground.guard }], guard := some (7, false) }) (v := ?v9) rfl (by kernel_rfl) (by kernel_rfl) (by kernel_rfl) (fun _ _ _ h => h) (Or.inl ⟨by rfl, ?y9⟩) hHeld ?r9
  case y9 => (intro w hSw; (try dsimp only at hSw); go_simp) <;> with_reducible rfl
  try simp only [Act.put, List.setIfInBounds_toArray, List.set_cons_zero, List.set_cons_succ]
  refine wpAnyH_ready (rs := [10]) (by kernel_rfl) (by simp) ?_
  refine AllReadyH.cons (o := { dst := some 56, op := Op.call { callee := Callee.value (Operand.func 51), args := #[Operand.tmp 54, Operand.tmp 55], argTypes := #[3, 33] }, type := 4, pos := "merkle.go:100", after := #[{ on := 8, ground := Ground.data }, { on := 9, ground := Ground.data }, { on := 7, ground := Ground.chain }, { on := 7, ground := Ground.guard }], guard := some (7, false) }) rfl (fun K hK => ?_) AllReadyH.nil
  go_simp
  refine (hsP _ hb1).mono ?_
  rintro e w2 ⟨rfl, hw⟩
  subst hw
  refine hK.out _ _ ?_ (fun _ => ?_)
  · exact hHeld
  clear hK K
  try simp only [Act.put, List.setIfInBounds_toArray, List.set_cons_zero, List.set_cons_succ]
  refine wpAnyH_take (i := 11) (oi := { dst := some 57, op := Op.unOp UnOp.not 4 (Operand.tmp 56), type := 4, pos := "merkle.go:100", after := #[{ on := 10, ground := Ground.data }, { on := 7, ground := Ground.guard }], guard := some (7, false) }) (v := ?v11) rfl (by kernel_rfl) (by kernel_rfl) (by kernel_rfl) (fun _ _ _ h => h) (Or.inl ⟨by rfl, ?y11⟩) hHeld ?r11
  case y11 => (intro w hSw; (try dsimp only at hSw); go_simp) <;> with_reducible rfl
  try simp only [Act.put, List.setIfInBounds_toArray, List.set_cons_zero, List.set_cons_succ]
  refine wpAnyH_take (i := 12) (oi := { dst := some 58, op := Op.pick (Operand.tmp 53) (Operand.const (Value.bool true)) (Operand.tmp 57), type := 4, pos := "merkle.go:100", after := #[{ on := 7, ground := Ground.data }, { on := 11, ground := Ground.data }], guard := none }) (v := ?v12) rfl (by kernel_rfl) (by kernel_rfl) (by kernel_rfl) (fun _ _ _ h => h) (Or.inl ⟨by rfl, ?y12⟩) hHeld ?r12
  case y12 => (intro w hSw; (try dsimp only at hSw); go_simp) <;> with_reducible rfl
  try simp only [Act.put, List.setIfInBounds_toArray, List.set_cons_zero, List.set_cons_succ]
  refine wpAnyH_take (i := 13) (oi := { dst := some 59, op := Op.move (Operand.tmp 58), type := 4, pos := "merkle.go:100", after := #[{ on := 12, ground := Ground.data }, { on := 10, ground := Ground.chain }], guard := none }) (v := ?v13) rfl (by kernel_rfl) (by kernel_rfl) (by kernel_rfl) (fun _ _ _ h => h) (Or.inl ⟨by rfl, ?y13⟩) hHeld ?r13
  case y13 => (intro w hSw; (try dsimp only at hSw); go_simp) <;> with_reducible rfl
  try simp only [Act.put, List.setIfInBounds_toArray, List.set_cons_zero, List.set_cons_succ]
  refine wpAnyH_take (i := 14) (oi := { dst := some 60, op := Op.move (Operand.tmp 0), type := 3, pos := "merkle.go:100", after := #[{ on := 13, ground := Ground.guard }], guard := some (13, false) }) (v := undef) rfl (by kernel_rfl) (by kernel_rfl) (by kernel_rfl) (fun _ _ _ h => h) (Or.inr ⟨by rfl, rfl⟩) hHeld ?_
  try simp only [Act.put, List.setIfInBounds_toArray, List.set_cons_zero, List.set_cons_succ]
  refine wpAnyH_take (i := 15) (oi := { dst := some 61, op := Op.load 33 (Operand.tmp 9), type := 33, pos := "merkle.go:100", after := #[{ on := 13, ground := Ground.guard }], guard := some (13, false) }) (v := undef) rfl (by kernel_rfl) (by kernel_rfl) (by kernel_rfl) (fun _ _ _ h => h) (Or.inr ⟨by rfl, rfl⟩) hHeld ?_
  try simp only [Act.put, List.setIfInBounds_toArray, List.set_cons_zero, List.set_cons_succ]
  refine wpAnyH_take (i := 16) (oi := { dst := some 62, op := Op.call { callee := Callee.value (Operand.func 51), args := #[Operand.tmp 60, Operand.tmp 61], argTypes := #[3, 33] }, type := 4, pos := "merkle.go:100", after := #[{ on := 14, ground := Ground.data }, { on := 15, ground := Ground.data }, { on := 13, ground := Ground.chain }, { on := 13, ground := Ground.guard }], guard := some (13, false) }) (v := undef) rfl (by kernel_rfl) (by kernel_rfl) (by kernel_rfl) (fun _ _ _ h => h) (Or.inr ⟨by rfl, rfl⟩) hHeld ?_
  try simp only [Act.put, List.setIfInBounds_toArray, List.set_cons_zero, List.set_cons_succ]
  refine wpAnyH_take (i := 17) (oi := { dst := some 63, op := Op.unOp UnOp.not 4 (Operand.tmp 62), type := 4, pos := "merkle.go:100", after := #[{ on := 16, ground := Ground.data }, { on := 13, ground := Ground.guard }], guard := some (13, false) }) (v := undef) rfl (by kernel_rfl) (by kernel_rfl) (by kernel_rfl) (fun _ _ _ h => h) (Or.inr ⟨by rfl, rfl⟩) hHeld ?_
  try simp only [Act.put, List.setIfInBounds_toArray, List.set_cons_zero, List.set_cons_succ]
  refine wpAnyH_take (i := 18) (oi := { dst := some 64, op := Op.pick (Operand.tmp 59) (Operand.const (Value.bool true)) (Operand.tmp 63), type := 4, pos := "merkle.go:100", after := #[{ on := 13, ground := Ground.data }, { on := 17, ground := Ground.data }], guard := none }) (v := ?v18) rfl (by kernel_rfl) (by kernel_rfl) (by kernel_rfl) (fun _ _ _ h => h) (Or.inl ⟨by rfl, ?y18⟩) hHeld ?r18
  case y18 => (intro w hSw; (try dsimp only at hSw); go_simp) <;> with_reducible rfl
  try simp only [Act.put, List.setIfInBounds_toArray, List.set_cons_zero, List.set_cons_succ]
  refine wpAnyH_done (by kernel_rfl) ?_ _
  have hB := (hX.later hb1).2.2.2.2.1
  clear hsP hsQ hCt v0 v1 v2 v3 hb1 hb1' hX hi' ho' hHeld
  go_wp2
  go_ret2
  exact ⟨rfl, hB⟩

set_option maxRecDepth 100000 in
set_option maxHeartbeats 8000000 in
theorem fold_outs (size : Int) (n lo hi C : Nat) (iv ov : Value) (ins outs : List (List UInt8)) (w : World) (hi' : PA w iv ins) (ho' : PA w ov outs) (hhi : lo + ins.length = hi) (hb : outs.length ≤ 140737488355328) (h1 : hi ≤ n) (h2 : n ≤ 1048576) (h3 : 1 ≤ size) (h4 : size ≤ 32) (hC : Hid (cntF (n : Int) (lo : Int) (hi : Int) = C)) (hne : outs.length = C) (ha : allLen size ins = true) (hb2 : allLen size outs = false) :
    Calls Tryd.prog 41 #[.int .i64 size, .int .i64 (n : Int), .int .i64 (lo : Int), iv, ov] w fun x w' => x = .returned (.tuple #[.slice none 0 0, .int .i64 5]) ∧ Below w.heap.size w w' := by
  have hS1 := fun W hp => sizedK_any size iv ins W hp (by omega)
  have hS2 := fun W hp => sizedK_any size ov outs W hp hb
  obtain ⟨p, c, rfl⟩ := hi'.shape
  obtain ⟨q, d, rfl⟩ := ho'.shape
  have hCt := fun w => count_any (n : Int) (lo : Int) (hi : Int) w
  rw [hC.out] at hCt
  have e1 : (lo : Int) + (ins.length : Int) = (hi : Int) := by omega
  have d3 : decide ((n : Int) - (lo : Int) < (ins.length : Int)) = false := by simp; omega
  have d4 : decide ((lo : Int) < 0) = false := by simp
  have d5 : decide (n < lo) = false := by simp; omega
  have d6 : decide ((1048576 : Int) < (n : Int)) = false := by simp; omega
  have d7 : decide (size < 1) = false := by simp; omega
  have d8 : decide (32 < size) = false := by simp; omega
  have d1 : ((outs.length : Int) != (C : Int)) = false := by simp; omega
  rw [ha] at hS1
  rw [hb2] at hS2
  obtain ⟨V, hV⟩ : ∃ V, V = (((w.alloc (.cells #[.int .i64 (lo : Int)] 3)).alloc (.cells #[.slice p ins.length c] 33)).alloc (.cells #[.slice q outs.length d] 33)).alloc (.cells #[.int .i64 (hi : Int)] 3) := ⟨_, rfl⟩
  have hX := BX.made w lo hi (.slice p ins.length c) (.slice q outs.length d)
  rw [← hV] at hX
  clear hhi hC hne ha hb2
  go_enter Tryd.func41, Tryd.ntmps41
  go_wp2_with fail
  rw [← hV]
  clear hV e1
  obtain ⟨v0, v1, v2, v3⟩ := hX.cells
  have hsP := fun W (hB : Below V.heap.size V W) => hS1 W (hi'.later (hX.later hB).2.2.2.2.1)
  have hsQ := fun W (hB : Below V.heap.size V W) => hS2 W (ho'.later (hX.later hB).2.2.2.2.1)
  clear hS1 hS2
  have hHeld := (hX.later ((Below.refl _ V).drew)).cells
  refine wp_region_heldN (by kernel_rfl) (fun w' => w'.cell? ⟨w.heap.size, 0, none⟩ = some (.int .i64 (lo : Int)) ∧ w'.cell? ⟨w.heap.size + 1, 0, none⟩ = some (.slice p ins.length c) ∧ w'.cell? ⟨w.heap.size + 1 + 1, 0, none⟩ = some (.slice q outs.length d) ∧ w'.cell? ⟨w.heap.size + 1 + 1 + 1, 0, none⟩ = some (.int .i64 (hi : Int))) 19 rfl ?_
  refine wpAnyH_take (i := 0) (oi := { dst := some 46, op := Op.load 33 (Operand.tmp 9), type := 33, pos := "merkle.go:100", after := #[], guard := none }) (v := ?v0) rfl (by kernel_rfl) (by kernel_rfl) (by kernel_rfl) (fun _ _ _ h => h) (Or.inl ⟨by rfl, ?y0⟩) hHeld ?r0
  case y0 => (intro w hSw; (try dsimp only at hSw); go_simp) <;> with_reducible rfl
  try simp only [Act.put, List.setIfInBounds_toArray, List.set_cons_zero, List.set_cons_succ]
  refine wpAnyH_take (i := 1) (oi := { dst := some 47, op := Op.call { callee := Callee.builtin Builtin.len, args := #[Operand.tmp 46], argTypes := #[33] }, type := 3, pos := "merkle.go:100", after := #[{ on := 0, ground := Ground.data }], guard := none }) (v := ?v1) rfl (by kernel_rfl) (by kernel_rfl) (by kernel_rfl) (fun _ _ _ h => h) (Or.inl ⟨by rfl, ?y1⟩) hHeld ?r1
  case y1 => (intro w hSw; (try dsimp only at hSw); go_simp) <;> with_reducible rfl
  try simp only [Act.put, List.setIfInBounds_toArray, List.set_cons_zero, List.set_cons_succ]
  refine wpAnyH_take (i := 2) (oi := { dst := some 48, op := Op.move (Operand.tmp 1), type := 3, pos := "merkle.go:100", after := #[], guard := none }) (v := ?v2) rfl (by kernel_rfl) (by kernel_rfl) (by kernel_rfl) (fun _ _ _ h => h) (Or.inl ⟨by rfl, ?y2⟩) hHeld ?r2
  case y2 => (intro w hSw; (try dsimp only at hSw); go_simp) <;> with_reducible rfl
  try simp only [Act.put, List.setIfInBounds_toArray, List.set_cons_zero, List.set_cons_succ]
  refine wpAnyH_take (i := 3) (oi := { dst := some 49, op := Op.load 3 (Operand.tmp 7), type := 3, pos := "merkle.go:100", after := #[], guard := none }) (v := ?v3) rfl (by kernel_rfl) (by kernel_rfl) (by kernel_rfl) (fun _ _ _ h => h) (Or.inl ⟨by rfl, ?y3⟩) hHeld ?r3
  case y3 => (intro w hSw; (try dsimp only at hSw); go_simp) <;> with_reducible rfl
  try simp only [Act.put, List.setIfInBounds_toArray, List.set_cons_zero, List.set_cons_succ]
  refine wpAnyH_take (i := 4) (oi := { dst := some 50, op := Op.load 3 (Operand.tmp 12), type := 3, pos := "merkle.go:100", after := #[], guard := none }) (v := ?v4) rfl (by kernel_rfl) (by kernel_rfl) (by kernel_rfl) (fun _ _ _ h => h) (Or.inl ⟨by rfl, ?y4⟩) hHeld ?r4
  case y4 => (intro w hSw; (try dsimp only at hSw); go_simp) <;> with_reducible rfl
  try simp only [Act.put, List.setIfInBounds_toArray, List.set_cons_zero, List.set_cons_succ]
  refine wpAnyH_ready (rs := [5]) (by kernel_rfl) (by simp) ?_
  refine AllReadyH.cons (o := { dst := some 51, op := Op.call { callee := Callee.value (Operand.func 50), args := #[Operand.tmp 48, Operand.tmp 49, Operand.tmp 50], argTypes := #[3, 3, 3] }, type := 3, pos := "merkle.go:100", after := #[{ on := 2, ground := Ground.data }, { on := 3, ground := Ground.data }, { on := 4, ground := Ground.data }], guard := none }) rfl (fun K hK => ?_) AllReadyH.nil
  go_simp
  refine (hCt _).mono ?_
  rintro e w1 ⟨rfl, hb1'⟩
  have hb1 : Below V.heap.size V w1 := ((Below.refl _ V).drew).trans (hb1'.mono (by simp))
  replace hHeld := (hX.later hb1).cells
  refine hK.out _ _ ?_ (fun _ => ?_)
  · exact hHeld
  clear hK K
  try simp only [Act.put, List.setIfInBounds_toArray, List.set_cons_zero, List.set_cons_succ]
  refine wpAnyH_take (i := 6) (oi := { dst := some 52, op := Op.binOp BinOp.neq 3 (Operand.tmp 47) (Operand.tmp 51) 3, type := 4, pos := "merkle.go:100", after := #[{ on := 1, ground := Ground.data }, { on := 5, ground := Ground.data }], guard := none }) (v := ?v6) rfl (by kernel_rfl) (by kernel_rfl) (by kernel_rfl) (fun _ _ _ h => h) (Or.inl ⟨by rfl, ?y6⟩) hHeld ?r6
  case y6 => (intro w hSw; (try dsimp only at hSw); go_simp) <;> with_reducible rfl
  try simp only [Act.put, List.setIfInBounds_toArray, List.set_cons_zero, List.set_cons_succ]
  refine wpAnyH_take (i := 7) (oi := { dst := some 53, op := Op.move (Operand.tmp 52), type := 4, pos := "merkle.go:100", after := #[{ on := 6, ground := Ground.data }, { on := 5, ground := Ground.chain }], guard := none }) (v := ?v7) rfl (by kernel_rfl) (by kernel_rfl) (by kernel_rfl) (fun _ _ _ h => h) (Or.inl ⟨by rfl, ?y7⟩) hHeld ?r7
  case y7 => (intro w hSw; (try dsimp only at hSw); go_simp) <;> with_reducible rfl
  try simp only [Act.put, List.setIfInBounds_toArray, List.set_cons_zero, List.set_cons_succ]
  refine wpAnyH_take (i := 8) (oi := { dst := some 54, op := Op.move (Operand.tmp 0), type := 3, pos := "merkle.go:100", after := #[{ on := 7, ground := Ground.guard }], guard := some (7, false) }) (v := ?v8) rfl (by kernel_rfl) (by kernel_rfl) (by kernel_rfl) (fun _ _ _ h => h) (Or.inl ⟨by rfl, ?y8⟩) hHeld ?r8
  case y8 => (intro w hSw; (try dsimp only at hSw); go_simp) <;> with_reducible rfl
  try simp only [Act.put, List.setIfInBounds_toArray, List.set_cons_zero, List.set_cons_succ]
  refine wpAnyH_take (i := 9) (oi := { dst := some 55, op := Op.load 33 (Operand.tmp 8), type := 33, pos := "merkle.go:100", after := #[{ on := 7, ground := Ground.guard }], guard := some (7, false) }) (v := ?v9) rfl (by kernel_rfl) (by kernel_rfl) (by kernel_rfl) (fun _ _ _ h => h) (Or.inl ⟨by rfl, ?y9⟩) hHeld ?r9
  case y9 => (intro w hSw; (try dsimp only at hSw); go_simp) <;> with_reducible rfl
  try simp only [Act.put, List.setIfInBounds_toArray, List.set_cons_zero, List.set_cons_succ]
  refine wpAnyH_ready (rs := [10]) (by kernel_rfl) (by simp) ?_
  refine AllReadyH.cons (o := { dst := some 56, op := Op.call { callee := Callee.value (Operand.func 51), args := #[Operand.tmp 54, Operand.tmp 55], argTypes := #[3, 33] }, type := 4, pos := "merkle.go:100", after := #[{ on := 8, ground := Ground.data }, { on := 9, ground := Ground.data }, { on := 7, ground := Ground.chain }, { on := 7, ground := Ground.guard }], guard := some (7, false) }) rfl (fun K hK => ?_) AllReadyH.nil
  go_simp
  refine (hsP _ hb1).mono ?_
  rintro e w2 ⟨rfl, hw⟩
  subst hw
  refine hK.out _ _ ?_ (fun _ => ?_)
  · exact hHeld
  clear hK K
  try simp only [Act.put, List.setIfInBounds_toArray, List.set_cons_zero, List.set_cons_succ]
  refine wpAnyH_take (i := 11) (oi := { dst := some 57, op := Op.unOp UnOp.not 4 (Operand.tmp 56), type := 4, pos := "merkle.go:100", after := #[{ on := 10, ground := Ground.data }, { on := 7, ground := Ground.guard }], guard := some (7, false) }) (v := ?v11) rfl (by kernel_rfl) (by kernel_rfl) (by kernel_rfl) (fun _ _ _ h => h) (Or.inl ⟨by rfl, ?y11⟩) hHeld ?r11
  case y11 => (intro w hSw; (try dsimp only at hSw); go_simp) <;> with_reducible rfl
  try simp only [Act.put, List.setIfInBounds_toArray, List.set_cons_zero, List.set_cons_succ]
  refine wpAnyH_take (i := 12) (oi := { dst := some 58, op := Op.pick (Operand.tmp 53) (Operand.const (Value.bool true)) (Operand.tmp 57), type := 4, pos := "merkle.go:100", after := #[{ on := 7, ground := Ground.data }, { on := 11, ground := Ground.data }], guard := none }) (v := ?v12) rfl (by kernel_rfl) (by kernel_rfl) (by kernel_rfl) (fun _ _ _ h => h) (Or.inl ⟨by rfl, ?y12⟩) hHeld ?r12
  case y12 => (intro w hSw; (try dsimp only at hSw); go_simp) <;> with_reducible rfl
  try simp only [Act.put, List.setIfInBounds_toArray, List.set_cons_zero, List.set_cons_succ]
  refine wpAnyH_take (i := 13) (oi := { dst := some 59, op := Op.move (Operand.tmp 58), type := 4, pos := "merkle.go:100", after := #[{ on := 12, ground := Ground.data }, { on := 10, ground := Ground.chain }], guard := none }) (v := ?v13) rfl (by kernel_rfl) (by kernel_rfl) (by kernel_rfl) (fun _ _ _ h => h) (Or.inl ⟨by rfl, ?y13⟩) hHeld ?r13
  case y13 => (intro w hSw; (try dsimp only at hSw); go_simp) <;> with_reducible rfl
  try simp only [Act.put, List.setIfInBounds_toArray, List.set_cons_zero, List.set_cons_succ]
  refine wpAnyH_take (i := 14) (oi := { dst := some 60, op := Op.move (Operand.tmp 0), type := 3, pos := "merkle.go:100", after := #[{ on := 13, ground := Ground.guard }], guard := some (13, false) }) (v := ?v14) rfl (by kernel_rfl) (by kernel_rfl) (by kernel_rfl) (fun _ _ _ h => h) (Or.inl ⟨by rfl, ?y14⟩) hHeld ?r14
  case y14 => (intro w hSw; (try dsimp only at hSw); go_simp) <;> with_reducible rfl
  try simp only [Act.put, List.setIfInBounds_toArray, List.set_cons_zero, List.set_cons_succ]
  refine wpAnyH_take (i := 15) (oi := { dst := some 61, op := Op.load 33 (Operand.tmp 9), type := 33, pos := "merkle.go:100", after := #[{ on := 13, ground := Ground.guard }], guard := some (13, false) }) (v := ?v15) rfl (by kernel_rfl) (by kernel_rfl) (by kernel_rfl) (fun _ _ _ h => h) (Or.inl ⟨by rfl, ?y15⟩) hHeld ?r15
  case y15 => (intro w hSw; (try dsimp only at hSw); go_simp) <;> with_reducible rfl
  try simp only [Act.put, List.setIfInBounds_toArray, List.set_cons_zero, List.set_cons_succ]
  refine wpAnyH_ready (rs := [16]) (by kernel_rfl) (by simp) ?_
  refine AllReadyH.cons (o := { dst := some 62, op := Op.call { callee := Callee.value (Operand.func 51), args := #[Operand.tmp 60, Operand.tmp 61], argTypes := #[3, 33] }, type := 4, pos := "merkle.go:100", after := #[{ on := 14, ground := Ground.data }, { on := 15, ground := Ground.data }, { on := 13, ground := Ground.chain }, { on := 13, ground := Ground.guard }], guard := some (13, false) }) rfl (fun K hK => ?_) AllReadyH.nil
  go_simp
  refine (hsQ _ hb1).mono ?_
  rintro e w2 ⟨rfl, hw⟩
  subst hw
  refine hK.out _ _ ?_ (fun _ => ?_)
  · exact hHeld
  clear hK K
  try simp only [Act.put, List.setIfInBounds_toArray, List.set_cons_zero, List.set_cons_succ]
  refine wpAnyH_take (i := 17) (oi := { dst := some 63, op := Op.unOp UnOp.not 4 (Operand.tmp 62), type := 4, pos := "merkle.go:100", after := #[{ on := 16, ground := Ground.data }, { on := 13, ground := Ground.guard }], guard := some (13, false) }) (v := ?v17) rfl (by kernel_rfl) (by kernel_rfl) (by kernel_rfl) (fun _ _ _ h => h) (Or.inl ⟨by rfl, ?y17⟩) hHeld ?r17
  case y17 => (intro w hSw; (try dsimp only at hSw); go_simp) <;> with_reducible rfl
  try simp only [Act.put, List.setIfInBounds_toArray, List.set_cons_zero, List.set_cons_succ]
  refine wpAnyH_take (i := 18) (oi := { dst := some 64, op := Op.pick (Operand.tmp 59) (Operand.const (Value.bool true)) (Operand.tmp 63), type := 4, pos := "merkle.go:100", after := #[{ on := 13, ground := Ground.data }, { on := 17, ground := Ground.data }], guard := none }) (v := ?v18) rfl (by kernel_rfl) (by kernel_rfl) (by kernel_rfl) (fun _ _ _ h => h) (Or.inl ⟨by rfl, ?y18⟩) hHeld ?r18
  case y18 => (intro w hSw; (try dsimp only at hSw); go_simp) <;> with_reducible rfl
  try simp only [Act.put, List.setIfInBounds_toArray, List.set_cons_zero, List.set_cons_succ]
  refine wpAnyH_done (by kernel_rfl) ?_ _
  have hB := (hX.later hb1).2.2.2.2.1
  clear hsP hsQ hCt v0 v1 v2 v3 hb1 hb1' hX hi' ho' hHeld
  go_wp2
  go_ret2
  exact ⟨rfl, hB⟩

end Go.Proofs.YtggficgmjbgmpaaDoor

namespace Go.Proofs.YtggficgmjbgmpaaDoor
open Go.RowKit

theorem wo_split {lo hi f b e : Nat} (h2 : ¬ (lo = hi ∨ e ≤ lo ∨ hi ≤ b)) (hn : 2 ≤ e - b) (he : e ≤ 4611686018427387904) : wo lo hi (f + 1) b e = wo lo hi f b (b + half (e - b)) ++ wo lo hi f (b + half (e - b)) e := by
  by_cases h1 : lo ≤ b ∧ e ≤ hi
  · obtain ⟨q1, q2, q3⟩ := half_bounds hn (by omega)
    rw [wo_in h1, wo_in ⟨h1.1, by omega⟩, wo_in ⟨by omega, h1.2⟩]
    rfl
  · exact wo_fork h1 h2

theorem wo_apart {lo hi f b e : Nat} (h : lo = hi ∨ e ≤ lo ∨ hi ≤ b) (hbe : b < e) : wo lo hi f b e = [(b, e)] := wo_out (by omega) h

theorem ovF_next (size : Int) (lo hi : Nat) (ins outs : List (List UInt8)) : ∀ (f b e s : Nat), b < e → e - b ≤ 2 ^ f → e ≤ 4611686018427387904 → (ovF size (knF lo hi ins outs) f b e s).2 = s + (wo lo hi f b e).length := by
  intro f
  induction f with
  | zero =>
    intro b e s h1 h2 h3
    simp at h2
    by_cases ho : lo = hi ∨ e ≤ lo ∨ hi ≤ b
    · rw [ovF_some (l := outs.getD s []) (by simp [knF, ho]), wo_apart ho h1]
      simp [knF, ho]
    · rw [ovF_some (l := ins.getD (b - lo) []) (by simp only [knF, if_neg ho]; rw [if_pos (by omega)]), wo_in (by omega)]
      simp only [knF, if_neg ho]
      rw [if_pos (by omega)]
      rfl
  | succ f ih =>
    intro b e s h1 h2 h3
    by_cases ho : lo = hi ∨ e ≤ lo ∨ hi ≤ b
    · rw [ovF_some (l := outs.getD s []) (by simp [knF, ho]), wo_apart ho h1]
      simp [knF, ho]
    · by_cases h1e : e ≤ b + 1
      · rw [ovF_some (l := ins.getD (b - lo) []) (by simp only [knF, if_neg ho, if_pos h1e]), wo_in (by omega)]
        simp only [knF, if_neg ho, if_pos h1e]
        rfl
      · have hn : 2 ≤ e - b := by omega
        obtain ⟨q1, q2, q3⟩ := half_bounds hn (by omega)
        obtain ⟨r1, r2⟩ := half_le hn (by omega) h2
        have hk : knF lo hi ins outs s b e = (none, s) := by simp only [knF, if_neg ho, if_neg h1e]
        rw [ovF_none (by rw [hk]), hk, wo_split ho hn h3, List.length_append]
        show (ovF size (knF lo hi ins outs) f (b + half (e - b)) e (ovF size (knF lo hi ins outs) f b (b + half (e - b)) s).2).2 = _
        rw [ih _ e _ (by omega) (by omega) h3, ih b _ s (by omega) (by omega) (by omega)]
        omega

theorem ovF_len (size : Int) (M : Nat) (hM : 32 ≤ M) (kn : Nat → Nat → Nat → Option (List UInt8) × Nat) (hk : ∀ s b e l, (kn s b e).1 = some l → l.length ≤ M) : ∀ (f b e s : Nat), (ovF size kn f b e s).1.length ≤ M := by
  intro f
  induction f with
  | zero =>
    intro b e s
    cases h : (kn s b e).1 with
    | none => simp [ovF, h]
    | some l => rw [ovF_some h]; exact hk s b e l h
  | succ f ih =>
    intro b e s
    cases h : (kn s b e).1 with
    | none => rw [ovF_none h]; exact Nat.le_trans (hashF_le32 _ _ _) hM
    | some l => rw [ovF_some h]; exact hk s b e l h

theorem all_getD {n : Int} {ls : List (List UInt8)} (h : allLen n ls = true) (hn : n ≤ 32) (i : Nat) : (ls.getD i []).length ≤ 32 := by
  rw [List.getD_eq_getElem?_getD]
  cases hg : ls[i]? with
  | none => simp
  | some l =>
    unfold allLen at h
    have := (List.all_eq_true.1 h) l (List.mem_of_getElem? hg)
    simp only [decide_eq_true_eq] at this
    simp only [Option.getD_some]
    omega

theorem knF_len {n : Int} {lo hi : Nat} {ins outs : List (List UInt8)} (h1 : allLen n ins = true) (h2 : allLen n outs = true) (hn : n ≤ 32) (s b e : Nat) (l : List UInt8) (h : (knF lo hi ins outs s b e).1 = some l) : l.length ≤ 32 := by
  unfold knF at h
  by_cases ho : lo = hi ∨ e ≤ lo ∨ hi ≤ b
  · rw [if_pos ho] at h
    simp only [Option.some.injEq] at h
    rw [← h]
    exact all_getD h2 hn s
  · rw [if_neg ho] at h
    by_cases h1e : e ≤ b + 1
    · rw [if_pos h1e] at h
      simp only [Option.some.injEq] at h
      rw [← h]
      exact all_getD h1 hn _
    · rw [if_neg h1e] at h
      cases h

/-- The root that is folded. -/
def fldF (size : Int) (n lo hi : Nat) (ins outs : List (List UInt8)) : List UInt8 := (ovF size (knF lo hi ins outs) 20 0 n 0).1

theorem fold_over (size : Int) (n lo hi g : Nat) (iv ov : Value) (ins outs : List (List UInt8)) (w0 w : World) (hT : Tabs w0) (hpi : PA w0 iv ins) (hpo : PA w0 ov outs) (hhi : hi = lo + ins.length) (hb : outs.length ≤ 140737488355328) (h1 : hi ≤ n) (h2 : n ≤ 1048576) (h0 : 0 < n) (hc : outs.length = (wo lo hi 20 0 n).length) (h : FB w0 g lo hi iv ov 0 w) :
    Calls Tryd.prog 47 #[.int .i64 size, .int .i64 0, .int .i64 (n : Int), .func (.func 52) #[] #[.pointer (some ⟨w0.heap.size, 0, none⟩), .pointer (some ⟨w0.heap.size + 3, 0, none⟩), .pointer (some ⟨g, 0, none⟩), .pointer (some ⟨w0.heap.size + 2, 0, none⟩), .pointer (some ⟨w0.heap.size + 1, 0, none⟩)]] w fun x w' => ∃ p c, x = .returned (.slice p (fldF size n lo hi ins outs).length c) ∧ HB w' (.slice p (fldF size n lo hi ins outs).length c) (fldF size n lo hi ins outs) ∧ Below w0.heap.size w0 w' := by
  have := over_any size 52 #[.pointer (some ⟨w0.heap.size, 0, none⟩), .pointer (some ⟨w0.heap.size + 3, 0, none⟩), .pointer (some ⟨g, 0, none⟩), .pointer (some ⟨w0.heap.size + 2, 0, none⟩), .pointer (some ⟨w0.heap.size + 1, 0, none⟩)] eg_foldF g n (FB w0 g lo hi iv ov) (knF lo hi ins outs) (fun f b e s => s + (wo lo hi f b e).length ≤ outs.length) (by omega)
    (fun f b e s hP hk hn hf he => by
      have ho : ¬ (lo = hi ∨ e ≤ lo ∨ hi ≤ b) := by
        intro ho
        simp [knF, ho] at hk
      have hk2 : (knF lo hi ins outs s b e).2 = s := by
        unfold knF
        rw [if_neg ho]
        split <;> rfl
      obtain ⟨q1, q2, q3⟩ := half_bounds hn (by omega)
      obtain ⟨r1, r2⟩ := half_le hn (by omega) hf
      rw [wo_split ho hn (by omega), List.length_append] at hP
      rw [hk2, ovF_next size lo hi ins outs f b _ s (by omega) (by omega) (by omega)]
      exact ⟨by omega, by omega⟩)
    (fun s w w' hr hb => hr.later hb) (fun s w hr => hT.later hr.2.2.2.2.2.2) (fun s w hr => ⟨_, _, _, hr.2.2.2.2.1, by decide⟩) (knF_one lo hi ins outs)
    (fun f s b e w hP hr hbe he => foldF_walk w0 g lo hi iv ov ins outs s b e w hpi hpo hhi hb hr hbe (by omega) (fun ho => by rw [wo_apart ho hbe] at hP; simp at hP; omega)) 20 0 n 0 w h0 (by omega) (Nat.le_refl _) (by omega) h
  refine this.mono ?_
  rintro x w' ⟨p, c, h1, h2, h3, h4⟩
  exact ⟨p, c, h1, h2.1, h4.2.2.2.2.2.2⟩

end Go.Proofs.YtggficgmjbgmpaaDoor
