/- What this text proves: the walks of merkle.sized, and of the function that merkle.Fold hands to over, over this program. -/
import Derived.Test.YtichffdkihifpaaDoorKRange
namespace Go.Proofs.YtichffdkihifpaaDoor
open Go.RowKit

/-- What is known of digests inside and outside of a range. -/
def knF (lo hi : Nat) (ins outs : List (List UInt8)) (s b e : Nat) : Option (List UInt8) × Nat :=
  if lo = hi ∨ e ≤ lo ∨ hi ≤ b then (some (outs.getD s []), s + 1) else if e ≤ b + 1 then (some (ins.getD (b - lo) []), s) else (none, s)

theorem knF_one (lo hi : Nat) (ins outs : List (List UInt8)) (s b e : Nat) (h : e ≤ b + 1) : (knF lo hi ins outs s b e).1 ≠ none := by
  unfold knF
  by_cases h1 : lo = hi ∨ e ≤ lo ∨ hi ≤ b
  · simp [h1]
  · simp [h1, h]

/-- The five boxes of Fold. -/
def FB (w0 : World) (g lo hi : Nat) (iv ov : Value) (s : Nat) (w : World) : Prop :=
  w.heap[w0.heap.size]? = some (.cells #[.int .i64 (lo : Int)] 3 (0, 0)) ∧ w.heap[w0.heap.size + 1]? = some (.cells #[iv] 22 (0, 0)) ∧ w.heap[w0.heap.size + 2]? = some (.cells #[ov] 22 (0, 0)) ∧ w.heap[w0.heap.size + 3]? = some (.cells #[.int .i64 (hi : Int)] 3 (0, 0)) ∧ w.heap[g]? = some (.cells #[.int .i64 (s : Int)] 3 (0, 0)) ∧ w0.heap.size + 3 < g ∧ Below w0.heap.size w0 w

theorem FB.later {w0 : World} {g lo hi s : Nat} {iv ov : Value} {w w' : World} (h : FB w0 g lo hi iv ov s w) (hb : Below w.heap.size w w') : FB w0 g lo hi iv ov s w' := by
  obtain ⟨h1, h2, h3, h4, h5, h6, h7⟩ := h
  have l5 := (Array.getElem?_eq_some_iff.1 h5).1
  refine ⟨?_, ?_, ?_, ?_, ?_, h6, h7.trans (hb.mono (by omega))⟩
  · rw [hb.block _ (by omega)]; exact h1
  · rw [hb.block _ (by omega)]; exact h2
  · rw [hb.block _ (by omega)]; exact h3
  · rw [hb.block _ (by omega)]; exact h4
  · rw [hb.block _ l5]; exact h5

theorem FB.put {w0 : World} {g lo hi s : Nat} {iv ov : Value} {w : World} (h : FB w0 g lo hi iv ov s w) (s' : Nat) : FB w0 g lo hi iv ov s' (w.setCell ⟨g, 0, none⟩ (.int .i64 (s' : Int))) := by
  obtain ⟨h1, h2, h3, h4, h5, h6, h7⟩ := h
  have l5 := (Array.getElem?_eq_some_iff.1 h5).1
  have O := (Only.refl g w).setCell 0 (.int .i64 (s' : Int))
  refine ⟨(O.block _ (by omega) (by omega)).trans h1, (O.block _ (by omega) (by omega)).trans h2, (O.block _ (by omega) (by omega)).trans h3, (O.block _ (by omega) (by omega)).trans h4, ?_, h6, ?_⟩
  · rw [heap_setCell_same w g 0 _ _ _ h5]; rfl
  · exact h7.setCell (by simp; omega) _

theorem eg_foldF : ∀ args w, (callFunc 43 args).run Tryd.prog w = .ok (.enter 43 args) w := by intro args w; go_simp

set_option maxRecDepth 100000 in
set_option maxHeartbeats 2000000 in
theorem foldF_walk (w0 : World) (g lo hi : Nat) (iv ov : Value) (ins outs : List (List UInt8)) (s b e : Nat) (w : World) (hpi : PA w0 iv ins) (hpo : PA w0 ov outs) (hhi : hi = lo + ins.length) (hob : outs.length ≤ 140737488355328) (h : FB w0 g lo hi iv ov s w) (hbe : b < e) (he : e ≤ 1048576)
    (hs : (lo = hi ∨ e ≤ lo ∨ hi ≤ b) → s < outs.length) :
    Calls Tryd.prog 43 (#[.int .i64 (b : Int), .int .i64 (e : Int)] ++ #[.pointer (some ⟨w0.heap.size, 0, none⟩), .pointer (some ⟨w0.heap.size + 3, 0, none⟩), .pointer (some ⟨g, 0, none⟩), .pointer (some ⟨w0.heap.size + 2, 0, none⟩), .pointer (some ⟨w0.heap.size + 1, 0, none⟩)]) w fun x w' => Only g w w' ∧ FB w0 g lo hi iv ov (knF lo hi ins outs s b e).2 w' ∧ ((knF lo hi ins outs s b e).1 = none ∧ x = .returned (.tuple #[.slice none 0 0, .bool false]) ∨ ∃ l p c, (knF lo hi ins outs s b e).1 = some l ∧ x = .returned (.tuple #[.slice p l.length c, .bool true]) ∧ HBG w' g (.slice p l.length c) l) := by
  show Calls Tryd.prog 43 #[.int .i64 (b : Int), .int .i64 (e : Int), .pointer (some ⟨w0.heap.size, 0, none⟩), .pointer (some ⟨w0.heap.size + 3, 0, none⟩), .pointer (some ⟨g, 0, none⟩), .pointer (some ⟨w0.heap.size + 2, 0, none⟩), .pointer (some ⟨w0.heap.size + 1, 0, none⟩)] w _
  have H : Hid (FB w0 g lo hi iv ov s w) := h
  obtain ⟨g0, g1, g2, g3, g4, g5, hb⟩ := h
  have c0 : w.cell? ⟨w0.heap.size, 0, none⟩ = some (.int .i64 (lo : Int)) := by rw [cell_of_row w _ _ _ _ _ g0]; rfl
  have c1 : w.cell? ⟨w0.heap.size + 1, 0, none⟩ = some iv := by rw [cell_of_row w _ _ _ _ _ g1]; rfl
  have c2 : w.cell? ⟨w0.heap.size + 2, 0, none⟩ = some ov := by rw [cell_of_row w _ _ _ _ _ g2]; rfl
  have c3 : w.cell? ⟨w0.heap.size + 3, 0, none⟩ = some (.int .i64 (hi : Int)) := by rw [cell_of_row w _ _ _ _ _ g3]; rfl
  have c4 : w.cell? ⟨g, 0, none⟩ = some (.int .i64 (s : Int)) := by rw [cell_of_row w _ _ _ _ _ g4]; rfl
  have f4 : w.frozen? ⟨g, 0, none⟩ = false := by simp [World.frozen?, g4]
  have hA := fun w => apart_any (b : Int) (e : Int) (lo : Int) (hi : Int) w
  clear g0 g1 g2 g3 g4
  by_cases ho : lo = hi ∨ e ≤ lo ∨ hi ≤ b
  · have hk : knF lo hi ins outs s b e = (some (outs.getD s []), s + 1) := by unfold knF; rw [if_pos ho]
    rw [hk]
    have hs' := hs ho
    rw [show decide ((lo : Int) = (hi : Int) ∨ (e : Int) ≤ (lo : Int) ∨ (hi : Int) ≤ (b : Int)) = true by simp; omega] at hA
    obtain ⟨p, c, hv⟩ := hpo.shape
    subst hv
    obtain ⟨bl, o, rfl⟩ := hpo.addr (by omega)
    obtain ⟨q, k, l, hl, hc1, hh⟩ := hpo.get s (by omega)
    have hblk : bl < w0.heap.size := cell_lt hc1
    have hG : HBG w g (.slice q l.length k) l := ⟨hh.later hb, (HBG.old hh (by omega)).2⟩
    have O := (Only.refl g w).setCell 0 (.int .i64 ((s + 1 : Nat) : Int))
    have HG : Hid (HBG (w.setCell ⟨g, 0, none⟩ (.int .i64 ((s + 1 : Nat) : Int))) g (.slice q l.length k) l) := hG.only O
    have HO : Hid (Only g w (w.setCell ⟨g, 0, none⟩ (.int .i64 ((s + 1 : Nat) : Int)))) := O
    have HP : Hid (FB w0 g lo hi iv (.slice (some ⟨bl, o, none⟩) outs.length c) (s + 1) (w.setCell ⟨g, 0, none⟩ (.int .i64 ((s + 1 : Nat) : Int)))) := H.out.put (s + 1)
    have k1 := (World.cell?_of_block (O.block bl (by omega) (Nat.lt_of_lt_of_le hblk hb.size))).trans (cell_later hb hc1)
    have k2 := (World.cell?_of_block (O.block (w0.heap.size + 2) (by omega) (cell_lt c2))).trans c2
    have k4 := World.cell?_setCell_same w ⟨g, 0, none⟩ (.int .i64 ((s + 1 : Nat) : Int)) c4
    rw [getD_of hl]
    have hlt : (s : Int) < (outs.length : Int) := by omega
    clear hk hs hs' hh hl hc1 hG O hpi hpo H hb hhi ho hblk
    simp only [Int.natCast_add, Int.natCast_one] at k1 k2 k4 HG HO HP ⊢
    go_enter Tryd.func43, Tryd.ntmps43
    go_wp2_with fail
    refine (hA _).mono ?_
    rintro x w1 ⟨rfl, hw⟩
    subst hw
    clear hA
    go_wp2
    go_ret2
    exact ⟨HO.out, HP.out, .inr ⟨l, q, k, rfl, rfl, HG.out⟩⟩
  · rw [show decide ((lo : Int) = (hi : Int) ∨ (e : Int) ≤ (lo : Int) ∨ (hi : Int) ≤ (b : Int)) = false by simp; omega] at hA
    by_cases h1 : e ≤ b + 1
    · have hk : knF lo hi ins outs s b e = (some (ins.getD (b - lo) []), s) := by unfold knF; rw [if_neg ho, if_pos h1]
      rw [hk]
      obtain rfl : e = b + 1 := by omega
      obtain ⟨p, c, hv⟩ := hpi.shape
      subst hv
      have hlt : b - lo < ins.length := by omega
      obtain ⟨bl, o, rfl⟩ := hpi.addr (by omega)
      obtain ⟨q, k, l, hl, hc1, hh⟩ := hpi.get (b - lo) hlt
      have HG : Hid (HBG w g (.slice q l.length k) l) := ⟨hh.later hb, (HBG.old hh (by omega)).2⟩
      have k1 := cell_later hb hc1
      rw [getD_of hl]
      have e1 : ((b - lo : Nat) : Int) = (b : Int) - (lo : Int) := by omega
      have hi1 : (0 : Int) ≤ (b : Int) - (lo : Int) := by omega
      have hi2 : (b : Int) - (lo : Int) < (ins.length : Int) := by omega
      have e2 : ((b : Int) - (lo : Int)).toNat = b - lo := by omega
      have d1 : (((b + 1 : Nat) : Int) - (b : Int)) = 1 := by omega
      clear hk hs hh hl hc1 hpi hpo hb f4 h1 hbe hhi ho
      go_enter Tryd.func43, Tryd.ntmps43
      go_wp2_with fail
      refine (hA _).mono ?_
      rintro x w1 ⟨rfl, hw⟩
      subst hw
      clear hA
      go_wp2
      go_ret2
      exact ⟨Only.refl _ _, H.out, .inr ⟨l, q, k, rfl, rfl, HG.out⟩⟩
    · have hk : knF lo hi ins outs s b e = (none, s) := by unfold knF; rw [if_neg ho, if_neg h1]
      rw [hk]
      have d1 : ((e : Int) - (b : Int) == 1) = false := by simp; omega
      clear hk hs hpi hpo hb f4 h1 hhi ho
      go_enter Tryd.func43, Tryd.ntmps43
      go_wp2_with fail
      refine (hA _).mono ?_
      rintro x w1 ⟨rfl, hw⟩
      subst hw
      clear hA
      go_wp2
      go_ret2
      exact ⟨Only.refl _ _, H.out, .inl ⟨by first | trivial | rfl, rfl⟩⟩

/-- All have n bytes. -/
def allLen (n : Int) (ls : List (List UInt8)) : Bool := ls.all fun l => decide ((l.length : Int) = n)

set_option maxRecDepth 100000 in
set_option maxHeartbeats 1000000 in
theorem sizedK_any (n : Int) (v : Value) (ls : List (List UInt8)) (w : World) (hp : PA w v ls) (hbig : ls.length ≤ 140737488355328) :
    Calls Tryd.prog 42 #[.int .i64 n, v] w fun x w' => x = .returned (.bool (allLen n ls)) ∧ w' = w := by
  obtain ⟨p, c, rfl⟩ := hp.shape
  go_enter Tryd.func42, Tryd.ntmps42
  go_wp2
  go_loop [9] (fun i => ∃ k : Nat, k ≤ ls.length ∧ i = .int .i64 (k : Int) ∧ Hid (allLen n (ls.take k) = true)) (fun i => ls.length - (intOf i).toNat)
  case atStart => exact ⟨0, Nat.zero_le _, rfl, rfl⟩
  case round =>
    obtain ⟨k, hk, rfl, ha⟩ := hrel
    by_cases hlt : k < ls.length
    · obtain ⟨bl, o, rfl⟩ := hp.addr (by omega)
      obtain ⟨q, d, l, hl, hc1, hh⟩ := hp.get k hlt
      have hlt2 : (k : Int) < (ls.length : Int) := by omega
      have htk : ls.take (k + 1) = ls.take k ++ [l] := by rw [List.take_add_one, hl]; rfl
      by_cases hn : (l.length : Int) = n
      · have HA : Hid (allLen n (ls.take (k + 1)) = true) := by
          show _ = _
          have := ha.out
          unfold allLen at this ⊢
          rw [htk, List.all_append, this]
          simp [hn]
        subst hn
        clear hh hp hl htk ha
        go_wp2
        go_round
        case rel => exact ⟨k + 1, by omega, by go_num, HA.out⟩
        case measure => simp [intOf]; omega
      · have HA : Hid (allLen n ls = false) := by
          show _ = _
          unfold allLen
          rw [List.all_eq_false]
          exact ⟨l, List.mem_of_getElem? hl, by simpa using hn⟩
        have hne : ((l.length : Int) != n) = true := by simpa using hn
        clear hh hp hl htk ha
        go_wp2
        go_ret
        rw [HA.out]
        exact ⟨rfl, rfl⟩
    · obtain rfl : k = ls.length := by omega
      have HA := ha.out
      rw [List.take_length] at HA
      have HA' : Hid (allLen n ls = true) := HA
      clear ha HA hp
      go_wp2
      go_ret
      rw [HA'.out]
      exact ⟨rfl, rfl⟩

end Go.Proofs.YtichffdkihifpaaDoor
