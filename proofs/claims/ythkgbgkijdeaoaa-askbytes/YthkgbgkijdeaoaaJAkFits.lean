/- What this text proves: the walk of annalsref25.fits over this program. -/
import Derived.Test.YthkgbgkijdeaoaaJP1
import Derived.Test.YthkgbgkijdeaoaaJI1
namespace Go.Proofs.Ythkgbgkijdeaoaa
open Go.RowKit

/-- Whether all is within its bound. -/
def fitsB (fr to ti ep ix li : Int) (n : Nat) (bs : List (List UInt8 × List UInt8)) : Bool := !([fr, to, ep, ix, li].any fun x => outN x 2147483648) && (!outN ti 1125899906842624 && (!outT n && !badB bs))

theorem any_split {l : List Int} {x : Int} {j : Nat} (h : l[j]? = some x) (hb : outN x 2147483648 = true) : (l.any fun x => outN x 2147483648) = true := List.any_eq_true.2 ⟨x, List.mem_of_getElem? h, hb⟩
theorem outN_true {n m : Int} (h : n < 0 ∨ m < n) : outN n m = true := by unfold outN; simpa using h
theorem outN_no {n m : Int} (h1 : ¬ n < 0) (h2 : ¬ m < n) : outN n m = false := by unfold outN; simp [h1, h2]

set_option maxRecDepth 100000 in
set_option maxHeartbeats 8000000 in
theorem fits_any (k fr to ti ep ix li : Int) (so : Bool) (p q : Option Addr) (n c d : Nat) (bs : List (List UInt8 × List UInt8)) (w : World) (hba : BA w (.slice q bs.length d) bs) :
    Calls Try.prog 23 #[.agg #[.int .i64 k, .slice p n c, .int .i64 fr, .int .i64 to, .int .i64 ti, .bool so, .int .i64 ep, .int .i64 ix, .int .i64 li, .slice q bs.length d]] w fun x w' => x = .returned (.bool (fitsB fr to ti ep ix li n bs)) ∧ Below w.heap.size w w' := by
  have bA := (Below.refl w.heap.size w).alloc (Nat.le_refl _) (.cells #[.int .i64 k, .slice p n c, .int .i64 fr, .int .i64 to, .int .i64 ti, .bool so, .int .i64 ep, .int .i64 ix, .int .i64 li, .slice q bs.length d] 25)
  have sA : (w.alloc (.cells #[.int .i64 k, .slice p n c, .int .i64 fr, .int .i64 to, .int .i64 ti, .bool so, .int .i64 ep, .int .i64 ix, .int .i64 li, .slice q bs.length d] 25)).heap.size = w.heap.size + 1 := World.size_alloc _ _
  have aA : AB (w.alloc (.cells #[.int .i64 k, .slice p n c, .int .i64 fr, .int .i64 to, .int .i64 ti, .bool so, .int .i64 ep, .int .i64 ix, .int .i64 li, .slice q bs.length d] 25)) w.heap.size _ := heap_alloc_new w _
  have bB := bA.alloc bA.size (.cells #[.int .i64 fr, .int .i64 to, .int .i64 ep, .int .i64 ix, .int .i64 li] 3)
  have bB1 := (Below.refl _ (w.alloc (.cells #[.int .i64 k, .slice p n c, .int .i64 fr, .int .i64 to, .int .i64 ti, .bool so, .int .i64 ep, .int .i64 ix, .int .i64 li, .slice q bs.length d] 25))).alloc (Nat.le_refl _) (.cells #[.int .i64 fr, .int .i64 to, .int .i64 ep, .int .i64 ix, .int .i64 li] 3)
  have aB := aA.later bB1
  have hL : ((w.alloc (.cells #[.int .i64 k, .slice p n c, .int .i64 fr, .int .i64 to, .int .i64 ti, .bool so, .int .i64 ep, .int .i64 ix, .int .i64 li, .slice q bs.length d] 25)).alloc (.cells #[.int .i64 fr, .int .i64 to, .int .i64 ep, .int .i64 ix, .int .i64 li] 3)).heap[w.heap.size + 1]? = some (.cells ([fr, to, ep, ix, li].map (fun x => Value.int .i64 x)).toArray 3 (0, 0)) := by rw [← sA]; exact heap_alloc_new _ _
  clear aA bA bB1 sA
  obtain ⟨W, hW⟩ : ∃ W, W = (w.alloc (.cells #[.int .i64 k, .slice p n c, .int .i64 fr, .int .i64 to, .int .i64 ti, .bool so, .int .i64 ep, .int .i64 ix, .int .i64 li, .slice q bs.length d] 25)).alloc (.cells #[.int .i64 fr, .int .i64 to, .int .i64 ep, .int .i64 ix, .int .i64 li] 3) := ⟨_, rfl⟩
  rw [← hW] at aB bB hL
  have HW : Hid (W = (w.alloc (.cells #[.int .i64 k, .slice p n c, .int .i64 fr, .int .i64 to, .int .i64 ti, .bool so, .int .i64 ep, .int .i64 ix, .int .i64 li, .slice q bs.length d] 25)).alloc (.cells #[.int .i64 fr, .int .i64 to, .int .i64 ep, .int .i64 ix, .int .i64 li] 3)) := hW
  clear hW
  obtain ⟨l, hl⟩ : ∃ l, l = [fr, to, ep, ix, li] := ⟨_, rfl⟩
  have HL : Hid (l = [fr, to, ep, ix, li]) := hl
  have hlen : Hid (l.length = 5) := by show _ = _; rw [hl]; rfl
  rw [← hl] at hL
  clear hl
  go_enter Try.func23, Try.ntmps23
  go_wp2
  go_loopw [19] (fun z wr => ∃ j : Nat, j ≤ 5 ∧ z = .int .i64 j ∧ wr = W ∧ Hid (((l.take j).any fun x => outN x 2147483648) = false)) (fun z _ => 5 - (intOf z).toNat)
  case atStart => exact ⟨0, by omega, rfl, HW.out.symm, rfl⟩
  case round =>
    obtain ⟨j, hj, rfl, rfl, hall⟩ := hrel
    by_cases hlt : j < 5
    · have hjl : j < l.length := by rw [hlen.out]; exact hlt
      have hx : Hid (l[j]? = some l[j]) := List.getElem?_eq_getElem hjl
      have hc : wr.cell? ⟨w.heap.size + 1, j, none⟩ = some (.int .i64 l[j]) := by
        rw [cell_of_row _ _ _ _ _ _ hL]
        simp [hjl]
      generalize l[j] = x at *
      have hlt2 : (j : Int) < 5 := by omega
      by_cases n1 : x < 0
      · have eF : fitsB fr to ti ep ix li n bs = false := by unfold fitsB; rw [← HL.out, any_split hx.out (outN_true (.inl n1))]; rfl
        go_wp2
        go_ret
        exact ⟨by first | rfl | (rw [eF]; done) | (rw [eF]; rfl), bB⟩
      · by_cases n2 : 2147483648 < x
        · have eF : fitsB fr to ti ep ix li n bs = false := by unfold fitsB; rw [← HL.out, any_split hx.out (outN_true (.inr n2))]; rfl
          go_wp2
          go_ret
          exact ⟨by first | rfl | (rw [eF]; done) | (rw [eF]; rfl), bB⟩
        · have hN : Hid (((l.take (j + 1)).any fun x => outN x 2147483648) = false) := by
            show _ = _
            rw [List.take_add_one, hx.out]
            simp only [Option.toList_some, List.any_append, hall.out, List.any_cons, List.any_nil, outN_no n1 n2, Bool.or_false]
          go_wp2
          go_roundw
          case rel => first | exact ⟨j + 1, by omega, by go_num, trivial, hN⟩ | exact ⟨j + 1, by omega, by go_num, rfl, hN⟩
          case measure => simp [intOf]; omega
    · obtain rfl : j = 5 := by omega
      have hF : Hid (fitsB fr to ti ep ix li n bs = (!outN ti 1125899906842624 && (!outT n && !badB bs))) := by
        show _ = _
        have := hall.out
        rw [List.take_of_length_le (by rw [hlen.out]; exact Nat.le_refl _)] at this
        unfold fitsB
        rw [← HL.out, this]
        rfl
      obtain ⟨d0, d1, d2, d3, d4, d5, d6, d7, d8, d9⟩ := ask_cells aB
      by_cases t1 : ti < 0
      · have eF : fitsB fr to ti ep ix li n bs = false := by rw [hF.out, outN_true (.inl t1)]; rfl
        go_wp2
        go_ret
        exact ⟨by first | rfl | (rw [eF]; done) | (rw [eF]; rfl), bB⟩
      by_cases t2 : 1125899906842624 < ti
      · have eF : fitsB fr to ti ep ix li n bs = false := by rw [hF.out, outN_true (.inr t2)]; rfl
        go_wp2
        go_ret
        exact ⟨by first | rfl | (rw [eF]; done) | (rw [eF]; rfl), bB⟩
      have hF2 : Hid (fitsB fr to ti ep ix li n bs = (!outT n && !badB bs)) := by show _ = _; rw [hF.out, outN_no t1 t2]; rfl
      by_cases t3 : (24 : Int) < (n : Int)
      · have eF : fitsB fr to ti ep ix li n bs = false := by rw [hF2.out]; unfold outT; simp [t3]
        go_wp2
        go_ret
        exact ⟨by first | rfl | (rw [eF]; done) | (rw [eF]; rfl), bB⟩
      have hF3 : Hid (fitsB fr to ti ep ix li n bs = !badB bs) := by show _ = _; rw [hF2.out]; unfold outT; simp [t3]
      by_cases t4 : (32 : Int) < (bs.length : Int)
      · have eF : fitsB fr to ti ep ix li n bs = false := by rw [hF3.out]; unfold badB; rw [decide_eq_true (by omega)]; rfl
        go_wp2
        go_ret
        exact ⟨by first | rfl | (rw [eF]; done) | (rw [eF]; rfl), bB⟩
      have hF4 : Hid (fitsB fr to ti ep ix li n bs = !(bs.any longB)) := by show _ = _; rw [hF3.out]; unfold badB; rw [decide_eq_false (by omega)]; rfl
      clear hF hF2 hF3 hall HL hlen hL HW
      go_wp2
      go_loopw [53] (fun z w2 => ∃ i : Nat, i ≤ bs.length ∧ z = .int .i64 i ∧ Hid (((bs.take i).any longB) = false) ∧ Below w.heap.size w w2) (fun z _ => bs.length - (intOf z).toNat)
      case atStart => exact ⟨0, Nat.zero_le _, rfl, rfl, bB⟩
      case round =>
        obtain ⟨i, hi, rfl, hal, hbe⟩ := hrel
        by_cases hlt2 : i < bs.length
        · have hx0 := hba.later hbe
          obtain ⟨b', o, rfl⟩ := hx0.addr (by omega)
          obtain ⟨x, r1, kk, r2, dd, hx, e1, e2, _, _⟩ := hx0.get i hlt2
          have bA := (Below.refl wr.heap.size wr).alloc (Nat.le_refl _) (.cells #[.slice r1 x.1.length kk, .slice r2 x.2.length dd] 92)
          have bC := hbe.trans (bA.mono hbe.size)
          have hlt3 : (i : Int) < (bs.length : Int) := by omega
          have hmem : longB x = true → fitsB fr to ti ep ix li n bs = false := fun h => by
            rw [hF4.out, List.any_eq_true.2 ⟨x, List.mem_of_getElem? hx.out, h⟩]; rfl
          have hN : longB x = false → Hid (((bs.take (i + 1)).any longB) = false) := fun h => by
            show _ = _
            rw [List.take_add_one, hx.out]
            simp only [Option.toList_some, List.any_append, hal.out, List.any_cons, List.any_nil, h, Bool.or_false]
          clear hx hx0 hbe bA hal
          by_cases t5 : (24 : Int) < (x.1.length : Int)
          · have eF := hmem (by unfold longB; rw [decide_eq_true (by omega)]; rfl)
            go_wp2
            go_ret
            exact ⟨by first | rfl | (rw [eF]; done) | (rw [eF]; rfl), bC⟩
          · by_cases t6 : (48 : Int) < (x.2.length : Int)
            · have eF := hmem (by unfold longB; rw [decide_eq_true (p := 48 < x.2.length) (by omega)]; simp)
              go_wp2
              go_ret
              exact ⟨by first | rfl | (rw [eF]; done) | (rw [eF]; rfl), bC⟩
            · have hn := hN (by unfold longB; rw [decide_eq_false (by omega), decide_eq_false (by omega)]; rfl)
              go_wp2
              go_roundw
              case rel => first | exact ⟨i + 1, by omega, by go_num, hn, bC⟩ | ((repeat apply Exists.intro); exact ⟨⟨i + 1, by omega, by go_num, hn, bC⟩, rfl⟩)
              case measure => simp [intOf]; omega
        · obtain rfl : i = bs.length := by omega
          rw [List.take_length] at hal
          have eF : fitsB fr to ti ep ix li n bs = true := by rw [hF4.out, hal.out]; rfl
          go_wp2
          go_ret
          exact ⟨by first | rfl | (rw [eF]; done) | (rw [eF]; rfl), hbe⟩

end Go.Proofs.Ythkgbgkijdeaoaa
