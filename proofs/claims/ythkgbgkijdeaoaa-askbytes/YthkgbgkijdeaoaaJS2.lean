/- What this text proves: the walk of annalsref25.Same over this program, at two requests of one kind, be they alike or not. (By program: mkaksame2.py.) -/
import Derived.Test.YthkgbgkijdeaoaaJS1
namespace Go.Proofs.Ythkgbgkijdeaoaa
open Go.RowKit

set_option maxRecDepth 100000 in
set_option maxHeartbeats 400000 in
theorem csame_len (p q : Option Addr) (n c m d : Nat) (w : World) (h : n ≠ m) :
    Calls Try.prog 36 #[.slice p n c, .slice q m d] w fun x w' => x = .returned (.bool false) ∧ w' = w := by
  have h1 : ¬ (n : Int) = (m : Int) := by omega
  have h2 : ((n : Int) != (m : Int)) = true := by simpa using h1
  go_enter Try.func36, Try.ntmps36
  go_wp2
  go_ret
  exact ⟨rfl, rfl⟩

/-- Whether two requests of one kind are alike (of unlike batches their lengths tell it). -/
def sameB (id1 id2 : List UInt8) (fr1 fr2 to1 to2 ti1 ti2 : Int) (so1 so2 : Bool) (ep1 ep2 ix1 ix2 li1 li2 : Int) (n m : Nat) : Bool := decide (id1 = id2) && (decide (fr1 = fr2) && (decide (to1 = to2) && (decide (ti1 = ti2) && (decide (so1 = so2) && (decide (ep1 = ep2) && (decide (ix1 = ix2) && (decide (li1 = li2) && decide (n = m))))))))

set_option maxRecDepth 100000 in
set_option maxHeartbeats 16000000 in
theorem aksame_gen (k fr1 fr2 to1 to2 ti1 ti2 ep1 ep2 ix1 ix2 li1 li2 : Int) (so1 so2 : Bool) (pa pb qa qb : Option Addr) (ca cb da db : Nat) (id1 id2 : List UInt8) (bs1 bs2 : List (List UInt8 × List UInt8)) (w : World) (h1 : HB w (.slice pa id1.length ca) id1) (h2 : HB w (.slice pb id2.length cb) id2) (h3 : BA w (.slice qa bs1.length da) bs1) (h4 : BA w (.slice qb bs2.length db) bs2) (hbs : bs1.length = bs2.length → bs1 = bs2) :
    Calls Try.prog 13 #[.agg #[.int .i64 k, .slice pa id1.length ca, .int .i64 fr1, .int .i64 to1, .int .i64 ti1, .bool so1, .int .i64 ep1, .int .i64 ix1, .int .i64 li1, .slice qa bs1.length da], .agg #[.int .i64 k, .slice pb id2.length cb, .int .i64 fr2, .int .i64 to2, .int .i64 ti2, .bool so2, .int .i64 ep2, .int .i64 ix2, .int .i64 li2, .slice qb bs2.length db]] w fun e w' => e = .returned (.bool (sameB id1 id2 fr1 fr2 to1 to2 ti1 ti2 so1 so2 ep1 ep2 ix1 ix2 li1 li2 bs1.length bs2.length)) ∧ Below w.heap.size w w' := by
  have b0 := (Below.refl w.heap.size w).alloc (Nat.le_refl _) (.cells #[.int .i64 k, .slice pa id1.length ca, .int .i64 fr1, .int .i64 to1, .int .i64 ti1, .bool so1, .int .i64 ep1, .int .i64 ix1, .int .i64 li1, .slice qa bs1.length da] 25)
  have bA := b0.alloc b0.size (.cells #[.int .i64 k, .slice pb id2.length cb, .int .i64 fr2, .int .i64 to2, .int .i64 ti2, .bool so2, .int .i64 ep2, .int .i64 ix2, .int .i64 li2, .slice qb bs2.length db] 25)
  have k1 := (h1.later bA).str (P := Try.prog) 22 5 9 Try.underlying22 Try.underlying5 Try.underlying9
  have k2 := (h2.later bA).str (P := Try.prog) 22 5 9 Try.underlying22 Try.underlying5 Try.underlying9
  clear b0
  by_cases e0 : id1 = id2
  · subst e0
    by_cases e1 : fr1 = fr2
    · subst e1
      by_cases e2 : to1 = to2
      · subst e2
        by_cases e3 : ti1 = ti2
        · subst e3
          by_cases e4 : so1 = so2
          · subst e4
            by_cases e5 : ep1 = ep2
            · subst e5
              by_cases e6 : ix1 = ix2
              · subst e6
                by_cases e7 : li1 = li2
                · subst e7
                  by_cases e9 : bs1.length = bs2.length
                  · obtain rfl := hbs e9
                    rw [show sameB id1 id1 fr1 fr1 to1 to1 ti1 ti1 so1 so1 ep1 ep1 ix1 ix1 li1 li1 bs1.length bs1.length = true by unfold sameB; simp]
                    exact aksame_true k fr1 to1 ti1 ep1 ix1 li1 so1 pa pb ca cb id1 _ _ bs1 w h1 h2 h3 h4
                  · rw [show sameB id1 id1 fr1 fr1 to1 to1 ti1 ti1 so1 so1 ep1 ep1 ix1 ix1 li1 li1 bs1.length bs2.length = false by unfold sameB; simp [e9]]
                    have hS := fun W => csame_len qa qb bs1.length da bs2.length db W e9
                    clear hbs h1 h2 h3 h4 e9
                    go_enter Try.func13, Try.ntmps13
                    go_wp2_with fail
                    refine (hS _).mono ?_
                    rintro e w1 ⟨rfl, rfl⟩
                    clear hS k1 k2
                    go_wp2
                    go_ret
                    exact ⟨rfl, bA⟩
                · rw [show sameB id1 id1 fr1 fr1 to1 to1 ti1 ti1 so1 so1 ep1 ep1 ix1 ix1 li1 li2 bs1.length bs2.length = false by unfold sameB; simp [e7]]
                  have n7 : (li1 == li2) = false := by simpa using e7
                  clear hbs h1 h2 h3 h4
                  go_enter Try.func13, Try.ntmps13
                  go_wp2
                  go_ret
                  exact ⟨by simp, bA⟩
              · rw [show sameB id1 id1 fr1 fr1 to1 to1 ti1 ti1 so1 so1 ep1 ep1 ix1 ix2 li1 li2 bs1.length bs2.length = false by unfold sameB; simp [e6]]
                have n6 : (ix1 == ix2) = false := by simpa using e6
                clear hbs h1 h2 h3 h4
                go_enter Try.func13, Try.ntmps13
                go_wp2
                go_ret
                exact ⟨by simp, bA⟩
            · rw [show sameB id1 id1 fr1 fr1 to1 to1 ti1 ti1 so1 so1 ep1 ep2 ix1 ix2 li1 li2 bs1.length bs2.length = false by unfold sameB; simp [e5]]
              have n5 : (ep1 == ep2) = false := by simpa using e5
              clear hbs h1 h2 h3 h4
              go_enter Try.func13, Try.ntmps13
              go_wp2
              go_ret
              exact ⟨by simp, bA⟩
          · rw [show sameB id1 id1 fr1 fr1 to1 to1 ti1 ti1 so1 so2 ep1 ep2 ix1 ix2 li1 li2 bs1.length bs2.length = false by unfold sameB; simp [e4]]
            have n4 : (so1 == so2) = false := by simpa using e4
            clear hbs h1 h2 h3 h4
            go_enter Try.func13, Try.ntmps13
            go_wp2
            go_ret
            exact ⟨by simp, bA⟩
        · rw [show sameB id1 id1 fr1 fr1 to1 to1 ti1 ti2 so1 so2 ep1 ep2 ix1 ix2 li1 li2 bs1.length bs2.length = false by unfold sameB; simp [e3]]
          have n3 : (ti1 == ti2) = false := by simpa using e3
          clear hbs h1 h2 h3 h4
          go_enter Try.func13, Try.ntmps13
          go_wp2
          go_ret
          exact ⟨by simp, bA⟩
      · rw [show sameB id1 id1 fr1 fr1 to1 to2 ti1 ti2 so1 so2 ep1 ep2 ix1 ix2 li1 li2 bs1.length bs2.length = false by unfold sameB; simp [e2]]
        have n2 : (to1 == to2) = false := by simpa using e2
        clear hbs h1 h2 h3 h4
        go_enter Try.func13, Try.ntmps13
        go_wp2
        go_ret
        exact ⟨by simp, bA⟩
    · rw [show sameB id1 id1 fr1 fr2 to1 to2 ti1 ti2 so1 so2 ep1 ep2 ix1 ix2 li1 li2 bs1.length bs2.length = false by unfold sameB; simp [e1]]
      have n1 : (fr1 == fr2) = false := by simpa using e1
      clear hbs h1 h2 h3 h4
      go_enter Try.func13, Try.ntmps13
      go_wp2
      go_ret
      exact ⟨by simp, bA⟩
  · rw [show sameB id1 id2 fr1 fr2 to1 to2 ti1 ti2 so1 so2 ep1 ep2 ix1 ix2 li1 li2 bs1.length bs2.length = false by unfold sameB; simp [e0]]
    have n0 : (id1 == id2) = false := by simpa using e0
    clear hbs h1 h2 h3 h4
    go_enter Try.func13, Try.ntmps13
    go_wp2
    go_ret
    exact ⟨by simp, bA⟩

end Go.Proofs.Ythkgbgkijdeaoaa
