/- What this text proves: the walks of the document's Nothing, Leaf and Fork (annalsref17) over this program. (By program: held.py, mkrptsmall.py.) What this text proves: the walks of the document's Bits at a leaf, and end (annalsref17) over this program: whether a way may end so. (By program: mkrpaend.py.) What this text proves: the walk of the document's Check (annalsref17) over this program: whether it may be a way of the identity. -/
import Derived.Test.YtahfjemllkbpgaaGreatDoorJP2
import Derived.Test.YtahfjemllkbpgaaGreatDoorJK2
import Derived.Test.YtahfjemllkbpgaaGreatDoorJE1
namespace Go.Proofs.YtahfjemllkbpgaaGreatDoor
open Go.RowKit

set_option maxRecDepth 100000 in
set_option maxHeartbeats 2000000 in
theorem nothing_any (k si d nw : Int) (pi pk pp pl pr pq : Option Addr) (a b g e f n ci ck cp cl cr cq : Nat) (w : World) : Calls Tryz.prog 47 #[.agg #[.int .i64 k, .slice pi a ci, .slice pk b ck, .int .i64 si, .int .i64 d, .slice pp g cp, .int .i64 nw, .slice pl e cl, .slice pr f cr, .slice pq n cq]] w fun x w' => x = .returned (.bool (decide (k = 0) && (decide (a = 0) && (decide (b = 0) && (decide (si = 0) && (decide (d = 0) && (decide (g = 0) && (decide (nw = 0) && (decide (e = 0) && (decide (f = 0) && (decide (n = 0)))))))))))) ∧ Below w.heap.size w w' := by
  by_cases h0 : k = 0
  · have t0 : ((k : Int) == 0) = true := by simp [h0]
    by_cases h1 : a = 0
    · have t1 : ((a : Int) == 0) = true := by simp [h1]
      by_cases h2 : b = 0
      · have t2 : ((b : Int) == 0) = true := by simp [h2]
        by_cases h3 : si = 0
        · have t3 : ((si : Int) == 0) = true := by simp [h3]
          by_cases h4 : d = 0
          · have t4 : ((d : Int) == 0) = true := by simp [h4]
            by_cases h5 : g = 0
            · have t5 : ((g : Int) == 0) = true := by simp [h5]
              by_cases h6 : nw = 0
              · have t6 : ((nw : Int) == 0) = true := by simp [h6]
                by_cases h7 : e = 0
                · have t7 : ((e : Int) == 0) = true := by simp [h7]
                  by_cases h8 : f = 0
                  · have t8 : ((f : Int) == 0) = true := by simp [h8]
                    by_cases h9 : n = 0
                    · have t9 : ((n : Int) == 0) = true := by simp [h9]
                      rw [show (decide (k = 0) && (decide (a = 0) && (decide (b = 0) && (decide (si = 0) && (decide (d = 0) && (decide (g = 0) && (decide (nw = 0) && (decide (e = 0) && (decide (f = 0) && (decide (n = 0))))))))))) = true by simp [*]]
                      go_enter Tryz.func47, Tryz.ntmps47
                      go_wp2
                      go_ret
                      exact ⟨rfl, (Below.refl _ _).alloc (Nat.le_refl _) _⟩
                    · have n9 : ((n : Int) == 0) = false := by simpa using h9
                      rw [show (decide (k = 0) && (decide (a = 0) && (decide (b = 0) && (decide (si = 0) && (decide (d = 0) && (decide (g = 0) && (decide (nw = 0) && (decide (e = 0) && (decide (f = 0) && (decide (n = 0))))))))))) = false by simp [*]]
                      go_enter Tryz.func47, Tryz.ntmps47
                      go_wp2
                      go_ret
                      exact ⟨rfl, (Below.refl _ _).alloc (Nat.le_refl _) _⟩
                  · have n8 : ((f : Int) == 0) = false := by simpa using h8
                    rw [show (decide (k = 0) && (decide (a = 0) && (decide (b = 0) && (decide (si = 0) && (decide (d = 0) && (decide (g = 0) && (decide (nw = 0) && (decide (e = 0) && (decide (f = 0) && (decide (n = 0))))))))))) = false by simp [*]]
                    go_enter Tryz.func47, Tryz.ntmps47
                    go_wp2
                    go_ret
                    exact ⟨rfl, (Below.refl _ _).alloc (Nat.le_refl _) _⟩
                · have n7 : ((e : Int) == 0) = false := by simpa using h7
                  rw [show (decide (k = 0) && (decide (a = 0) && (decide (b = 0) && (decide (si = 0) && (decide (d = 0) && (decide (g = 0) && (decide (nw = 0) && (decide (e = 0) && (decide (f = 0) && (decide (n = 0))))))))))) = false by simp [*]]
                  go_enter Tryz.func47, Tryz.ntmps47
                  go_wp2
                  go_ret
                  exact ⟨rfl, (Below.refl _ _).alloc (Nat.le_refl _) _⟩
              · have n6 : ((nw : Int) == 0) = false := by simpa using h6
                rw [show (decide (k = 0) && (decide (a = 0) && (decide (b = 0) && (decide (si = 0) && (decide (d = 0) && (decide (g = 0) && (decide (nw = 0) && (decide (e = 0) && (decide (f = 0) && (decide (n = 0))))))))))) = false by simp [*]]
                go_enter Tryz.func47, Tryz.ntmps47
                go_wp2
                go_ret
                exact ⟨rfl, (Below.refl _ _).alloc (Nat.le_refl _) _⟩
            · have n5 : ((g : Int) == 0) = false := by simpa using h5
              rw [show (decide (k = 0) && (decide (a = 0) && (decide (b = 0) && (decide (si = 0) && (decide (d = 0) && (decide (g = 0) && (decide (nw = 0) && (decide (e = 0) && (decide (f = 0) && (decide (n = 0))))))))))) = false by simp [*]]
              go_enter Tryz.func47, Tryz.ntmps47
              go_wp2
              go_ret
              exact ⟨rfl, (Below.refl _ _).alloc (Nat.le_refl _) _⟩
          · have n4 : ((d : Int) == 0) = false := by simpa using h4
            rw [show (decide (k = 0) && (decide (a = 0) && (decide (b = 0) && (decide (si = 0) && (decide (d = 0) && (decide (g = 0) && (decide (nw = 0) && (decide (e = 0) && (decide (f = 0) && (decide (n = 0))))))))))) = false by simp [*]]
            go_enter Tryz.func47, Tryz.ntmps47
            go_wp2
            go_ret
            exact ⟨rfl, (Below.refl _ _).alloc (Nat.le_refl _) _⟩
        · have n3 : ((si : Int) == 0) = false := by simpa using h3
          rw [show (decide (k = 0) && (decide (a = 0) && (decide (b = 0) && (decide (si = 0) && (decide (d = 0) && (decide (g = 0) && (decide (nw = 0) && (decide (e = 0) && (decide (f = 0) && (decide (n = 0))))))))))) = false by simp [*]]
          go_enter Tryz.func47, Tryz.ntmps47
          go_wp2
          go_ret
          exact ⟨rfl, (Below.refl _ _).alloc (Nat.le_refl _) _⟩
      · have n2 : ((b : Int) == 0) = false := by simpa using h2
        rw [show (decide (k = 0) && (decide (a = 0) && (decide (b = 0) && (decide (si = 0) && (decide (d = 0) && (decide (g = 0) && (decide (nw = 0) && (decide (e = 0) && (decide (f = 0) && (decide (n = 0))))))))))) = false by simp [*]]
        go_enter Tryz.func47, Tryz.ntmps47
        go_wp2
        go_ret
        exact ⟨rfl, (Below.refl _ _).alloc (Nat.le_refl _) _⟩
    · have n1 : ((a : Int) == 0) = false := by simpa using h1
      rw [show (decide (k = 0) && (decide (a = 0) && (decide (b = 0) && (decide (si = 0) && (decide (d = 0) && (decide (g = 0) && (decide (nw = 0) && (decide (e = 0) && (decide (f = 0) && (decide (n = 0))))))))))) = false by simp [*]]
      go_enter Tryz.func47, Tryz.ntmps47
      go_wp2
      go_ret
      exact ⟨rfl, (Below.refl _ _).alloc (Nat.le_refl _) _⟩
  · have n0 : ((k : Int) == 0) = false := by simpa using h0
    rw [show (decide (k = 0) && (decide (a = 0) && (decide (b = 0) && (decide (si = 0) && (decide (d = 0) && (decide (g = 0) && (decide (nw = 0) && (decide (e = 0) && (decide (f = 0) && (decide (n = 0))))))))))) = false by simp [*]]
    go_enter Tryz.func47, Tryz.ntmps47
    go_wp2
    go_ret
    exact ⟨rfl, (Below.refl _ _).alloc (Nat.le_refl _) _⟩

set_option maxRecDepth 100000 in
set_option maxHeartbeats 2000000 in
theorem rleaf_any (k si d nw : Int) (pi pk pp pl pr pq : Option Addr) (a b g e f n ci ck cp cl cr cq : Nat) (w : World) : Calls Tryz.prog 48 #[.agg #[.int .i64 k, .slice pi a ci, .slice pk b ck, .int .i64 si, .int .i64 d, .slice pp g cp, .int .i64 nw, .slice pl e cl, .slice pr f cr, .slice pq n cq]] w fun x w' => x = .returned (.bool (decide (a ≤ 255) && (decide (b ≤ 48) && (epB si && (decide (d = 0) && (decide (g = 0) && (decide (nw = 0) && (decide (e = 0) && (decide (f = 0) && (decide (n = 0))))))))))) ∧ Below w.heap.size w w' := by
  by_cases h0 : a ≤ 255
  · have t0 : decide ((a : Int) ≤ 255) = true := by simp; omega
    by_cases h1 : b ≤ 48
    · have t1 : decide ((b : Int) ≤ 48) = true := by simp; omega
      by_cases h2 : epB si = true
      · have hE : epB si = true := h2
        by_cases h3 : d = 0
        · have t3 : ((d : Int) == 0) = true := by simp [h3]
          by_cases h4 : g = 0
          · have t4 : ((g : Int) == 0) = true := by simp [h4]
            by_cases h5 : nw = 0
            · have t5 : ((nw : Int) == 0) = true := by simp [h5]
              by_cases h6 : e = 0
              · have t6 : ((e : Int) == 0) = true := by simp [h6]
                by_cases h7 : f = 0
                · have t7 : ((f : Int) == 0) = true := by simp [h7]
                  by_cases h8 : n = 0
                  · have t8 : ((n : Int) == 0) = true := by simp [h8]
                    rw [show (decide (a ≤ 255) && (decide (b ≤ 48) && (epB si && (decide (d = 0) && (decide (g = 0) && (decide (nw = 0) && (decide (e = 0) && (decide (f = 0) && (decide (n = 0)))))))))) = true by simp [*]]
                    go_enter Tryz.func48, Tryz.ntmps48
                    go_wp2_with fail
                    refine (repoch_any si _).mono ?_
                    rintro x w1 ⟨rfl, hw⟩
                    subst hw
                    rw [hE]
                    go_wp2
                    go_ret
                    exact ⟨rfl, (Below.refl _ _).alloc (Nat.le_refl _) _⟩
                  · have n8 : ((n : Int) == 0) = false := by simpa using h8
                    rw [show (decide (a ≤ 255) && (decide (b ≤ 48) && (epB si && (decide (d = 0) && (decide (g = 0) && (decide (nw = 0) && (decide (e = 0) && (decide (f = 0) && (decide (n = 0)))))))))) = false by simp [*]]
                    go_enter Tryz.func48, Tryz.ntmps48
                    go_wp2_with fail
                    refine (repoch_any si _).mono ?_
                    rintro x w1 ⟨rfl, hw⟩
                    subst hw
                    rw [hE]
                    go_wp2
                    go_ret
                    exact ⟨rfl, (Below.refl _ _).alloc (Nat.le_refl _) _⟩
                · have n7 : ((f : Int) == 0) = false := by simpa using h7
                  rw [show (decide (a ≤ 255) && (decide (b ≤ 48) && (epB si && (decide (d = 0) && (decide (g = 0) && (decide (nw = 0) && (decide (e = 0) && (decide (f = 0) && (decide (n = 0)))))))))) = false by simp [*]]
                  go_enter Tryz.func48, Tryz.ntmps48
                  go_wp2_with fail
                  refine (repoch_any si _).mono ?_
                  rintro x w1 ⟨rfl, hw⟩
                  subst hw
                  rw [hE]
                  go_wp2
                  go_ret
                  exact ⟨rfl, (Below.refl _ _).alloc (Nat.le_refl _) _⟩
              · have n6 : ((e : Int) == 0) = false := by simpa using h6
                rw [show (decide (a ≤ 255) && (decide (b ≤ 48) && (epB si && (decide (d = 0) && (decide (g = 0) && (decide (nw = 0) && (decide (e = 0) && (decide (f = 0) && (decide (n = 0)))))))))) = false by simp [*]]
                go_enter Tryz.func48, Tryz.ntmps48
                go_wp2_with fail
                refine (repoch_any si _).mono ?_
                rintro x w1 ⟨rfl, hw⟩
                subst hw
                rw [hE]
                go_wp2
                go_ret
                exact ⟨rfl, (Below.refl _ _).alloc (Nat.le_refl _) _⟩
            · have n5 : ((nw : Int) == 0) = false := by simpa using h5
              rw [show (decide (a ≤ 255) && (decide (b ≤ 48) && (epB si && (decide (d = 0) && (decide (g = 0) && (decide (nw = 0) && (decide (e = 0) && (decide (f = 0) && (decide (n = 0)))))))))) = false by simp [*]]
              go_enter Tryz.func48, Tryz.ntmps48
              go_wp2_with fail
              refine (repoch_any si _).mono ?_
              rintro x w1 ⟨rfl, hw⟩
              subst hw
              rw [hE]
              go_wp2
              go_ret
              exact ⟨rfl, (Below.refl _ _).alloc (Nat.le_refl _) _⟩
          · have n4 : ((g : Int) == 0) = false := by simpa using h4
            rw [show (decide (a ≤ 255) && (decide (b ≤ 48) && (epB si && (decide (d = 0) && (decide (g = 0) && (decide (nw = 0) && (decide (e = 0) && (decide (f = 0) && (decide (n = 0)))))))))) = false by simp [*]]
            go_enter Tryz.func48, Tryz.ntmps48
            go_wp2_with fail
            refine (repoch_any si _).mono ?_
            rintro x w1 ⟨rfl, hw⟩
            subst hw
            rw [hE]
            go_wp2
            go_ret
            exact ⟨rfl, (Below.refl _ _).alloc (Nat.le_refl _) _⟩
        · have n3 : ((d : Int) == 0) = false := by simpa using h3
          rw [show (decide (a ≤ 255) && (decide (b ≤ 48) && (epB si && (decide (d = 0) && (decide (g = 0) && (decide (nw = 0) && (decide (e = 0) && (decide (f = 0) && (decide (n = 0)))))))))) = false by simp [*]]
          go_enter Tryz.func48, Tryz.ntmps48
          go_wp2_with fail
          refine (repoch_any si _).mono ?_
          rintro x w1 ⟨rfl, hw⟩
          subst hw
          rw [hE]
          go_wp2
          go_ret
          exact ⟨rfl, (Below.refl _ _).alloc (Nat.le_refl _) _⟩
      · have hE : epB si = false := by simpa using h2
        rw [show (decide (a ≤ 255) && (decide (b ≤ 48) && (epB si && (decide (d = 0) && (decide (g = 0) && (decide (nw = 0) && (decide (e = 0) && (decide (f = 0) && (decide (n = 0)))))))))) = false by simp [*]]
        go_enter Tryz.func48, Tryz.ntmps48
        go_wp2_with fail
        refine (repoch_any si _).mono ?_
        rintro x w1 ⟨rfl, hw⟩
        subst hw
        rw [hE]
        go_wp2
        go_ret
        exact ⟨rfl, (Below.refl _ _).alloc (Nat.le_refl _) _⟩
    · have n1 : decide ((b : Int) ≤ 48) = false := by simp; omega
      rw [show (decide (a ≤ 255) && (decide (b ≤ 48) && (epB si && (decide (d = 0) && (decide (g = 0) && (decide (nw = 0) && (decide (e = 0) && (decide (f = 0) && (decide (n = 0)))))))))) = false by simp [*]]
      go_enter Tryz.func48, Tryz.ntmps48
      go_wp2
      go_ret
      exact ⟨rfl, (Below.refl _ _).alloc (Nat.le_refl _) _⟩
  · have n0 : decide ((a : Int) ≤ 255) = false := by simp; omega
    rw [show (decide (a ≤ 255) && (decide (b ≤ 48) && (epB si && (decide (d = 0) && (decide (g = 0) && (decide (nw = 0) && (decide (e = 0) && (decide (f = 0) && (decide (n = 0)))))))))) = false by simp [*]]
    go_enter Tryz.func48, Tryz.ntmps48
    go_wp2
    go_ret
    exact ⟨rfl, (Below.refl _ _).alloc (Nat.le_refl _) _⟩

theorem cells10r {W : World} {g : Nat} {t : TypeId} {c0 c1 c2 c3 c4 c5 c6 c7 c8 c9 : Value} (h : W.heap[g]? = some (.cells #[c0, c1, c2, c3, c4, c5, c6, c7, c8, c9] t (0, 0))) :
    W.cell? ⟨g, 0, none⟩ = some c0 ∧ W.cell? ⟨g, 1, none⟩ = some c1 ∧ W.cell? ⟨g, 2, none⟩ = some c2 ∧ W.cell? ⟨g, 3, none⟩ = some c3 ∧ W.cell? ⟨g, 4, none⟩ = some c4 ∧ W.cell? ⟨g, 5, none⟩ = some c5 ∧ W.cell? ⟨g, 6, none⟩ = some c6 ∧ W.cell? ⟨g, 7, none⟩ = some c7 ∧ W.cell? ⟨g, 8, none⟩ = some c8 ∧ W.cell? ⟨g, 9, none⟩ = some c9 := by
  refine ⟨?_, ?_, ?_, ?_, ?_, ?_, ?_, ?_, ?_, ?_⟩ <;> (rw [cell_of_row _ _ _ _ _ _ h]; rfl)

/-- What the document's Fork asks. -/
def rforkE (a b : Nat) (si d nw : Int) (pre : List UInt8) : Bool := (decide (0 ≤ d) && (decide (d ≤ 2048) && (decide ((pre.length : Int) = (d + 7) / 8) && decide (firstF pre d = pre)))) && (epB nw && (decide (a = 0) && (decide (b = 0) && decide (si = 0))))

set_option maxRecDepth 100000 in
set_option maxHeartbeats 8000000 in
theorem rfork_any17 (k si d nw : Int) (pi pk pp pl pr pq : Option Addr) (a b e f n ci ck cp cl cr cq : Nat) (pre : List UInt8) (w : World) (hp : HB w (.slice pp pre.length cp) pre) :
    Calls Tryz.prog 51 #[.agg #[.int .i64 k, .slice pi a ci, .slice pk b ck, .int .i64 si, .int .i64 d, .slice pp pre.length cp, .int .i64 nw, .slice pl e cl, .slice pr f cr, .slice pq n cq]] w fun x w' => x = .returned (.bool (rforkE a b si d nw pre)) ∧ Below w.heap.size w w' := by
  have bA := (Below.refl w.heap.size w).alloc (Nat.le_refl _) (.cells #[.int .i64 k, .slice pi a ci, .slice pk b ck, .int .i64 si, .int .i64 d, .slice pp pre.length cp, .int .i64 nw, .slice pl e cl, .slice pr f cr, .slice pq n cq] 26)
  have gA := heap_alloc_new w (.cells #[.int .i64 k, .slice pi a ci, .slice pk b ck, .int .i64 si, .int .i64 d, .slice pp pre.length cp, .int .i64 nw, .slice pl e cl, .slice pr f cr, .slice pq n cq] 26)
  obtain ⟨V, hV⟩ : ∃ V, w.alloc (.cells #[.int .i64 k, .slice pi a ci, .slice pk b ck, .int .i64 si, .int .i64 d, .slice pp pre.length cp, .int .i64 nw, .slice pl e cl, .slice pr f cr, .slice pq n cq] 26) = V := ⟨_, rfl⟩
  rw [hV] at bA gA
  have kp := hp.later bA
  have bD : Below V.heap.size V V.drew := (Below.refl _ V).drew
  have hblk : ∀ W, Below V.heap.size V W → W.heap[w.heap.size]? = some (.cells #[.int .i64 k, .slice pi a ci, .slice pk b ck, .int .i64 si, .int .i64 d, .slice pp pre.length cp, .int .i64 nw, .slice pl e cl, .slice pr f cr, .slice pq n cq] 26 (0, 0)) := fun W hb => (hb.block _ (Array.getElem?_eq_some_iff.1 gA).1).trans gA
  have hcells : ∀ W, Below V.heap.size V W → W.cell? ⟨w.heap.size, 4, none⟩ = some (.int .i64 d) ∧ W.cell? ⟨w.heap.size, 5, none⟩ = some (.slice pp pre.length cp) ∧ HB W (.slice pp pre.length cp) pre := by
    intro W hb
    have g := hblk W hb
    exact ⟨by rw [cell_of_row _ _ _ _ _ _ g]; rfl, by rw [cell_of_row _ _ _ _ _ _ g]; rfl, kp.later hb⟩
  have hHeld := hcells _ bD
  obtain ⟨C, hC⟩ : ∃ C, firstF pre d = C := ⟨_, rfl⟩
  have HFC : Hid (firstF pre d = C) := hC
  clear hp gA hC
  go_enter Tryz.func51, Tryz.ntmps51
  go_wp2
  refine wp_region_heldN (by kernel_rfl) (fun W => W.cell? ⟨w.heap.size, 4, none⟩ = some (.int .i64 d) ∧ W.cell? ⟨w.heap.size, 5, none⟩ = some (.slice pp pre.length cp) ∧ HB W (.slice pp pre.length cp) pre) 31 rfl ?_
  refine tkY 0 ⟨some 4, .fieldAddr 26 (.tmp 1) 4, 0, "ref.go:57", #[], none⟩ ?v0z1 hHeld ?y0z1 ?r0z1
  case y0z1 => (intro w hSw; (try dsimp only at hSw); go_simp) <;> with_reducible rfl
  try simp only [Act.put, List.setIfInBounds_toArray, List.set_cons_zero, List.set_cons_succ]
  refine tkY 1 ⟨some 5, .load 3 (.tmp 4), 3, "ref.go:57", #[⟨0, .data⟩], none⟩ ?v1z2 hHeld ?y1z2 ?r1z2
  case y1z2 => (intro w hSw; (try dsimp only at hSw); go_simp) <;> with_reducible rfl
  try simp only [Act.put, List.setIfInBounds_toArray, List.set_cons_zero, List.set_cons_succ]
  by_cases hc2 : 0 ≤ d
  · have f0 : Hid (decide (0 ≤ d) = true) := by simpa [Hid] using hc2
    refine tkY 2 ⟨some 6, .binOp .geq 3 (.tmp 5) (.const (.int .i64 0)) 3, 4, "ref.go:57", #[⟨1, .data⟩], none⟩ ?v2z3 hHeld ?y2z3 ?r2z3
    case y2z3 => (intro w hSw; (try dsimp only at hSw); go_simp) <;> with_reducible rfl
    try simp only [Act.put, List.setIfInBounds_toArray, List.set_cons_zero, List.set_cons_succ]
    refine tkY 3 ⟨some 7, .move (.tmp 6), 4, "ref.go:57", #[⟨2, .data⟩], none⟩ ?v3z4 hHeld ?y3z4 ?r3z4
    case y3z4 => (intro w hSw; (try dsimp only at hSw); go_simp) <;> with_reducible rfl
    try simp only [Act.put, List.setIfInBounds_toArray, List.set_cons_zero, List.set_cons_succ]
    refine tkY 4 ⟨some 8, .fieldAddr 26 (.tmp 1) 4, 0, "ref.go:57", #[⟨3, .guard⟩], some (3, true)⟩ ?v4z5 hHeld ?y4z5 ?r4z5
    case y4z5 => (intro w hSw; (try dsimp only at hSw); go_simp) <;> with_reducible rfl
    try simp only [Act.put, List.setIfInBounds_toArray, List.set_cons_zero, List.set_cons_succ]
    refine tkY 5 ⟨some 9, .load 3 (.tmp 8), 3, "ref.go:57", #[⟨4, .data⟩, ⟨3, .guard⟩], some (3, true)⟩ ?v5z6 hHeld ?y5z6 ?r5z6
    case y5z6 => (intro w hSw; (try dsimp only at hSw); go_simp) <;> with_reducible rfl
    try simp only [Act.put, List.setIfInBounds_toArray, List.set_cons_zero, List.set_cons_succ]
    by_cases hc6 : d ≤ 2048
    · have f1 : Hid (decide (d ≤ 2048) = true) := by simpa [Hid] using hc6
      have ew1 : IntKind.i64.wrap (d + 7) = d + 7 := by rw [IntKind.wrap_i64]; omega
      obtain ⟨N, hN⟩ : ∃ N, (d + 7) / 8 = N := ⟨_, rfl⟩
      have HN : Hid ((d + 7) / 8 = N) := hN
      have ht : (d + 7).tdiv 8 = N := by rw [Int.tdiv_eq_ediv_of_nonneg (by omega)]; exact hN
      have ew3 : IntKind.i64.wrap N = N := by rw [IntKind.wrap_i64]; omega
      clear hN
      refine tkY 6 ⟨some 10, .binOp .leq 3 (.tmp 9) (.const (.int .i64 2048)) 3, 4, "ref.go:57", #[⟨5, .data⟩, ⟨3, .guard⟩], some (3, true)⟩ ?v6z7 hHeld ?y6z7 ?r6z7
      case y6z7 => (intro w hSw; (try dsimp only at hSw); go_simp) <;> with_reducible rfl
      try simp only [Act.put, List.setIfInBounds_toArray, List.set_cons_zero, List.set_cons_succ]
      refine tkY 7 ⟨some 11, .pick (.tmp 7) (.tmp 10) (.const (.bool false)), 4, "ref.go:57", #[⟨3, .data⟩, ⟨6, .data⟩], none⟩ ?v7z8 hHeld ?y7z8 ?r7z8
      case y7z8 => (intro w hSw; (try dsimp only at hSw); go_simp) <;> with_reducible rfl
      try simp only [Act.put, List.setIfInBounds_toArray, List.set_cons_zero, List.set_cons_succ]
      refine tkY 8 ⟨some 12, .move (.tmp 11), 4, "ref.go:57", #[⟨7, .data⟩, ⟨3, .chain⟩], none⟩ ?v8z9 hHeld ?y8z9 ?r8z9
      case y8z9 => (intro w hSw; (try dsimp only at hSw); go_simp) <;> with_reducible rfl
      try simp only [Act.put, List.setIfInBounds_toArray, List.set_cons_zero, List.set_cons_succ]
      refine tkY 9 ⟨some 13, .fieldAddr 26 (.tmp 1) 5, 0, "ref.go:57", #[⟨8, .guard⟩], some (8, true)⟩ ?v9z10 hHeld ?y9z10 ?r9z10
      case y9z10 => (intro w hSw; (try dsimp only at hSw); go_simp) <;> with_reducible rfl
      try simp only [Act.put, List.setIfInBounds_toArray, List.set_cons_zero, List.set_cons_succ]
      refine tkY 10 ⟨some 14, .load 22 (.tmp 13), 22, "ref.go:57", #[⟨9, .data⟩, ⟨8, .guard⟩], some (8, true)⟩ ?v10z11 hHeld ?y10z11 ?r10z11
      case y10z11 => (intro w hSw; (try dsimp only at hSw); go_simp) <;> with_reducible rfl
      try simp only [Act.put, List.setIfInBounds_toArray, List.set_cons_zero, List.set_cons_succ]
      refine tkY 11 ⟨some 15, .call { callee := .builtin .len, args := #[.tmp 14], argTypes := #[22] }, 3, "ref.go:57", #[⟨10, .data⟩, ⟨8, .guard⟩], some (8, true)⟩ ?v11z12 hHeld ?y11z12 ?r11z12
      case y11z12 => (intro w hSw; (try dsimp only at hSw); go_simp) <;> with_reducible rfl
      try simp only [Act.put, List.setIfInBounds_toArray, List.set_cons_zero, List.set_cons_succ]
      refine tkY 12 ⟨some 16, .fieldAddr 26 (.tmp 1) 4, 0, "ref.go:57", #[⟨8, .guard⟩], some (8, true)⟩ ?v12z13 hHeld ?y12z13 ?r12z13
      case y12z13 => (intro w hSw; (try dsimp only at hSw); go_simp) <;> with_reducible rfl
      try simp only [Act.put, List.setIfInBounds_toArray, List.set_cons_zero, List.set_cons_succ]
      refine tkY 13 ⟨some 17, .load 3 (.tmp 16), 3, "ref.go:57", #[⟨12, .data⟩, ⟨8, .guard⟩], some (8, true)⟩ ?v13z14 hHeld ?y13z14 ?r13z14
      case y13z14 => (intro w hSw; (try dsimp only at hSw); go_simp) <;> with_reducible rfl
      try simp only [Act.put, List.setIfInBounds_toArray, List.set_cons_zero, List.set_cons_succ]
      refine tkY 14 ⟨some 18, .binOp .add 3 (.tmp 17) (.const (.int .i64 7)) 3, 3, "ref.go:57", #[⟨13, .data⟩, ⟨8, .guard⟩], some (8, true)⟩ ?v14z15 hHeld ?y14z15 ?r14z15
      case y14z15 => (intro w hSw; (try dsimp only at hSw); go_simp) <;> with_reducible rfl
      try simp only [Act.put, List.setIfInBounds_toArray, List.set_cons_zero, List.set_cons_succ]
      refine tkY 15 ⟨some 19, .binOp .quo 3 (.tmp 18) (.const (.int .i64 8)) 3, 3, "ref.go:57", #[⟨14, .data⟩, ⟨8, .guard⟩], some (8, true)⟩ ?v15z16 hHeld ?y15z16 ?r15z16
      case y15z16 => (intro w hSw; (try dsimp only at hSw); go_simp) <;> with_reducible rfl
      try simp only [Act.put, List.setIfInBounds_toArray, List.set_cons_zero, List.set_cons_succ]
      by_cases hc16 : (pre.length : Int) = N
      · have n2 : ((pre.length : Int) == N) = true := by simpa using hc16
        have f2 : Hid (decide ((pre.length : Int) = N) = true) := by simpa [Hid] using hc16
        have hF := fun W h => rfirst_any (.slice pp pre.length cp) pre d W h (by omega) (by omega) (by have := HN.out; omega)
        rw [HFC.out] at hF
        clear hc16
        refine tkY 16 ⟨some 20, .binOp .eql 3 (.tmp 15) (.tmp 19) 3, 4, "ref.go:57", #[⟨11, .data⟩, ⟨15, .data⟩, ⟨8, .guard⟩], some (8, true)⟩ ?v16z17 hHeld ?y16z17 ?r16z17
        case y16z17 => (intro w hSw; (try dsimp only at hSw); go_simp) <;> with_reducible rfl
        try simp only [Act.put, List.setIfInBounds_toArray, List.set_cons_zero, List.set_cons_succ]
        refine tkY 17 ⟨some 21, .pick (.tmp 12) (.tmp 20) (.const (.bool false)), 4, "ref.go:57", #[⟨8, .data⟩, ⟨16, .data⟩], none⟩ ?v17z18 hHeld ?y17z18 ?r17z18
        case y17z18 => (intro w hSw; (try dsimp only at hSw); go_simp) <;> with_reducible rfl
        try simp only [Act.put, List.setIfInBounds_toArray, List.set_cons_zero, List.set_cons_succ]
        refine tkY 18 ⟨some 22, .move (.tmp 21), 4, "ref.go:57", #[⟨17, .data⟩, ⟨8, .chain⟩], none⟩ ?v18z19 hHeld ?y18z19 ?r18z19
        case y18z19 => (intro w hSw; (try dsimp only at hSw); go_simp) <;> with_reducible rfl
        try simp only [Act.put, List.setIfInBounds_toArray, List.set_cons_zero, List.set_cons_succ]
        refine tkY 19 ⟨some 23, .fieldAddr 26 (.tmp 1) 5, 0, "ref.go:57", #[⟨18, .guard⟩], some (18, true)⟩ ?v19z20 hHeld ?y19z20 ?r19z20
        case y19z20 => (intro w hSw; (try dsimp only at hSw); go_simp) <;> with_reducible rfl
        try simp only [Act.put, List.setIfInBounds_toArray, List.set_cons_zero, List.set_cons_succ]
        refine tkY 20 ⟨some 24, .load 22 (.tmp 23), 22, "ref.go:57", #[⟨19, .data⟩, ⟨18, .guard⟩], some (18, true)⟩ ?v20z21 hHeld ?y20z21 ?r20z21
        case y20z21 => (intro w hSw; (try dsimp only at hSw); go_simp) <;> with_reducible rfl
        try simp only [Act.put, List.setIfInBounds_toArray, List.set_cons_zero, List.set_cons_succ]
        refine tkY 21 ⟨some 25, .fieldAddr 26 (.tmp 1) 4, 0, "ref.go:57", #[⟨18, .guard⟩], some (18, true)⟩ ?v21z22 hHeld ?y21z22 ?r21z22
        case y21z22 => (intro w hSw; (try dsimp only at hSw); go_simp) <;> with_reducible rfl
        try simp only [Act.put, List.setIfInBounds_toArray, List.set_cons_zero, List.set_cons_succ]
        refine tkY 22 ⟨some 26, .load 3 (.tmp 25), 3, "ref.go:57", #[⟨21, .data⟩, ⟨18, .guard⟩], some (18, true)⟩ ?v22z23 hHeld ?y22z23 ?r22z23
        case y22z23 => (intro w hSw; (try dsimp only at hSw); go_simp) <;> with_reducible rfl
        try simp only [Act.put, List.setIfInBounds_toArray, List.set_cons_zero, List.set_cons_succ]
        refine tkY 25 ⟨some 29, .fieldAddr 26 (.tmp 1) 5, 0, "ref.go:57", #[⟨18, .guard⟩], some (18, true)⟩ ?v25z24 hHeld ?y25z24 ?r25z24
        case y25z24 => (intro w hSw; (try dsimp only at hSw); go_simp) <;> with_reducible rfl
        try simp only [Act.put, List.setIfInBounds_toArray, List.set_cons_zero, List.set_cons_succ]
        refine tkY 26 ⟨some 30, .load 22 (.tmp 29), 22, "ref.go:57", #[⟨25, .data⟩, ⟨18, .guard⟩], some (18, true)⟩ ?v26z25 hHeld ?y26z25 ?r26z25
        case y26z25 => (intro w hSw; (try dsimp only at hSw); go_simp) <;> with_reducible rfl
        try simp only [Act.put, List.setIfInBounds_toArray, List.set_cons_zero, List.set_cons_succ]
        refine tkY 27 ⟨some 31, .convert 22 9 (.tmp 30), 9, "ref.go:57", #[⟨26, .data⟩, ⟨18, .guard⟩], some (18, true)⟩ ?v27z26 hHeld ?y27z26 ?r27z26
        case y27z26 => (intro w hSw; have hz := hSw.2.2.str (P := Tryz.prog) 22 5 9 Tryz.underlying22 Tryz.underlying5 Tryz.underlying9; (try dsimp only at hSw); go_simp) <;> with_reducible rfl
        try simp only [Act.put, List.setIfInBounds_toArray, List.set_cons_zero, List.set_cons_succ]
        refine wpAnyH_ready (rs := [23]) (by kernel_rfl) (by simp) ?_
        refine AllReadyH.cons (o := ⟨some 27, .call { callee := .value (.func 58), args := #[.tmp 24, .tmp 26], argTypes := #[22, 3] }, 22, "ref.go:57", #[⟨20, .data⟩, ⟨22, .data⟩, ⟨18, .chain⟩, ⟨18, .guard⟩], some (18, true)⟩) rfl (fun K hK => ?_) AllReadyH.nil
        go_simp
        refine (hF _ (kp.later bD)).mono ?_
        rintro x w2 ⟨p2, c2, rfl, kf, hb2'⟩
        have hb2 := bD.trans (hb2'.mono bD.size)
        have hst := kf.str (P := Tryz.prog) 22 5 9 Tryz.underlying22 Tryz.underlying5 Tryz.underlying9
        replace hHeld := hcells w2 hb2
        clear hb2'
        refine hK.out _ _ ?_ (fun _ => ?_)
        · exact hHeld
        clear hK K
        try simp only [Act.put, List.setIfInBounds_toArray, List.set_cons_zero, List.set_cons_succ]
        refine wpAnyH_ready (rs := [24]) (by kernel_rfl) (by simp) ?_
        refine AllReadyH.cons (o := ⟨some 28, .convert 22 9 (.tmp 27), 9, "ref.go:57", #[⟨23, .data⟩, ⟨18, .guard⟩], some (18, true)⟩) rfl (fun K hK => ?_) AllReadyH.nil
        go_simp
        refine hK.out _ _ ?_ (fun _ => ?_)
        · exact hHeld
        clear hK K
        try simp only [Act.put, List.setIfInBounds_toArray, List.set_cons_zero, List.set_cons_succ]
        by_cases hc28 : C = pre
        · have f3 : Hid (decide (C = pre) = true) := by simpa [Hid] using hc28
          refine tkY 28 ⟨some 32, .binOp .eql 9 (.tmp 28) (.tmp 31) 9, 4, "ref.go:57", #[⟨24, .data⟩, ⟨27, .data⟩, ⟨18, .guard⟩], some (18, true)⟩ ?v28z27 hHeld ?y28z27 ?r28z27
          case y28z27 => (intro w hSw; (try dsimp only at hSw); go_simp) <;> with_reducible rfl
          try simp only [Act.put, List.setIfInBounds_toArray, List.set_cons_zero, List.set_cons_succ]
          refine tkY 29 ⟨some 33, .pick (.tmp 22) (.tmp 32) (.const (.bool false)), 4, "ref.go:57", #[⟨18, .data⟩, ⟨28, .data⟩], none⟩ ?v29z28 hHeld ?y29z28 ?r29z28
          case y29z28 => (intro w hSw; (try dsimp only at hSw); go_simp) <;> with_reducible rfl
          try simp only [Act.put, List.setIfInBounds_toArray, List.set_cons_zero, List.set_cons_succ]
          refine tkY 30 ⟨some 3, .assign (.tmp 33), 4, "ref.go:57", #[⟨29, .data⟩, ⟨23, .chain⟩, ⟨0, .phase⟩, ⟨1, .phase⟩, ⟨2, .phase⟩, ⟨3, .phase⟩, ⟨4, .phase⟩, ⟨5, .phase⟩, ⟨6, .phase⟩, ⟨7, .phase⟩, ⟨8, .phase⟩, ⟨9, .phase⟩, ⟨10, .phase⟩, ⟨11, .phase⟩, ⟨12, .phase⟩, ⟨13, .phase⟩, ⟨14, .phase⟩, ⟨15, .phase⟩, ⟨16, .phase⟩, ⟨17, .phase⟩, ⟨18, .phase⟩, ⟨19, .phase⟩, ⟨20, .phase⟩, ⟨21, .phase⟩, ⟨22, .phase⟩, ⟨23, .phase⟩, ⟨24, .phase⟩, ⟨25, .phase⟩, ⟨26, .phase⟩, ⟨27, .phase⟩, ⟨28, .phase⟩, ⟨29, .phase⟩], none⟩ ?v30z29 hHeld ?y30z29 ?r30z29
          case y30z29 => (intro w hSw; (try dsimp only at hSw); go_simp) <;> with_reducible rfl
          try simp only [Act.put, List.setIfInBounds_toArray, List.set_cons_zero, List.set_cons_succ]
          refine wpAnyH_done (by kernel_rfl) ?_ _
          have HR : Hid (rforkE a b si d nw pre = (epB nw && (decide (a = 0) && (decide (b = 0) && decide (si = 0))))) := by
            show rforkE _ _ _ _ _ _ = _
            unfold rforkE
            simp [HFC.out, HN.out, f0.out, f1.out, f2.out, f3.out]
          have HW : Hid (Below w.heap.size w w2) := bA.trans (hb2.mono bA.size)
          obtain ⟨q0, q1, q2, q3, q4, q5, q6, q7, q8, q9⟩ := cells10r (hblk w2 hb2)
          have hEp := fun W => repoch_any nw W
          generalize epB nw = EB at *
          clear hHeld bD bA kp hcells hblk hb2 hst kf
          go_wp2_with fail
          refine (hEp _).mono ?_
          rintro x w3 ⟨rfl, hw3⟩
          rw [hw3]
          clear hw3 hEp
          cases EB with
          | false =>
            go_wp2
            go_ret
            rw [HR.out]
            exact ⟨by simp [*], HW.out⟩
          | true =>
            by_cases ga : a = 0
            · have tga : ((a : Int) == 0) = true := by simp [ga]
              by_cases gb : b = 0
              · have tgb : ((b : Int) == 0) = true := by simp [gb]
                by_cases gs : si = 0
                · have tgs : ((si : Int) == 0) = true := by simp [gs]
                  go_wp2
                  go_ret
                  rw [HR.out]
                  exact ⟨by simp [*], HW.out⟩
                · have tgs : ((si : Int) == 0) = false := by simpa using gs
                  go_wp2
                  go_ret
                  rw [HR.out]
                  exact ⟨by simp [*], HW.out⟩
              · have tgb : ((b : Int) == 0) = false := by simpa using gb
                go_wp2
                go_ret
                rw [HR.out]
                exact ⟨by simp [*], HW.out⟩
            · have tga : ((a : Int) == 0) = false := by simpa using ga
              go_wp2
              go_ret
              rw [HR.out]
              exact ⟨by simp [*], HW.out⟩
        · have f3 : Hid (decide (C = pre) = false) := by simpa [Hid] using hc28
          refine tkY 28 ⟨some 32, .binOp .eql 9 (.tmp 28) (.tmp 31) 9, 4, "ref.go:57", #[⟨24, .data⟩, ⟨27, .data⟩, ⟨18, .guard⟩], some (18, true)⟩ ?v28z30 hHeld ?y28z30 ?r28z30
          case y28z30 => (intro w hSw; (try dsimp only at hSw); go_simp) <;> with_reducible rfl
          try simp only [Act.put, List.setIfInBounds_toArray, List.set_cons_zero, List.set_cons_succ]
          refine tkY 29 ⟨some 33, .pick (.tmp 22) (.tmp 32) (.const (.bool false)), 4, "ref.go:57", #[⟨18, .data⟩, ⟨28, .data⟩], none⟩ ?v29z31 hHeld ?y29z31 ?r29z31
          case y29z31 => (intro w hSw; (try dsimp only at hSw); go_simp) <;> with_reducible rfl
          try simp only [Act.put, List.setIfInBounds_toArray, List.set_cons_zero, List.set_cons_succ]
          refine tkY 30 ⟨some 3, .assign (.tmp 33), 4, "ref.go:57", #[⟨29, .data⟩, ⟨23, .chain⟩, ⟨0, .phase⟩, ⟨1, .phase⟩, ⟨2, .phase⟩, ⟨3, .phase⟩, ⟨4, .phase⟩, ⟨5, .phase⟩, ⟨6, .phase⟩, ⟨7, .phase⟩, ⟨8, .phase⟩, ⟨9, .phase⟩, ⟨10, .phase⟩, ⟨11, .phase⟩, ⟨12, .phase⟩, ⟨13, .phase⟩, ⟨14, .phase⟩, ⟨15, .phase⟩, ⟨16, .phase⟩, ⟨17, .phase⟩, ⟨18, .phase⟩, ⟨19, .phase⟩, ⟨20, .phase⟩, ⟨21, .phase⟩, ⟨22, .phase⟩, ⟨23, .phase⟩, ⟨24, .phase⟩, ⟨25, .phase⟩, ⟨26, .phase⟩, ⟨27, .phase⟩, ⟨28, .phase⟩, ⟨29, .phase⟩], none⟩ ?v30z32 hHeld ?y30z32 ?r30z32
          case y30z32 => (intro w hSw; (try dsimp only at hSw); go_simp) <;> with_reducible rfl
          try simp only [Act.put, List.setIfInBounds_toArray, List.set_cons_zero, List.set_cons_succ]
          refine wpAnyH_done (by kernel_rfl) ?_ _
          have HR : Hid (rforkE a b si d nw pre = false) := by
            show rforkE _ _ _ _ _ _ = _
            unfold rforkE
            simp [HFC.out, HN.out, f0.out, f1.out, f2.out, f3.out]
          have HW : Hid (Below w.heap.size w w2) := bA.trans (hb2.mono bA.size)
          clear hHeld bD bA kp hcells hblk
          go_wp2
          go_ret
          rw [HR.out]
          exact ⟨rfl, HW.out⟩
      · have n2 : ((pre.length : Int) == N) = false := by simpa using hc16
        have f2 : Hid (decide ((pre.length : Int) = N) = false) := by simpa [Hid] using hc16
        clear hc16
        refine tkY 16 ⟨some 20, .binOp .eql 3 (.tmp 15) (.tmp 19) 3, 4, "ref.go:57", #[⟨11, .data⟩, ⟨15, .data⟩, ⟨8, .guard⟩], some (8, true)⟩ ?v16z33 hHeld ?y16z33 ?r16z33
        case y16z33 => (intro w hSw; (try dsimp only at hSw); go_simp) <;> with_reducible rfl
        try simp only [Act.put, List.setIfInBounds_toArray, List.set_cons_zero, List.set_cons_succ]
        refine tkY 17 ⟨some 21, .pick (.tmp 12) (.tmp 20) (.const (.bool false)), 4, "ref.go:57", #[⟨8, .data⟩, ⟨16, .data⟩], none⟩ ?v17z34 hHeld ?y17z34 ?r17z34
        case y17z34 => (intro w hSw; (try dsimp only at hSw); go_simp) <;> with_reducible rfl
        try simp only [Act.put, List.setIfInBounds_toArray, List.set_cons_zero, List.set_cons_succ]
        refine tkY 18 ⟨some 22, .move (.tmp 21), 4, "ref.go:57", #[⟨17, .data⟩, ⟨8, .chain⟩], none⟩ ?v18z35 hHeld ?y18z35 ?r18z35
        case y18z35 => (intro w hSw; (try dsimp only at hSw); go_simp) <;> with_reducible rfl
        try simp only [Act.put, List.setIfInBounds_toArray, List.set_cons_zero, List.set_cons_succ]
        refine tkN 19 ⟨some 23, .fieldAddr 26 (.tmp 1) 5, 0, "ref.go:57", #[⟨18, .guard⟩], some (18, true)⟩ hHeld ?_
        try simp only [Act.put, List.setIfInBounds_toArray, List.set_cons_zero, List.set_cons_succ]
        refine tkN 20 ⟨some 24, .load 22 (.tmp 23), 22, "ref.go:57", #[⟨19, .data⟩, ⟨18, .guard⟩], some (18, true)⟩ hHeld ?_
        try simp only [Act.put, List.setIfInBounds_toArray, List.set_cons_zero, List.set_cons_succ]
        refine tkN 21 ⟨some 25, .fieldAddr 26 (.tmp 1) 4, 0, "ref.go:57", #[⟨18, .guard⟩], some (18, true)⟩ hHeld ?_
        try simp only [Act.put, List.setIfInBounds_toArray, List.set_cons_zero, List.set_cons_succ]
        refine tkN 22 ⟨some 26, .load 3 (.tmp 25), 3, "ref.go:57", #[⟨21, .data⟩, ⟨18, .guard⟩], some (18, true)⟩ hHeld ?_
        try simp only [Act.put, List.setIfInBounds_toArray, List.set_cons_zero, List.set_cons_succ]
        refine tkN 23 ⟨some 27, .call { callee := .value (.func 58), args := #[.tmp 24, .tmp 26], argTypes := #[22, 3] }, 22, "ref.go:57", #[⟨20, .data⟩, ⟨22, .data⟩, ⟨18, .chain⟩, ⟨18, .guard⟩], some (18, true)⟩ hHeld ?_
        try simp only [Act.put, List.setIfInBounds_toArray, List.set_cons_zero, List.set_cons_succ]
        refine tkN 24 ⟨some 28, .convert 22 9 (.tmp 27), 9, "ref.go:57", #[⟨23, .data⟩, ⟨18, .guard⟩], some (18, true)⟩ hHeld ?_
        try simp only [Act.put, List.setIfInBounds_toArray, List.set_cons_zero, List.set_cons_succ]
        refine tkN 25 ⟨some 29, .fieldAddr 26 (.tmp 1) 5, 0, "ref.go:57", #[⟨18, .guard⟩], some (18, true)⟩ hHeld ?_
        try simp only [Act.put, List.setIfInBounds_toArray, List.set_cons_zero, List.set_cons_succ]
        refine tkN 26 ⟨some 30, .load 22 (.tmp 29), 22, "ref.go:57", #[⟨25, .data⟩, ⟨18, .guard⟩], some (18, true)⟩ hHeld ?_
        try simp only [Act.put, List.setIfInBounds_toArray, List.set_cons_zero, List.set_cons_succ]
        refine tkN 27 ⟨some 31, .convert 22 9 (.tmp 30), 9, "ref.go:57", #[⟨26, .data⟩, ⟨18, .guard⟩], some (18, true)⟩ hHeld ?_
        try simp only [Act.put, List.setIfInBounds_toArray, List.set_cons_zero, List.set_cons_succ]
        refine tkN 28 ⟨some 32, .binOp .eql 9 (.tmp 28) (.tmp 31) 9, 4, "ref.go:57", #[⟨24, .data⟩, ⟨27, .data⟩, ⟨18, .guard⟩], some (18, true)⟩ hHeld ?_
        try simp only [Act.put, List.setIfInBounds_toArray, List.set_cons_zero, List.set_cons_succ]
        refine tkY 29 ⟨some 33, .pick (.tmp 22) (.tmp 32) (.const (.bool false)), 4, "ref.go:57", #[⟨18, .data⟩, ⟨28, .data⟩], none⟩ ?v29z36 hHeld ?y29z36 ?r29z36
        case y29z36 => (intro w hSw; (try dsimp only at hSw); go_simp) <;> with_reducible rfl
        try simp only [Act.put, List.setIfInBounds_toArray, List.set_cons_zero, List.set_cons_succ]
        refine tkY 30 ⟨some 3, .assign (.tmp 33), 4, "ref.go:57", #[⟨29, .data⟩, ⟨23, .chain⟩, ⟨0, .phase⟩, ⟨1, .phase⟩, ⟨2, .phase⟩, ⟨3, .phase⟩, ⟨4, .phase⟩, ⟨5, .phase⟩, ⟨6, .phase⟩, ⟨7, .phase⟩, ⟨8, .phase⟩, ⟨9, .phase⟩, ⟨10, .phase⟩, ⟨11, .phase⟩, ⟨12, .phase⟩, ⟨13, .phase⟩, ⟨14, .phase⟩, ⟨15, .phase⟩, ⟨16, .phase⟩, ⟨17, .phase⟩, ⟨18, .phase⟩, ⟨19, .phase⟩, ⟨20, .phase⟩, ⟨21, .phase⟩, ⟨22, .phase⟩, ⟨23, .phase⟩, ⟨24, .phase⟩, ⟨25, .phase⟩, ⟨26, .phase⟩, ⟨27, .phase⟩, ⟨28, .phase⟩, ⟨29, .phase⟩], none⟩ ?v30z37 hHeld ?y30z37 ?r30z37
        case y30z37 => (intro w hSw; (try dsimp only at hSw); go_simp) <;> with_reducible rfl
        try simp only [Act.put, List.setIfInBounds_toArray, List.set_cons_zero, List.set_cons_succ]
        refine wpAnyH_done (by kernel_rfl) ?_ _
        have HR : Hid (rforkE a b si d nw pre = false) := by
          show rforkE _ _ _ _ _ _ = _
          unfold rforkE
          simp [HFC.out, HN.out, f0.out, f1.out, f2.out]
        have HW : Hid (Below w.heap.size w V.drew) := bA.trans (bD.mono bA.size)
        clear hHeld bD bA kp hcells hblk
        go_wp2
        go_ret
        rw [HR.out]
        exact ⟨rfl, HW.out⟩
    · have n1 : decide (d ≤ 2048) = false := by simpa using hc6
      have f1 : Hid (decide (d ≤ 2048) = false) := n1
      refine tkY 6 ⟨some 10, .binOp .leq 3 (.tmp 9) (.const (.int .i64 2048)) 3, 4, "ref.go:57", #[⟨5, .data⟩, ⟨3, .guard⟩], some (3, true)⟩ ?v6z38 hHeld ?y6z38 ?r6z38
      case y6z38 => (intro w hSw; (try dsimp only at hSw); go_simp) <;> with_reducible rfl
      try simp only [Act.put, List.setIfInBounds_toArray, List.set_cons_zero, List.set_cons_succ]
      refine tkY 7 ⟨some 11, .pick (.tmp 7) (.tmp 10) (.const (.bool false)), 4, "ref.go:57", #[⟨3, .data⟩, ⟨6, .data⟩], none⟩ ?v7z39 hHeld ?y7z39 ?r7z39
      case y7z39 => (intro w hSw; (try dsimp only at hSw); go_simp) <;> with_reducible rfl
      try simp only [Act.put, List.setIfInBounds_toArray, List.set_cons_zero, List.set_cons_succ]
      refine tkY 8 ⟨some 12, .move (.tmp 11), 4, "ref.go:57", #[⟨7, .data⟩, ⟨3, .chain⟩], none⟩ ?v8z40 hHeld ?y8z40 ?r8z40
      case y8z40 => (intro w hSw; (try dsimp only at hSw); go_simp) <;> with_reducible rfl
      try simp only [Act.put, List.setIfInBounds_toArray, List.set_cons_zero, List.set_cons_succ]
      refine tkN 9 ⟨some 13, .fieldAddr 26 (.tmp 1) 5, 0, "ref.go:57", #[⟨8, .guard⟩], some (8, true)⟩ hHeld ?_
      try simp only [Act.put, List.setIfInBounds_toArray, List.set_cons_zero, List.set_cons_succ]
      refine tkN 10 ⟨some 14, .load 22 (.tmp 13), 22, "ref.go:57", #[⟨9, .data⟩, ⟨8, .guard⟩], some (8, true)⟩ hHeld ?_
      try simp only [Act.put, List.setIfInBounds_toArray, List.set_cons_zero, List.set_cons_succ]
      refine tkN 11 ⟨some 15, .call { callee := .builtin .len, args := #[.tmp 14], argTypes := #[22] }, 3, "ref.go:57", #[⟨10, .data⟩, ⟨8, .guard⟩], some (8, true)⟩ hHeld ?_
      try simp only [Act.put, List.setIfInBounds_toArray, List.set_cons_zero, List.set_cons_succ]
      refine tkN 12 ⟨some 16, .fieldAddr 26 (.tmp 1) 4, 0, "ref.go:57", #[⟨8, .guard⟩], some (8, true)⟩ hHeld ?_
      try simp only [Act.put, List.setIfInBounds_toArray, List.set_cons_zero, List.set_cons_succ]
      refine tkN 13 ⟨some 17, .load 3 (.tmp 16), 3, "ref.go:57", #[⟨12, .data⟩, ⟨8, .guard⟩], some (8, true)⟩ hHeld ?_
      try simp only [Act.put, List.setIfInBounds_toArray, List.set_cons_zero, List.set_cons_succ]
      refine tkN 14 ⟨some 18, .binOp .add 3 (.tmp 17) (.const (.int .i64 7)) 3, 3, "ref.go:57", #[⟨13, .data⟩, ⟨8, .guard⟩], some (8, true)⟩ hHeld ?_
      try simp only [Act.put, List.setIfInBounds_toArray, List.set_cons_zero, List.set_cons_succ]
      refine tkN 15 ⟨some 19, .binOp .quo 3 (.tmp 18) (.const (.int .i64 8)) 3, 3, "ref.go:57", #[⟨14, .data⟩, ⟨8, .guard⟩], some (8, true)⟩ hHeld ?_
      try simp only [Act.put, List.setIfInBounds_toArray, List.set_cons_zero, List.set_cons_succ]
      refine tkN 16 ⟨some 20, .binOp .eql 3 (.tmp 15) (.tmp 19) 3, 4, "ref.go:57", #[⟨11, .data⟩, ⟨15, .data⟩, ⟨8, .guard⟩], some (8, true)⟩ hHeld ?_
      try simp only [Act.put, List.setIfInBounds_toArray, List.set_cons_zero, List.set_cons_succ]
      refine tkY 17 ⟨some 21, .pick (.tmp 12) (.tmp 20) (.const (.bool false)), 4, "ref.go:57", #[⟨8, .data⟩, ⟨16, .data⟩], none⟩ ?v17z41 hHeld ?y17z41 ?r17z41
      case y17z41 => (intro w hSw; (try dsimp only at hSw); go_simp) <;> with_reducible rfl
      try simp only [Act.put, List.setIfInBounds_toArray, List.set_cons_zero, List.set_cons_succ]
      refine tkY 18 ⟨some 22, .move (.tmp 21), 4, "ref.go:57", #[⟨17, .data⟩, ⟨8, .chain⟩], none⟩ ?v18z42 hHeld ?y18z42 ?r18z42
      case y18z42 => (intro w hSw; (try dsimp only at hSw); go_simp) <;> with_reducible rfl
      try simp only [Act.put, List.setIfInBounds_toArray, List.set_cons_zero, List.set_cons_succ]
      refine tkN 19 ⟨some 23, .fieldAddr 26 (.tmp 1) 5, 0, "ref.go:57", #[⟨18, .guard⟩], some (18, true)⟩ hHeld ?_
      try simp only [Act.put, List.setIfInBounds_toArray, List.set_cons_zero, List.set_cons_succ]
      refine tkN 20 ⟨some 24, .load 22 (.tmp 23), 22, "ref.go:57", #[⟨19, .data⟩, ⟨18, .guard⟩], some (18, true)⟩ hHeld ?_
      try simp only [Act.put, List.setIfInBounds_toArray, List.set_cons_zero, List.set_cons_succ]
      refine tkN 21 ⟨some 25, .fieldAddr 26 (.tmp 1) 4, 0, "ref.go:57", #[⟨18, .guard⟩], some (18, true)⟩ hHeld ?_
      try simp only [Act.put, List.setIfInBounds_toArray, List.set_cons_zero, List.set_cons_succ]
      refine tkN 22 ⟨some 26, .load 3 (.tmp 25), 3, "ref.go:57", #[⟨21, .data⟩, ⟨18, .guard⟩], some (18, true)⟩ hHeld ?_
      try simp only [Act.put, List.setIfInBounds_toArray, List.set_cons_zero, List.set_cons_succ]
      refine tkN 23 ⟨some 27, .call { callee := .value (.func 58), args := #[.tmp 24, .tmp 26], argTypes := #[22, 3] }, 22, "ref.go:57", #[⟨20, .data⟩, ⟨22, .data⟩, ⟨18, .chain⟩, ⟨18, .guard⟩], some (18, true)⟩ hHeld ?_
      try simp only [Act.put, List.setIfInBounds_toArray, List.set_cons_zero, List.set_cons_succ]
      refine tkN 24 ⟨some 28, .convert 22 9 (.tmp 27), 9, "ref.go:57", #[⟨23, .data⟩, ⟨18, .guard⟩], some (18, true)⟩ hHeld ?_
      try simp only [Act.put, List.setIfInBounds_toArray, List.set_cons_zero, List.set_cons_succ]
      refine tkN 25 ⟨some 29, .fieldAddr 26 (.tmp 1) 5, 0, "ref.go:57", #[⟨18, .guard⟩], some (18, true)⟩ hHeld ?_
      try simp only [Act.put, List.setIfInBounds_toArray, List.set_cons_zero, List.set_cons_succ]
      refine tkN 26 ⟨some 30, .load 22 (.tmp 29), 22, "ref.go:57", #[⟨25, .data⟩, ⟨18, .guard⟩], some (18, true)⟩ hHeld ?_
      try simp only [Act.put, List.setIfInBounds_toArray, List.set_cons_zero, List.set_cons_succ]
      refine tkN 27 ⟨some 31, .convert 22 9 (.tmp 30), 9, "ref.go:57", #[⟨26, .data⟩, ⟨18, .guard⟩], some (18, true)⟩ hHeld ?_
      try simp only [Act.put, List.setIfInBounds_toArray, List.set_cons_zero, List.set_cons_succ]
      refine tkN 28 ⟨some 32, .binOp .eql 9 (.tmp 28) (.tmp 31) 9, 4, "ref.go:57", #[⟨24, .data⟩, ⟨27, .data⟩, ⟨18, .guard⟩], some (18, true)⟩ hHeld ?_
      try simp only [Act.put, List.setIfInBounds_toArray, List.set_cons_zero, List.set_cons_succ]
      refine tkY 29 ⟨some 33, .pick (.tmp 22) (.tmp 32) (.const (.bool false)), 4, "ref.go:57", #[⟨18, .data⟩, ⟨28, .data⟩], none⟩ ?v29z43 hHeld ?y29z43 ?r29z43
      case y29z43 => (intro w hSw; (try dsimp only at hSw); go_simp) <;> with_reducible rfl
      try simp only [Act.put, List.setIfInBounds_toArray, List.set_cons_zero, List.set_cons_succ]
      refine tkY 30 ⟨some 3, .assign (.tmp 33), 4, "ref.go:57", #[⟨29, .data⟩, ⟨23, .chain⟩, ⟨0, .phase⟩, ⟨1, .phase⟩, ⟨2, .phase⟩, ⟨3, .phase⟩, ⟨4, .phase⟩, ⟨5, .phase⟩, ⟨6, .phase⟩, ⟨7, .phase⟩, ⟨8, .phase⟩, ⟨9, .phase⟩, ⟨10, .phase⟩, ⟨11, .phase⟩, ⟨12, .phase⟩, ⟨13, .phase⟩, ⟨14, .phase⟩, ⟨15, .phase⟩, ⟨16, .phase⟩, ⟨17, .phase⟩, ⟨18, .phase⟩, ⟨19, .phase⟩, ⟨20, .phase⟩, ⟨21, .phase⟩, ⟨22, .phase⟩, ⟨23, .phase⟩, ⟨24, .phase⟩, ⟨25, .phase⟩, ⟨26, .phase⟩, ⟨27, .phase⟩, ⟨28, .phase⟩, ⟨29, .phase⟩], none⟩ ?v30z44 hHeld ?y30z44 ?r30z44
      case y30z44 => (intro w hSw; (try dsimp only at hSw); go_simp) <;> with_reducible rfl
      try simp only [Act.put, List.setIfInBounds_toArray, List.set_cons_zero, List.set_cons_succ]
      refine wpAnyH_done (by kernel_rfl) ?_ _
      have HR : Hid (rforkE a b si d nw pre = false) := by
        show rforkE _ _ _ _ _ _ = _
        unfold rforkE
        simp [HFC.out, f0.out, f1.out]
      have HW : Hid (Below w.heap.size w V.drew) := bA.trans (bD.mono bA.size)
      clear hHeld bD bA kp hcells hblk
      go_wp2
      go_ret
      rw [HR.out]
      exact ⟨rfl, HW.out⟩
  · have n0 : decide (0 ≤ d) = false := by simpa using hc2
    have f0 : Hid (decide (0 ≤ d) = false) := n0
    refine tkY 2 ⟨some 6, .binOp .geq 3 (.tmp 5) (.const (.int .i64 0)) 3, 4, "ref.go:57", #[⟨1, .data⟩], none⟩ ?v2z45 hHeld ?y2z45 ?r2z45
    case y2z45 => (intro w hSw; (try dsimp only at hSw); go_simp) <;> with_reducible rfl
    try simp only [Act.put, List.setIfInBounds_toArray, List.set_cons_zero, List.set_cons_succ]
    refine tkY 3 ⟨some 7, .move (.tmp 6), 4, "ref.go:57", #[⟨2, .data⟩], none⟩ ?v3z46 hHeld ?y3z46 ?r3z46
    case y3z46 => (intro w hSw; (try dsimp only at hSw); go_simp) <;> with_reducible rfl
    try simp only [Act.put, List.setIfInBounds_toArray, List.set_cons_zero, List.set_cons_succ]
    refine tkN 4 ⟨some 8, .fieldAddr 26 (.tmp 1) 4, 0, "ref.go:57", #[⟨3, .guard⟩], some (3, true)⟩ hHeld ?_
    try simp only [Act.put, List.setIfInBounds_toArray, List.set_cons_zero, List.set_cons_succ]
    refine tkN 5 ⟨some 9, .load 3 (.tmp 8), 3, "ref.go:57", #[⟨4, .data⟩, ⟨3, .guard⟩], some (3, true)⟩ hHeld ?_
    try simp only [Act.put, List.setIfInBounds_toArray, List.set_cons_zero, List.set_cons_succ]
    refine tkN 6 ⟨some 10, .binOp .leq 3 (.tmp 9) (.const (.int .i64 2048)) 3, 4, "ref.go:57", #[⟨5, .data⟩, ⟨3, .guard⟩], some (3, true)⟩ hHeld ?_
    try simp only [Act.put, List.setIfInBounds_toArray, List.set_cons_zero, List.set_cons_succ]
    refine tkY 7 ⟨some 11, .pick (.tmp 7) (.tmp 10) (.const (.bool false)), 4, "ref.go:57", #[⟨3, .data⟩, ⟨6, .data⟩], none⟩ ?v7z47 hHeld ?y7z47 ?r7z47
    case y7z47 => (intro w hSw; (try dsimp only at hSw); go_simp) <;> with_reducible rfl
    try simp only [Act.put, List.setIfInBounds_toArray, List.set_cons_zero, List.set_cons_succ]
    refine tkY 8 ⟨some 12, .move (.tmp 11), 4, "ref.go:57", #[⟨7, .data⟩, ⟨3, .chain⟩], none⟩ ?v8z48 hHeld ?y8z48 ?r8z48
    case y8z48 => (intro w hSw; (try dsimp only at hSw); go_simp) <;> with_reducible rfl
    try simp only [Act.put, List.setIfInBounds_toArray, List.set_cons_zero, List.set_cons_succ]
    refine tkN 9 ⟨some 13, .fieldAddr 26 (.tmp 1) 5, 0, "ref.go:57", #[⟨8, .guard⟩], some (8, true)⟩ hHeld ?_
    try simp only [Act.put, List.setIfInBounds_toArray, List.set_cons_zero, List.set_cons_succ]
    refine tkN 10 ⟨some 14, .load 22 (.tmp 13), 22, "ref.go:57", #[⟨9, .data⟩, ⟨8, .guard⟩], some (8, true)⟩ hHeld ?_
    try simp only [Act.put, List.setIfInBounds_toArray, List.set_cons_zero, List.set_cons_succ]
    refine tkN 11 ⟨some 15, .call { callee := .builtin .len, args := #[.tmp 14], argTypes := #[22] }, 3, "ref.go:57", #[⟨10, .data⟩, ⟨8, .guard⟩], some (8, true)⟩ hHeld ?_
    try simp only [Act.put, List.setIfInBounds_toArray, List.set_cons_zero, List.set_cons_succ]
    refine tkN 12 ⟨some 16, .fieldAddr 26 (.tmp 1) 4, 0, "ref.go:57", #[⟨8, .guard⟩], some (8, true)⟩ hHeld ?_
    try simp only [Act.put, List.setIfInBounds_toArray, List.set_cons_zero, List.set_cons_succ]
    refine tkN 13 ⟨some 17, .load 3 (.tmp 16), 3, "ref.go:57", #[⟨12, .data⟩, ⟨8, .guard⟩], some (8, true)⟩ hHeld ?_
    try simp only [Act.put, List.setIfInBounds_toArray, List.set_cons_zero, List.set_cons_succ]
    refine tkN 14 ⟨some 18, .binOp .add 3 (.tmp 17) (.const (.int .i64 7)) 3, 3, "ref.go:57", #[⟨13, .data⟩, ⟨8, .guard⟩], some (8, true)⟩ hHeld ?_
    try simp only [Act.put, List.setIfInBounds_toArray, List.set_cons_zero, List.set_cons_succ]
    refine tkN 15 ⟨some 19, .binOp .quo 3 (.tmp 18) (.const (.int .i64 8)) 3, 3, "ref.go:57", #[⟨14, .data⟩, ⟨8, .guard⟩], some (8, true)⟩ hHeld ?_
    try simp only [Act.put, List.setIfInBounds_toArray, List.set_cons_zero, List.set_cons_succ]
    refine tkN 16 ⟨some 20, .binOp .eql 3 (.tmp 15) (.tmp 19) 3, 4, "ref.go:57", #[⟨11, .data⟩, ⟨15, .data⟩, ⟨8, .guard⟩], some (8, true)⟩ hHeld ?_
    try simp only [Act.put, List.setIfInBounds_toArray, List.set_cons_zero, List.set_cons_succ]
    refine tkY 17 ⟨some 21, .pick (.tmp 12) (.tmp 20) (.const (.bool false)), 4, "ref.go:57", #[⟨8, .data⟩, ⟨16, .data⟩], none⟩ ?v17z49 hHeld ?y17z49 ?r17z49
    case y17z49 => (intro w hSw; (try dsimp only at hSw); go_simp) <;> with_reducible rfl
    try simp only [Act.put, List.setIfInBounds_toArray, List.set_cons_zero, List.set_cons_succ]
    refine tkY 18 ⟨some 22, .move (.tmp 21), 4, "ref.go:57", #[⟨17, .data⟩, ⟨8, .chain⟩], none⟩ ?v18z50 hHeld ?y18z50 ?r18z50
    case y18z50 => (intro w hSw; (try dsimp only at hSw); go_simp) <;> with_reducible rfl
    try simp only [Act.put, List.setIfInBounds_toArray, List.set_cons_zero, List.set_cons_succ]
    refine tkN 19 ⟨some 23, .fieldAddr 26 (.tmp 1) 5, 0, "ref.go:57", #[⟨18, .guard⟩], some (18, true)⟩ hHeld ?_
    try simp only [Act.put, List.setIfInBounds_toArray, List.set_cons_zero, List.set_cons_succ]
    refine tkN 20 ⟨some 24, .load 22 (.tmp 23), 22, "ref.go:57", #[⟨19, .data⟩, ⟨18, .guard⟩], some (18, true)⟩ hHeld ?_
    try simp only [Act.put, List.setIfInBounds_toArray, List.set_cons_zero, List.set_cons_succ]
    refine tkN 21 ⟨some 25, .fieldAddr 26 (.tmp 1) 4, 0, "ref.go:57", #[⟨18, .guard⟩], some (18, true)⟩ hHeld ?_
    try simp only [Act.put, List.setIfInBounds_toArray, List.set_cons_zero, List.set_cons_succ]
    refine tkN 22 ⟨some 26, .load 3 (.tmp 25), 3, "ref.go:57", #[⟨21, .data⟩, ⟨18, .guard⟩], some (18, true)⟩ hHeld ?_
    try simp only [Act.put, List.setIfInBounds_toArray, List.set_cons_zero, List.set_cons_succ]
    refine tkN 23 ⟨some 27, .call { callee := .value (.func 58), args := #[.tmp 24, .tmp 26], argTypes := #[22, 3] }, 22, "ref.go:57", #[⟨20, .data⟩, ⟨22, .data⟩, ⟨18, .chain⟩, ⟨18, .guard⟩], some (18, true)⟩ hHeld ?_
    try simp only [Act.put, List.setIfInBounds_toArray, List.set_cons_zero, List.set_cons_succ]
    refine tkN 24 ⟨some 28, .convert 22 9 (.tmp 27), 9, "ref.go:57", #[⟨23, .data⟩, ⟨18, .guard⟩], some (18, true)⟩ hHeld ?_
    try simp only [Act.put, List.setIfInBounds_toArray, List.set_cons_zero, List.set_cons_succ]
    refine tkN 25 ⟨some 29, .fieldAddr 26 (.tmp 1) 5, 0, "ref.go:57", #[⟨18, .guard⟩], some (18, true)⟩ hHeld ?_
    try simp only [Act.put, List.setIfInBounds_toArray, List.set_cons_zero, List.set_cons_succ]
    refine tkN 26 ⟨some 30, .load 22 (.tmp 29), 22, "ref.go:57", #[⟨25, .data⟩, ⟨18, .guard⟩], some (18, true)⟩ hHeld ?_
    try simp only [Act.put, List.setIfInBounds_toArray, List.set_cons_zero, List.set_cons_succ]
    refine tkN 27 ⟨some 31, .convert 22 9 (.tmp 30), 9, "ref.go:57", #[⟨26, .data⟩, ⟨18, .guard⟩], some (18, true)⟩ hHeld ?_
    try simp only [Act.put, List.setIfInBounds_toArray, List.set_cons_zero, List.set_cons_succ]
    refine tkN 28 ⟨some 32, .binOp .eql 9 (.tmp 28) (.tmp 31) 9, 4, "ref.go:57", #[⟨24, .data⟩, ⟨27, .data⟩, ⟨18, .guard⟩], some (18, true)⟩ hHeld ?_
    try simp only [Act.put, List.setIfInBounds_toArray, List.set_cons_zero, List.set_cons_succ]
    refine tkY 29 ⟨some 33, .pick (.tmp 22) (.tmp 32) (.const (.bool false)), 4, "ref.go:57", #[⟨18, .data⟩, ⟨28, .data⟩], none⟩ ?v29z51 hHeld ?y29z51 ?r29z51
    case y29z51 => (intro w hSw; (try dsimp only at hSw); go_simp) <;> with_reducible rfl
    try simp only [Act.put, List.setIfInBounds_toArray, List.set_cons_zero, List.set_cons_succ]
    refine tkY 30 ⟨some 3, .assign (.tmp 33), 4, "ref.go:57", #[⟨29, .data⟩, ⟨23, .chain⟩, ⟨0, .phase⟩, ⟨1, .phase⟩, ⟨2, .phase⟩, ⟨3, .phase⟩, ⟨4, .phase⟩, ⟨5, .phase⟩, ⟨6, .phase⟩, ⟨7, .phase⟩, ⟨8, .phase⟩, ⟨9, .phase⟩, ⟨10, .phase⟩, ⟨11, .phase⟩, ⟨12, .phase⟩, ⟨13, .phase⟩, ⟨14, .phase⟩, ⟨15, .phase⟩, ⟨16, .phase⟩, ⟨17, .phase⟩, ⟨18, .phase⟩, ⟨19, .phase⟩, ⟨20, .phase⟩, ⟨21, .phase⟩, ⟨22, .phase⟩, ⟨23, .phase⟩, ⟨24, .phase⟩, ⟨25, .phase⟩, ⟨26, .phase⟩, ⟨27, .phase⟩, ⟨28, .phase⟩, ⟨29, .phase⟩], none⟩ ?v30z52 hHeld ?y30z52 ?r30z52
    case y30z52 => (intro w hSw; (try dsimp only at hSw); go_simp) <;> with_reducible rfl
    try simp only [Act.put, List.setIfInBounds_toArray, List.set_cons_zero, List.set_cons_succ]
    refine wpAnyH_done (by kernel_rfl) ?_ _
    have HR : Hid (rforkE a b si d nw pre = false) := by
      show rforkE _ _ _ _ _ _ = _
      unfold rforkE
      simp [HFC.out, f0.out]
    have HW : Hid (Below w.heap.size w V.drew) := bA.trans (bD.mono bA.size)
    clear hHeld bD bA kp hcells hblk
    go_wp2
    go_ret
    rw [HR.out]
    exact ⟨rfl, HW.out⟩

end Go.Proofs.YtahfjemllkbpgaaGreatDoor

namespace Go.Proofs.YtahfjemllkbpgaaGreatDoor
open Go.RowKit

set_option maxRecDepth 100000 in
set_option maxHeartbeats 2000000 in
theorem rbits_leaf (id : List UInt8) (si d nw : Int) (pi pk pp pl pr pq : Option Addr) (b g e f n ci ck cp cl cr cq : Nat) (w : World) (hi : HB w (.slice pi id.length ci) id) :
    Calls Tryz.prog 50 #[.agg #[.int .i64 1, .slice pi id.length ci, .slice pk b ck, .int .i64 si, .int .i64 d, .slice pp g cp, .int .i64 nw, .slice pl e cl, .slice pr f cr, .slice pq n cq]] w fun x w' => ∃ p c, x = .returned (.slice p (keyF id).length c) ∧ HB w' (.slice p (keyF id).length c) (keyF id) ∧ Below w.heap.size w w' := by
  have bA := (Below.refl w.heap.size w).alloc (Nat.le_refl _) (.cells #[.int .i64 1, .slice pi id.length ci, .slice pk b ck, .int .i64 si, .int .i64 d, .slice pp g cp, .int .i64 nw, .slice pl e cl, .slice pr f cr, .slice pq n cq] 26)
  have hK := rkey_any (.slice pi id.length ci) id _ (hi.later bA)
  generalize keyF id = K at *
  go_enter Tryz.func50, Tryz.ntmps50
  go_wp2_with fail
  refine hK.mono ?_
  rintro x w1 ⟨p, c, rfl, k1, hb1⟩
  have HW := bA.trans (hb1.mono bA.size)
  clear hK bA hb1 hi
  go_wp2
  go_ret
  exact ⟨p, c, rfl, k1, HW⟩

theorem rnothing_eq (x : Pt) (size : Int) (hk : x.k = 0) : (decide (x.k = 0) && (decide (x.id.length = 0) && (decide (x.key.length = 0) && (decide (x.si = 0) && (decide (x.d = 0) && (decide (x.pre.length = 0) && (decide (x.nw = 0) && (decide (x.l.length = 0) && (decide (x.r.length = 0) && decide (x.kids = 0)))))))))) = shapedB size x := by
  rw [Bool.eq_iff_iff]
  unfold shapedB noLeafB noForkB
  rw [if_pos hk]
  simp only [Bool.and_eq_true, decide_eq_true_eq]
  constructor
  · rintro ⟨_, a, b, c, d, e, f, g, h, i⟩
    exact ⟨⟨a, b, c⟩, ⟨d, e, f⟩, by omega, i⟩
  · rintro ⟨⟨a, b, c⟩, ⟨d, e, f⟩, g, i⟩
    exact ⟨hk, a, b, c, d, e, f, by omega, by omega, i⟩

theorem rleaf_eq (x : Pt) (size : Int) (hk : x.k = 1) : (decide (x.id.length ≤ 255) && (decide (x.key.length ≤ 48) && (epB x.si && (decide (x.d = 0) && (decide (x.pre.length = 0) && (decide (x.nw = 0) && (decide (x.l.length = 0) && (decide (x.r.length = 0) && decide (x.kids = 0))))))))) = shapedB size x := by
  rw [Bool.eq_iff_iff]
  unfold shapedB isLeafB noForkB
  rw [if_neg (by rw [hk]; decide), if_pos hk]
  simp only [Bool.and_eq_true, decide_eq_true_eq]
  constructor
  · rintro ⟨a, b, c, d, e, f, g, h, i⟩
    exact ⟨⟨a, b, c⟩, ⟨d, e, f⟩, by omega, i⟩
  · rintro ⟨⟨a, b, c⟩, ⟨d, e, f⟩, g, i⟩
    exact ⟨a, b, c, d, e, f, by omega, by omega, i⟩

theorem rfork_eq (x : Pt) (size : Int) (hk : x.k = 2) : (rforkE x.id.length x.key.length x.si x.d x.nw x.pre && (decide ((x.l.length : Int) = size) && (decide ((x.r.length : Int) = size) && decide (x.kids = 0)))) = shapedB size x := by
  rw [Bool.eq_iff_iff]
  unfold shapedB isForkB noLeafB rforkE
  rw [if_neg (by rw [hk]; decide), if_neg (by rw [hk]; decide), if_pos hk]
  simp only [Bool.and_eq_true, decide_eq_true_eq]
  constructor
  · rintro ⟨⟨⟨a, b, c, d⟩, e, f, g, h⟩, i⟩
    exact ⟨⟨f, g, h⟩, ⟨a, b, e, c, d.symm⟩, i⟩
  · rintro ⟨⟨f, g, h⟩, ⟨a, b, e, c, d⟩, i⟩
    exact ⟨⟨⟨a, b, c, d.symm⟩, e, f, g, h⟩, i⟩

set_option maxRecDepth 100000 in
set_option maxHeartbeats 4000000 in
theorem rend_K0 (size last : Int) (rv : Value) (row : List UInt8) (x : Pt) (pi pk pp pl pr pq : Option Addr) (ci ck cp cl cr cq : Nat) (w : World) (_hr : HB w rv row) (_hrow : row.length ≤ 256) (_h0 : -1 ≤ last) (_h1 : last ≤ 100000) (_hi : HB w (.slice pi x.id.length ci) x.id) (hk : x.k = 0) :
    Calls Tryz.prog 26 #[.int .i64 size, rv, .int .i64 last, .agg #[.int .i64 x.k, .slice pi x.id.length ci, .slice pk x.key.length ck, .int .i64 x.si, .int .i64 x.d, .slice pp x.pre.length cp, .int .i64 x.nw, .slice pl x.l.length cl, .slice pr x.r.length cr, .slice pq x.kids cq]] w fun e w' => e = .returned (.bool (endsB size row (last + 1) x)) ∧ Below w.heap.size w w' := by
  obtain ⟨k, id, key, si, d, pre, nw, l, r, n⟩ := x
  dsimp only at *
  subst hk
  obtain ⟨pv, cv, rfl⟩ := _hr.shape
  have hNo := fun W => nothing_any 0 si d nw pi pk pp pl pr pq id.length key.length pre.length l.length r.length n ci ck cp cl cr cq W
  have hq := rnothing_eq ⟨0, id, key, si, d, pre, nw, l, r, n⟩ size rfl
  dsimp only at hq
  rw [hq] at hNo
  clear hq
  have HS : Hid (endsB size row (last + 1) ⟨0, id, key, si, d, pre, nw, l, r, n⟩ = (shapedB size ⟨0, id, key, si, d, pre, nw, l, r, n⟩ && decide (last + 1 = 0))) := by
    show _ = _
    unfold endsB
    dsimp only
    rw [if_pos rfl]
  generalize endsB size row (last + 1) ⟨0, id, key, si, d, pre, nw, l, r, n⟩ = R at *
  generalize shapedB size ⟨0, id, key, si, d, pre, nw, l, r, n⟩ = B at *
  have bA := (Below.refl w.heap.size w).alloc (Nat.le_refl _) (.cells #[.int .i64 0, .slice pi id.length ci, .slice pk key.length ck, .int .i64 si, .int .i64 d, .slice pp pre.length cp, .int .i64 nw, .slice pl l.length cl, .slice pr r.length cr, .slice pq n cq] 26)
  have gA := heap_alloc_new w (.cells #[.int .i64 0, .slice pi id.length ci, .slice pk key.length ck, .int .i64 si, .int .i64 d, .slice pp pre.length cp, .int .i64 nw, .slice pl l.length cl, .slice pr r.length cr, .slice pq n cq] 26)
  obtain ⟨V, hV⟩ : ∃ V, w.alloc (.cells #[.int .i64 0, .slice pi id.length ci, .slice pk key.length ck, .int .i64 si, .int .i64 d, .slice pp pre.length cp, .int .i64 nw, .slice pl l.length cl, .slice pr r.length cr, .slice pq n cq] 26) = V := ⟨_, rfl⟩
  rw [hV] at bA gA
  have ki := _hi.later bA
  have kr := _hr.later bA
  have ew : wrap64 (last + 1) = last + 1 := by unfold wrap64; omega
  have hcells : ∀ W, Below V.heap.size V W → W.heap[w.heap.size]? = some (.cells #[.int .i64 0, .slice pi id.length ci, .slice pk key.length ck, .int .i64 si, .int .i64 d, .slice pp pre.length cp, .int .i64 nw, .slice pl l.length cl, .slice pr r.length cr, .slice pq n cq] 26 (0, 0)) := fun W hb => (hb.block _ (Array.getElem?_eq_some_iff.1 gA).1).trans gA
  have hbV : Below V.heap.size V V := Below.refl _ V
  obtain ⟨q0, q1, q2, q3, q4, q5, q6, q7, q8, q9⟩ := cells10 (hcells _ hbV)
  clear gA
  go_enter Tryz.func26, Tryz.ntmps26
  by_cases h1 : last < 0
  · have t1 : decide (last < 0) = true := by simpa using h1
    have hz : decide (last + 1 = 0) = true := by simp; omega
    go_wp2_with fail
    refine (hNo _).mono ?_
    rintro e w1 ⟨rfl, hx1⟩
    have hb1 := hbV.trans (hx1.mono hbV.size)
    have HW := bA.trans (hb1.mono bA.size)
    clear bA hcells
    clear hNo q0 q1 q2 q3 q4 q5 q6 q7 q8 q9 hx1
    go_wp2
    go_ret
    rw [HS.out]
    exact ⟨by simp [*], HW⟩
  · have t1 : decide (last < 0) = false := by simpa using h1
    have hz : decide (last + 1 = 0) = false := by simp; omega
    have HW := bA
    clear bA hcells hNo
    go_wp2
    go_ret
    rw [HS.out]
    exact ⟨by simp [*], HW⟩

set_option maxRecDepth 100000 in
set_option maxHeartbeats 4000000 in
theorem rend_K1 (size last : Int) (rv : Value) (row : List UInt8) (x : Pt) (pi pk pp pl pr pq : Option Addr) (ci ck cp cl cr cq : Nat) (w : World) (_hr : HB w rv row) (_hrow : row.length ≤ 256) (_h0 : -1 ≤ last) (_h1 : last ≤ 100000) (_hi : HB w (.slice pi x.id.length ci) x.id) (hk : x.k = 1) :
    Calls Tryz.prog 26 #[.int .i64 size, rv, .int .i64 last, .agg #[.int .i64 x.k, .slice pi x.id.length ci, .slice pk x.key.length ck, .int .i64 x.si, .int .i64 x.d, .slice pp x.pre.length cp, .int .i64 x.nw, .slice pl x.l.length cl, .slice pr x.r.length cr, .slice pq x.kids cq]] w fun e w' => e = .returned (.bool (endsB size row (last + 1) x)) ∧ Below w.heap.size w w' := by
  obtain ⟨k, id, key, si, d, pre, nw, l, r, n⟩ := x
  dsimp only at *
  subst hk
  obtain ⟨pv, cv, rfl⟩ := _hr.shape
  have hLf := fun W => rleaf_any 1 si d nw pi pk pp pl pr pq id.length key.length pre.length l.length r.length n ci ck cp cl cr cq W
  have hq := rleaf_eq ⟨1, id, key, si, d, pre, nw, l, r, n⟩ size rfl
  dsimp only at hq
  rw [hq] at hLf
  clear hq
  have HS : Hid (endsB size row (last + 1) ⟨1, id, key, si, d, pre, nw, l, r, n⟩ = (shapedB size ⟨1, id, key, si, d, pre, nw, l, r, n⟩ && decide (last + 1 ≤ (com (keyF id) row : Int)))) := by
    show _ = _
    unfold endsB
    dsimp only
    rw [if_neg (show ¬ (1 : Int) = 0 by decide), if_pos rfl]
  generalize endsB size row (last + 1) ⟨1, id, key, si, d, pre, nw, l, r, n⟩ = R at *
  generalize shapedB size ⟨1, id, key, si, d, pre, nw, l, r, n⟩ = B at *
  have bA := (Below.refl w.heap.size w).alloc (Nat.le_refl _) (.cells #[.int .i64 1, .slice pi id.length ci, .slice pk key.length ck, .int .i64 si, .int .i64 d, .slice pp pre.length cp, .int .i64 nw, .slice pl l.length cl, .slice pr r.length cr, .slice pq n cq] 26)
  have gA := heap_alloc_new w (.cells #[.int .i64 1, .slice pi id.length ci, .slice pk key.length ck, .int .i64 si, .int .i64 d, .slice pp pre.length cp, .int .i64 nw, .slice pl l.length cl, .slice pr r.length cr, .slice pq n cq] 26)
  obtain ⟨V, hV⟩ : ∃ V, w.alloc (.cells #[.int .i64 1, .slice pi id.length ci, .slice pk key.length ck, .int .i64 si, .int .i64 d, .slice pp pre.length cp, .int .i64 nw, .slice pl l.length cl, .slice pr r.length cr, .slice pq n cq] 26) = V := ⟨_, rfl⟩
  rw [hV] at bA gA
  have ki := _hi.later bA
  have kr := _hr.later bA
  have ew : wrap64 (last + 1) = last + 1 := by unfold wrap64; omega
  have hcells : ∀ W, Below V.heap.size V W → W.heap[w.heap.size]? = some (.cells #[.int .i64 1, .slice pi id.length ci, .slice pk key.length ck, .int .i64 si, .int .i64 d, .slice pp pre.length cp, .int .i64 nw, .slice pl l.length cl, .slice pr r.length cr, .slice pq n cq] 26 (0, 0)) := fun W hb => (hb.block _ (Array.getElem?_eq_some_iff.1 gA).1).trans gA
  have hbV : Below V.heap.size V V := Below.refl _ V
  obtain ⟨q0, q1, q2, q3, q4, q5, q6, q7, q8, q9⟩ := cells10 (hcells _ hbV)
  clear gA
  go_enter Tryz.func26, Tryz.ntmps26
  go_wp2_with fail
  refine (hLf _).mono ?_
  rintro e w1 ⟨rfl, hx1⟩
  have hb1 := hbV.trans (hx1.mono hbV.size)
  clear hLf hx1 q0 q1 q2 q3 q4 q5 q6 q7 q8 q9
  obtain ⟨q0, q1, q2, q3, q4, q5, q6, q7, q8, q9⟩ := cells10 (hcells w1 hb1)
  cases B with
  | false =>
    have HW := bA.trans (hb1.mono bA.size)
    clear bA hcells
    go_wp2
    go_ret
    rw [HS.out]
    exact ⟨by simp [*], HW⟩
  | true =>
    go_wp2_with fail
    refine (rbits_leaf id si d nw pi pk pp pl pr pq _ _ _ _ _ ci ck cp cl cr cq _ (ki.later hb1)).mono ?_
    rintro e w2 ⟨p2, c2, rfl, kk, hx2⟩
    have hb2 := hb1.trans (hx2.mono hb1.size)
    clear q0 q1 q2 q3 q4 q5 q6 q7 q8 q9
    have hl := keyF_le id
    generalize keyF id = K at *
    go_wp2_with fail
    refine (rbegins_any _ _ K row (last + 1) _ kk (kr.later hb2) (by omega) (by omega) (by omega) (by omega)).mono ?_
    rintro e w3 ⟨rfl, hx3⟩
    have hb3 := hb2.trans (hx3.mono hb2.size)
    have HW := bA.trans (hb3.mono bA.size)
    clear bA hcells
    generalize decide (last + 1 ≤ (com K row : Int)) = C at *
    go_wp2
    go_ret
    rw [HS.out]
    exact ⟨by simp [*], HW⟩

theorem rfork_pre {a b : Nat} {si d nw : Int} {pre : List UInt8} (h : rforkE a b si d nw pre = true) : 0 ≤ d ∧ d ≤ 2048 ∧ pre.length ≤ 257 := by
  unfold rforkE at h
  simp only [Bool.and_eq_true, decide_eq_true_eq] at h
  omega

set_option maxRecDepth 100000 in
set_option maxHeartbeats 8000000 in
theorem rend_K2 (size last : Int) (rv : Value) (row : List UInt8) (x : Pt) (pi pk pp pl pr pq : Option Addr) (ci ck cp cl cr cq : Nat) (w : World) (_hr : HB w rv row) (_hrow : row.length ≤ 256) (_h0 : -1 ≤ last) (_h1 : last ≤ 100000) (_hp : HB w (.slice pp x.pre.length cp) x.pre) (hk : x.k = 2) :
    Calls Tryz.prog 26 #[.int .i64 size, rv, .int .i64 last, .agg #[.int .i64 x.k, .slice pi x.id.length ci, .slice pk x.key.length ck, .int .i64 x.si, .int .i64 x.d, .slice pp x.pre.length cp, .int .i64 x.nw, .slice pl x.l.length cl, .slice pr x.r.length cr, .slice pq x.kids cq]] w fun e w' => e = .returned (.bool (endsB size row (last + 1) x)) ∧ Below w.heap.size w w' := by
  obtain ⟨k, id, key, si, d, pre, nw, l, r, n⟩ := x
  dsimp only at *
  subst hk
  obtain ⟨pv, cv, rfl⟩ := _hr.shape
  have hRF := fun W h => rfork_any17 2 si d nw pi pk pp pl pr pq id.length key.length l.length r.length n ci ck cp cl cr cq pre W h
  have hRP : rforkE id.length key.length si d nw pre = true → 0 ≤ d ∧ d ≤ 2048 ∧ pre.length ≤ 257 := fun h => rfork_pre h
  have HS : Hid (endsB size row (last + 1) ⟨2, id, key, si, d, pre, nw, l, r, n⟩ = ((rforkE id.length key.length si d nw pre && (decide ((l.length : Int) = size) && (decide ((r.length : Int) = size) && decide (n = 0)))) && (decide (last + 1 ≤ d) && (decide (last + 1 ≤ (com pre row : Int)) && !decide (d ≤ (com row pre : Int)))))) := by
    show _ = _
    have hq := rfork_eq ⟨2, id, key, si, d, pre, nw, l, r, n⟩ size rfl
    dsimp only at hq
    rw [hq]
    unfold endsB
    dsimp only
    rw [if_neg (show ¬ (2 : Int) = 0 by decide), if_neg (show ¬ (2 : Int) = 1 by decide), if_pos rfl]
  generalize endsB size row (last + 1) ⟨2, id, key, si, d, pre, nw, l, r, n⟩ = R at *
  generalize rforkE id.length key.length si d nw pre = RF at *
  have u0 : ((l.length : Int) == size) = decide ((l.length : Int) = size) := rfl
  have u1 : ((r.length : Int) == size) = decide ((r.length : Int) = size) := rfl
  have u2 : ((n : Int) == 0) = decide (n = 0) := by rw [Bool.eq_iff_iff]; simp
  generalize decide ((l.length : Int) = size) = L0 at *
  generalize decide ((r.length : Int) = size) = L1 at *
  generalize decide (n = 0) = L2 at *
  have bA := (Below.refl w.heap.size w).alloc (Nat.le_refl _) (.cells #[.int .i64 2, .slice pi id.length ci, .slice pk key.length ck, .int .i64 si, .int .i64 d, .slice pp pre.length cp, .int .i64 nw, .slice pl l.length cl, .slice pr r.length cr, .slice pq n cq] 26)
  have gA := heap_alloc_new w (.cells #[.int .i64 2, .slice pi id.length ci, .slice pk key.length ck, .int .i64 si, .int .i64 d, .slice pp pre.length cp, .int .i64 nw, .slice pl l.length cl, .slice pr r.length cr, .slice pq n cq] 26)
  obtain ⟨V, hV⟩ : ∃ V, w.alloc (.cells #[.int .i64 2, .slice pi id.length ci, .slice pk key.length ck, .int .i64 si, .int .i64 d, .slice pp pre.length cp, .int .i64 nw, .slice pl l.length cl, .slice pr r.length cr, .slice pq n cq] 26) = V := ⟨_, rfl⟩
  rw [hV] at bA gA
  have kp := _hp.later bA
  have kr := _hr.later bA
  have ew : wrap64 (last + 1) = last + 1 := by unfold wrap64; omega
  have hcells : ∀ W, Below V.heap.size V W → W.heap[w.heap.size]? = some (.cells #[.int .i64 2, .slice pi id.length ci, .slice pk key.length ck, .int .i64 si, .int .i64 d, .slice pp pre.length cp, .int .i64 nw, .slice pl l.length cl, .slice pr r.length cr, .slice pq n cq] 26 (0, 0)) := fun W hb => (hb.block _ (Array.getElem?_eq_some_iff.1 gA).1).trans gA
  have hbV : Below V.heap.size V V := Below.refl _ V
  obtain ⟨q0, q1, q2, q3, q4, q5, q6, q7, q8, q9⟩ := cells10 (hcells _ hbV)
  clear gA
  go_enter Tryz.func26, Tryz.ntmps26
  cases L0 with
  | true =>
    cases L1 with
    | true =>
      cases L2 with
      | true =>
        go_wp2_with fail
        refine (hRF _ (kp.later hbV)).mono ?_
        rintro e w1 ⟨rfl, hx1⟩
        have hb1 := hbV.trans (hx1.mono hbV.size)
        clear hRF hx1 q0 q1 q2 q3 q4 q5 q6 q7 q8 q9
        obtain ⟨q0, q1, q2, q3, q4, q5, q6, q7, q8, q9⟩ := cells10 (hcells w1 hb1)
        cases RF with
        | false =>
          have HW := bA.trans (hb1.mono bA.size)
          clear bA hcells
          clear hRP
          go_wp2
          go_ret
          rw [HS.out]
          exact ⟨by simp [*], HW⟩
        | true =>
          have hpl := hRP rfl
          clear hRP
          by_cases h1 : last < d
          · have t1 : decide (last < d) = true := by simpa using h1
            have t2 : decide (last + 1 ≤ d) = true := by simp; omega
            have FB := rbegins_any _ _ pre row (last + 1) _ (kp.later hb1) (kr.later hb1) (by omega) (by omega) (by omega) (by omega)
            have FC := fun W h1 h2 => rbegins_any _ _ row pre d W (kr.later h1) (kp.later h2) (by omega) (by omega) (by omega) (by omega)
            generalize decide (last + 1 ≤ (com pre row : Int)) = B2 at *
            generalize decide (d ≤ (com row pre : Int)) = B3 at *
            go_wp2_with fail
            refine FB.mono ?_
            rintro e w2 ⟨rfl, hx2⟩
            have hb2 := hb1.trans (hx2.mono hb1.size)
            clear q0 q1 q2 q3 q4 q5 q6 q7 q8 q9 FB
            obtain ⟨q0, q1, q2, q3, q4, q5, q6, q7, q8, q9⟩ := cells10 (hcells w2 hb2)
            cases B2 with
            | false =>
              have HW := bA.trans (hb2.mono bA.size)
              clear bA hcells FC
              go_wp2
              go_ret
              rw [HS.out]
              exact ⟨by simp [*], HW⟩
            | true =>
              go_wp2_with fail
              refine (FC _ hb2 hb2).mono ?_
              rintro e w3 ⟨rfl, hx3⟩
              have hb3 := hb2.trans (hx3.mono hb2.size)
              have HW := bA.trans (hb3.mono bA.size)
              clear bA hcells FC
              go_wp2
              go_ret
              rw [HS.out]
              exact ⟨by simp [*], HW⟩
          · have t1 : decide (last < d) = false := by simpa using h1
            have t2 : decide (last + 1 ≤ d) = false := by simp; omega
            have HW := bA.trans (hb1.mono bA.size)
            clear bA hcells
            go_wp2
            go_ret
            rw [HS.out]
            exact ⟨by simp [*], HW⟩
      | false =>
        go_wp2_with fail
        refine (hRF _ (kp.later hbV)).mono ?_
        rintro e w1 ⟨rfl, hx1⟩
        have hb1 := hbV.trans (hx1.mono hbV.size)
        clear hRF hx1 q0 q1 q2 q3 q4 q5 q6 q7 q8 q9
        obtain ⟨q0, q1, q2, q3, q4, q5, q6, q7, q8, q9⟩ := cells10 (hcells w1 hb1)
        cases RF with
        | false =>
          have HW := bA.trans (hb1.mono bA.size)
          clear bA hcells
          clear hRP
          go_wp2
          go_ret
          rw [HS.out]
          exact ⟨by simp [*], HW⟩
        | true =>
          have HW := bA.trans (hb1.mono bA.size)
          clear bA hcells
          clear hRP
          go_wp2
          go_ret
          rw [HS.out]
          exact ⟨by simp [*], HW⟩
    | false =>
      go_wp2_with fail
      refine (hRF _ (kp.later hbV)).mono ?_
      rintro e w1 ⟨rfl, hx1⟩
      have hb1 := hbV.trans (hx1.mono hbV.size)
      clear hRF hx1 q0 q1 q2 q3 q4 q5 q6 q7 q8 q9
      obtain ⟨q0, q1, q2, q3, q4, q5, q6, q7, q8, q9⟩ := cells10 (hcells w1 hb1)
      cases RF with
      | false =>
        have HW := bA.trans (hb1.mono bA.size)
        clear bA hcells
        clear hRP
        go_wp2
        go_ret
        rw [HS.out]
        exact ⟨by simp [*], HW⟩
      | true =>
        have HW := bA.trans (hb1.mono bA.size)
        clear bA hcells
        clear hRP
        go_wp2
        go_ret
        rw [HS.out]
        exact ⟨by simp [*], HW⟩
  | false =>
    go_wp2_with fail
    refine (hRF _ (kp.later hbV)).mono ?_
    rintro e w1 ⟨rfl, hx1⟩
    have hb1 := hbV.trans (hx1.mono hbV.size)
    clear hRF hx1 q0 q1 q2 q3 q4 q5 q6 q7 q8 q9
    obtain ⟨q0, q1, q2, q3, q4, q5, q6, q7, q8, q9⟩ := cells10 (hcells w1 hb1)
    cases RF with
    | false =>
      have HW := bA.trans (hb1.mono bA.size)
      clear bA hcells
      clear hRP
      go_wp2
      go_ret
      rw [HS.out]
      exact ⟨by simp [*], HW⟩
    | true =>
      have HW := bA.trans (hb1.mono bA.size)
      clear bA hcells
      clear hRP
      go_wp2
      go_ret
      rw [HS.out]
      exact ⟨by simp [*], HW⟩

set_option maxRecDepth 100000 in
set_option maxHeartbeats 2000000 in
theorem rend_KE (size last : Int) (rv : Value) (row : List UInt8) (x : Pt) (pi pk pp pl pr pq : Option Addr) (ci ck cp cl cr cq : Nat) (w : World) (_hr : HB w rv row) (k0 : x.k ≠ 0) (k1 : x.k ≠ 1) (k2 : x.k ≠ 2) :
    Calls Tryz.prog 26 #[.int .i64 size, rv, .int .i64 last, .agg #[.int .i64 x.k, .slice pi x.id.length ci, .slice pk x.key.length ck, .int .i64 x.si, .int .i64 x.d, .slice pp x.pre.length cp, .int .i64 x.nw, .slice pl x.l.length cl, .slice pr x.r.length cr, .slice pq x.kids cq]] w fun e w' => e = .returned (.bool (endsB size row (last + 1) x)) ∧ Below w.heap.size w w' := by
  have e : endsB size row (last + 1) x = false := by unfold endsB; rw [if_neg k0, if_neg k1, if_neg k2]; simp
  rw [e]
  obtain ⟨pv, cv, rfl⟩ := _hr.shape
  have n0 : (x.k == 0) = false := by simpa using k0
  have n1 : (x.k == 1) = false := by simpa using k1
  have n2 : (x.k == 2) = false := by simpa using k2
  clear e
  go_enter Tryz.func26, Tryz.ntmps26
  go_wp2
  go_ret
  exact ⟨rfl, (Below.refl _ _).alloc (Nat.le_refl _) _⟩

theorem rend_any (size last : Int) (rv : Value) (row : List UInt8) (x : Pt) (pi pk pp pl pr pq : Option Addr) (ci ck cp cl cr cq : Nat) (w : World) (hr : HB w rv row) (hrow : row.length ≤ 256) (h0 : -1 ≤ last) (h1 : last ≤ 100000) (hi : HB w (.slice pi x.id.length ci) x.id) (hp : HB w (.slice pp x.pre.length cp) x.pre) :
    Calls Tryz.prog 26 #[.int .i64 size, rv, .int .i64 last, .agg #[.int .i64 x.k, .slice pi x.id.length ci, .slice pk x.key.length ck, .int .i64 x.si, .int .i64 x.d, .slice pp x.pre.length cp, .int .i64 x.nw, .slice pl x.l.length cl, .slice pr x.r.length cr, .slice pq x.kids cq]] w fun e w' => e = .returned (.bool (endsB size row (last + 1) x)) ∧ Below w.heap.size w w' := by
  by_cases k0 : x.k = 0
  · exact rend_K0 size last rv row x pi pk pp pl pr pq ci ck cp cl cr cq w hr hrow h0 h1 hi k0
  by_cases k1 : x.k = 1
  · exact rend_K1 size last rv row x pi pk pp pl pr pq ci ck cp cl cr cq w hr hrow h0 h1 hi k1
  by_cases k2 : x.k = 2
  · exact rend_K2 size last rv row x pi pk pp pl pr pq ci ck cp cl cr cq w hr hrow h0 h1 hp k2
  exact rend_KE size last rv row x pi pk pp pl pr pq ci ck cp cl cr cq w hr k0 k1 k2

end Go.Proofs.YtahfjemllkbpgaaGreatDoor

namespace Go.Proofs.YtahfjemllkbpgaaGreatDoor
open Go.RowKit

set_option maxRecDepth 100000 in
set_option maxHeartbeats 8000000 in
theorem rcheck_any17 (size : Int) (iv hv : Value) (id : List UInt8) (hs : List Hp) (x : Pt) (pi pk pp pl pr pq : Option Addr) (ci ck cp cl cr cq : Nat) (w : World) (hid : HB w iv id) (hh : HA w hv hs) (hi : HB w (.slice pi x.id.length ci) x.id) (hp : HB w (.slice pp x.pre.length cp) x.pre) :
    Calls Tryz.prog 10 #[.int .i64 size, iv, .agg #[hv, .int .i64 x.k, .slice pi x.id.length ci, .slice pk x.key.length ck, .int .i64 x.si, .int .i64 x.d, .slice pp x.pre.length cp, .int .i64 x.nw, .slice pl x.l.length cl, .slice pr x.r.length cr, .slice pq x.kids cq]] w fun e w' => e = .returned (.int .i64 (errW (chkW size id hs x))) ∧ Below w.heap.size w w' := by
  obtain ⟨pv, cv, rfl⟩ := hid.shape
  obtain ⟨ph, ch, rfl⟩ := hh.shape
  have hlen := hid.len.2
  have hm := hh.len
  unfold maxLen at hlen hm
  have HC : Hid (chkW size id hs x = ((decide (1 ≤ size) && decide (size ≤ 32)) && (decide (id.length ≤ 24) && wayB size (keyF id) 0 hs x))) := by
    show _ = _
    unfold chkW
    rw [Bool.and_assoc]
  have HWB : Hid (wayB size (keyF id) 0 hs x = match downF size (keyF id) hs 0 with | none => false | some s' => endsB size (keyF id) s' x) := rfl
  have hK := fun W h => rkey_any (.slice pv id.length cv) id W h
  have hkl := keyF_le id
  have hE := fun last rv W h1 h2 h3 h4 h5 => rend_any size last rv (keyF id) x pi pk pp pl pr pq ci ck cp cl cr cq W h1 hkl h2 h3 h4 h5
  obtain ⟨kd, xid, key, si, d, pre, nw, l, r, n⟩ := x
  dsimp only at *
  generalize chkW size id hs ⟨kd, xid, key, si, d, pre, nw, l, r, n⟩ = R at *
  generalize wayB size (keyF id) 0 hs ⟨kd, xid, key, si, d, pre, nw, l, r, n⟩ = B at *
  generalize keyF id = K at *
  generalize hdn : downF size K hs 0 = D at *
  have HD : Hid (downF size K (hs.drop 0) (-1 + 1) = D) := by simpa [Hid] using hdn
  clear hdn
  have bA := (Below.refl w.heap.size w).alloc (Nat.le_refl _) (.cells #[.slice ph hs.length ch, .int .i64 kd, .slice pi xid.length ci, .slice pk key.length ck, .int .i64 si, .int .i64 d, .slice pp pre.length cp, .int .i64 nw, .slice pl l.length cl, .slice pr r.length cr, .slice pq n cq] 28)
  have gA := heap_alloc_new w (.cells #[.slice ph hs.length ch, .int .i64 kd, .slice pi xid.length ci, .slice pk key.length ck, .int .i64 si, .int .i64 d, .slice pp pre.length cp, .int .i64 nw, .slice pl l.length cl, .slice pr r.length cr, .slice pq n cq] 28)
  obtain ⟨V, hV⟩ : ∃ V, w.alloc (.cells #[.slice ph hs.length ch, .int .i64 kd, .slice pi xid.length ci, .slice pk key.length ck, .int .i64 si, .int .i64 d, .slice pp pre.length cp, .int .i64 nw, .slice pl l.length cl, .slice pr r.length cr, .slice pq n cq] 28) = V := ⟨_, rfl⟩
  rw [hV] at bA gA
  have kid := hid.later bA
  have kh := hh.later bA
  have kp := hp.later bA
  have ki := hi.later bA
  have hcells : ∀ W, Below V.heap.size V W → W.heap[w.heap.size]? = some (.cells #[.slice ph hs.length ch, .int .i64 kd, .slice pi xid.length ci, .slice pk key.length ck, .int .i64 si, .int .i64 d, .slice pp pre.length cp, .int .i64 nw, .slice pl l.length cl, .slice pr r.length cr, .slice pq n cq] 28 (0, 0)) := fun W hb => (hb.block _ (Array.getElem?_eq_some_iff.1 gA).1).trans gA
  have hbV : Below V.heap.size V V := Below.refl _ V
  clear hp gA hi hid hh
  go_enter Tryz.func10, Tryz.ntmps10
  by_cases g1 : size < 1
  · have n1 : decide (size < 1) = true := by simpa using g1
    have HF : Hid (R = false) := by
      show R = false
      rw [HC.out, decide_eq_false (show ¬ (1 ≤ size) by omega)]
      rfl
    clear HC HWB hK hE hcells HD
    go_wp2
    go_ret
    rw [HF.out]
    exact ⟨rfl, bA⟩
  have n1 : decide (size < 1) = false := by simpa using g1
  by_cases g2 : 32 < size
  · have n2 : decide (32 < size) = true := by simpa using g2
    have HF : Hid (R = false) := by
      show R = false
      rw [HC.out, decide_eq_false (show ¬ (size ≤ 32) by omega), Bool.and_false]
      rfl
    clear HC HWB hK hE hcells HD
    go_wp2
    go_ret
    rw [HF.out]
    exact ⟨rfl, bA⟩
  have n2 : decide (32 < size) = false := by simpa using g2
  by_cases g3 : 24 < id.length
  · have n3 : decide ((24 : Int) < (id.length : Int)) = true := by simp; omega
    have HF : Hid (R = false) := by
      show R = false
      rw [HC.out, decide_eq_false (show ¬ (id.length ≤ 24) by omega), Bool.false_and, Bool.and_false]
    clear HC HWB hK hE hcells HD g3
    go_wp2
    go_ret
    rw [HF.out]
    exact ⟨rfl, bA⟩
  have n3 : decide ((24 : Int) < (id.length : Int)) = false := by simp; omega
  have HRB : Hid (R = B) := by
    show R = B
    rw [HC.out, decide_eq_true (show (1 : Int) ≤ size by omega), decide_eq_true (show size ≤ 32 by omega), decide_eq_true (show id.length ≤ 24 by omega)]
    simp
  clear HC g1 g2 g3
  go_wp2_with fail
  refine (hK _ (kid.later hbV)).mono ?_
  rintro e w2 ⟨p2, c2, rfl, kk, hx2⟩
  have hb2 := hbV.trans (hx2.mono hbV.size)
  obtain ⟨q0, q1, q2, q3, q4, q5, q6, q7, q8, q9, q10⟩ := cells11 (hcells w2 hb2)
  have kh2 := kh.later hb2
  have e8 : wrap64 (8 * (K.length : Int)) = 8 * (K.length : Int) := by unfold wrap64; omega
  clear hK kid kh hx2
  go_wp2
  go_loopw [8, 27] (fun v i wr => ∃ (k : Nat) (a : Int), k ≤ hs.length ∧ i = .int .i64 k ∧ v = .int .i64 a ∧ -1 ≤ a ∧ a ≤ 2047 ∧ Hid (downF size K (hs.drop k) (a + 1) = D) ∧ Below w2.heap.size w2 wr) (fun _ i _ => hs.length - (intOf i).toNat)
  case atStart => exact ⟨0, -1, Nat.zero_le _, rfl, rfl, by omega, by omega, HD, Below.refl _ _⟩
  case round =>
    obtain ⟨k, a, hk, rfl, rfl, h0, h1, hS, hbe⟩ := hrel
    clear HD q0 q1 q2 q3 q4 q5 q6 q7 q8 q9 q10
    have hb3 := hb2.trans (hbe.mono hb2.size)
    by_cases hlt : k < hs.length
    · obtain ⟨b, o, rfl⟩ := kh2.addr (by omega)
      obtain ⟨h, qs, cs, hx, c0, c1, c2, h3⟩ := (kh2.later hbe).get k hlt
      have hlt2 : (k : Int) < (hs.length : Int) := by omega
      have HST : Hid ((if h.d < a + 1 ∨ 8 * (K.length : Int) ≤ h.d ∨ epB h.n = false ∨ (h.s.length : Int) ≠ size then none else downF size K (hs.drop (k + 1)) (h.d + 1)) = D) := by
        show _ = D
        rw [← downF_step hx.out]
        exact hS.out
      have hbA := hbe.alloc hbe.size (.cells #[.int .i64 h.d, .int .i64 h.n, .slice qs h.s.length cs] 57)
      have HW := bA.trans ((hb2.trans (hbA.mono hb2.size)).mono bA.size)
      have hZ := fun W => repoch_any h.n W
      clear hx h3 hS hE hcells kp ki hb3 hb2 kk bA hbV
      obtain ⟨hd, hn, sb⟩ := h
      dsimp only at *
      generalize sb.length = L at *
      by_cases f1 : hd ≤ a
      · have HF : Hid (R = false) := by
          have hDn : D = none := by rw [← HST.out, if_pos (Or.inl (by omega))]
          show R = false
          rw [HRB.out, HWB.out, hDn]
        have m1 : decide (hd ≤ a) = true := by simpa using f1
        clear HST HRB HWB
        go_wp2
        go_ret
        rw [HF.out]
        exact ⟨rfl, HW⟩
      have m1 : decide (hd ≤ a) = false := by simpa using f1
      by_cases f2 : 8 * (K.length : Int) ≤ hd
      · have HF : Hid (R = false) := by
          have hDn : D = none := by rw [← HST.out, if_pos (Or.inr (Or.inl f2))]
          show R = false
          rw [HRB.out, HWB.out, hDn]
        have m2 : decide (8 * (K.length : Int) ≤ hd) = true := by simpa using f2
        clear HST HRB HWB
        go_wp2
        go_ret
        rw [HF.out]
        exact ⟨rfl, HW⟩
      have m2 : decide (8 * (K.length : Int) ≤ hd) = false := by simpa using f2
      by_cases f3 : epB hn = false
      · have HF : Hid (R = false) := by
          have hDn : D = none := by rw [← HST.out, if_pos (Or.inr (Or.inr (Or.inl f3)))]
          show R = false
          rw [HRB.out, HWB.out, hDn]
        rw [f3] at hZ
        clear HST HRB HWB
        go_wp2_with fail
        refine (hZ _).mono ?_
        rintro x w1 ⟨rfl, hw⟩
        subst hw
        go_wp2
        go_ret
        rw [HF.out]
        exact ⟨rfl, HW⟩
      rw [Bool.not_eq_false] at f3
      rw [f3] at hZ
      by_cases f4 : (L : Int) = size
      · have HF : Hid (downF size K (hs.drop (k + 1)) (hd + 1) = D) := by
          show _ = D
          rw [← HST.out, if_neg]
          simp only [not_or, Decidable.not_not]
          exact ⟨by omega, f2, by simp [f3], f4⟩
        have m4 : ((L : Int) != size) = false := by simpa using f4
        clear HST f4 HW
        go_wp2_with fail
        refine (hZ _).mono ?_
        rintro x w1 ⟨rfl, hw⟩
        subst hw
        clear hZ
        go_wp2
        go_roundw
        case rel => first | exact ⟨k + 1, hd, by omega, by go_num, rfl, by omega, by omega, HF, hbA⟩ | ((repeat apply Exists.intro); exact ⟨⟨k + 1, hd, by omega, by go_num, rfl, by omega, by omega, HF, hbA⟩, rfl⟩)
        case measure => simp [intOf]; omega
      · have HF : Hid (R = false) := by
          have hDn : D = none := by rw [← HST.out, if_pos (Or.inr (Or.inr (Or.inr f4)))]
          show R = false
          rw [HRB.out, HWB.out, hDn]
        have m4 : ((L : Int) != size) = true := by simpa using f4
        clear HST HRB HWB
        go_wp2_with fail
        refine (hZ _).mono ?_
        rintro x w1 ⟨rfl, hw⟩
        subst hw
        clear hZ
        go_wp2
        go_ret
        rw [HF.out]
        exact ⟨rfl, HW⟩
    · have HG : Hid (R = endsB size K (a + 1) ⟨kd, xid, key, si, d, pre, nw, l, r, n⟩) := by
        have hDs : D = some (a + 1) := by
          rw [← hS.out, List.drop_of_length_le (by omega)]
          rfl
        show R = _
        rw [HRB.out, HWB.out, hDs]
      have hE' := hE a _ wr (kk.later hbe) h0 (by omega) (ki.later hb3) (kp.later hb3)
      obtain ⟨q0, q1, q2, q3, q4, q5, q6, q7, q8, q9, q10⟩ := cells11 (hcells wr hb3)
      generalize endsB size K (a + 1) ⟨kd, xid, key, si, d, pre, nw, l, r, n⟩ = E at *
      clear hS HRB HWB hE hcells kk ki kp
      go_wp2_with fail
      refine hE'.mono ?_
      rintro e w4 ⟨rfl, hx4⟩
      have HW := bA.trans ((hb3.trans (hx4.mono hb3.size)).mono bA.size)
      clear hE' q0 q1 q2 q3 q4 q5 q6 q7 q8 q9 q10 bA hb2 hb3 hbe hx4
      cases E with
      | false =>
        go_wp2
        go_ret
        rw [HG.out]
        exact ⟨rfl, HW⟩
      | true =>
        go_wp2
        go_ret
        rw [HG.out]
        exact ⟨rfl, HW⟩

end Go.Proofs.YtahfjemllkbpgaaGreatDoor
