/- What this text proves: the walks of annalsref25's Known and own over this program. -/
import Derived.Test.YthkgbgkijdeaoaaJA7
namespace Go.Proofs.Ythkgbgkijdeaoaa
open Go.RowKit

set_option maxRecDepth 100000 in
set_option maxHeartbeats 1000000 in
theorem known_any (k : Int) (w : World) : Calls Try.prog 21 #[.int .i64 k] w fun x w' => x = .returned (.bool (decide (k ≤ 10 ∧ 1 ≤ k))) ∧ w' = w := by
  by_cases h1 : 1 ≤ k
  · by_cases h2 : k ≤ 10
    · rw [show decide (k ≤ 10 ∧ 1 ≤ k) = true by simp [h1, h2]]
      go_enter Try.func21, Try.ntmps21
      go_wp2
      go_ret
      exact ⟨rfl, rfl⟩
    · rw [show decide (k ≤ 10 ∧ 1 ≤ k) = false by simp [h2]]
      have h3 : 10 < k := by omega
      have e : decide (k ≤ 10) = false := by simp; omega
      go_enter Try.func21, Try.ntmps21
      go_wp2
      go_ret
      exact ⟨by simp, rfl⟩
  · rw [show decide (k ≤ 10 ∧ 1 ≤ k) = false by simp [h1]]
    go_enter Try.func21, Try.ntmps21
    go_wp2
    go_ret
    exact ⟨rfl, rfl⟩

set_option maxRecDepth 100000 in
set_option maxHeartbeats 4000000 in
theorem own1 (fr to ti ep ix li : Int) (so : Bool) (p q : Option Addr) (n c m d : Nat) (w : World) :
    Calls Try.prog 22 #[.agg #[.int .i64 1, .slice p n c, .int .i64 fr, .int .i64 to, .int .i64 ti, .bool so, .int .i64 ep, .int .i64 ix, .int .i64 li, .slice q m d]] w fun x w' => x = .returned (.agg #[.int .i64 1, .slice none 0 0, .int .i64 0, .int .i64 0, .int .i64 0, .bool false, .int .i64 0, .int .i64 0, .int .i64 0, .slice q m d]) ∧ Below w.heap.size w w' := by
  go_enter Try.func22, Try.ntmps22
  go_wp2
  all_goals
    refine bodyPost_ret (v := .agg #[.int .i64 1, .slice none 0 0, .int .i64 0, .int .i64 0, .int .i64 0, .bool false, .int .i64 0, .int .i64 0, .int .i64 0, .slice q m d]) ?_ rfl ⟨rfl, (alloc3 w _ _ _).1⟩
    simp only [results, Try.results22]
    go_simp

set_option maxRecDepth 100000 in
set_option maxHeartbeats 4000000 in
theorem own2 (fr to ti ep ix li : Int) (so : Bool) (p q : Option Addr) (n c m d : Nat) (w : World) :
    Calls Try.prog 22 #[.agg #[.int .i64 2, .slice p n c, .int .i64 fr, .int .i64 to, .int .i64 ti, .bool so, .int .i64 ep, .int .i64 ix, .int .i64 li, .slice q m d]] w fun x w' => x = .returned (.agg #[.int .i64 2, .slice none 0 0, .int .i64 0, .int .i64 0, .int .i64 ti, .bool false, .int .i64 0, .int .i64 0, .int .i64 0, .slice none 0 0]) ∧ Below w.heap.size w w' := by
  go_enter Try.func22, Try.ntmps22
  go_wp2
  all_goals
    refine bodyPost_ret (v := .agg #[.int .i64 2, .slice none 0 0, .int .i64 0, .int .i64 0, .int .i64 ti, .bool false, .int .i64 0, .int .i64 0, .int .i64 0, .slice none 0 0]) ?_ rfl ⟨rfl, (alloc3 w _ _ _).1⟩
    simp only [results, Try.results22]
    go_simp

set_option maxRecDepth 100000 in
set_option maxHeartbeats 4000000 in
theorem own3 (fr to ti ep ix li : Int) (so : Bool) (p q : Option Addr) (n c m d : Nat) (w : World) :
    Calls Try.prog 22 #[.agg #[.int .i64 3, .slice p n c, .int .i64 fr, .int .i64 to, .int .i64 ti, .bool so, .int .i64 ep, .int .i64 ix, .int .i64 li, .slice q m d]] w fun x w' => x = .returned (.agg #[.int .i64 3, .slice p n c, .int .i64 0, .int .i64 to, .int .i64 0, .bool false, .int .i64 0, .int .i64 0, .int .i64 0, .slice none 0 0]) ∧ Below w.heap.size w w' := by
  go_enter Try.func22, Try.ntmps22
  go_wp2
  go_region
  all_goals go_wp2
  all_goals
    refine bodyPost_ret (v := .agg #[.int .i64 3, .slice p n c, .int .i64 0, .int .i64 to, .int .i64 0, .bool false, .int .i64 0, .int .i64 0, .int .i64 0, .slice none 0 0]) ?_ rfl ⟨rfl, Below.drew (alloc3 w _ _ _).1⟩
    simp only [results, Try.results22]
    go_simp

set_option maxRecDepth 100000 in
set_option maxHeartbeats 4000000 in
theorem own4 (fr to ti ep ix li : Int) (so : Bool) (p q : Option Addr) (n c m d : Nat) (w : World) :
    Calls Try.prog 22 #[.agg #[.int .i64 4, .slice p n c, .int .i64 fr, .int .i64 to, .int .i64 ti, .bool so, .int .i64 ep, .int .i64 ix, .int .i64 li, .slice q m d]] w fun x w' => x = .returned (.agg #[.int .i64 4, .slice p n c, .int .i64 0, .int .i64 to, .int .i64 ti, .bool false, .int .i64 0, .int .i64 0, .int .i64 0, .slice none 0 0]) ∧ Below w.heap.size w w' := by
  go_enter Try.func22, Try.ntmps22
  go_wp2
  go_region
  all_goals go_wp2
  all_goals
    refine bodyPost_ret (v := .agg #[.int .i64 4, .slice p n c, .int .i64 0, .int .i64 to, .int .i64 ti, .bool false, .int .i64 0, .int .i64 0, .int .i64 0, .slice none 0 0]) ?_ rfl ⟨rfl, Below.drew (alloc3 w _ _ _).1⟩
    simp only [results, Try.results22]
    go_simp

set_option maxRecDepth 100000 in
set_option maxHeartbeats 4000000 in
theorem own5 (fr to ti ep ix li : Int) (so : Bool) (p q : Option Addr) (n c m d : Nat) (w : World) :
    Calls Try.prog 22 #[.agg #[.int .i64 5, .slice p n c, .int .i64 fr, .int .i64 to, .int .i64 ti, .bool so, .int .i64 ep, .int .i64 ix, .int .i64 li, .slice q m d]] w fun x w' => x = .returned (.agg #[.int .i64 5, .slice p n c, .int .i64 fr, .int .i64 to, .int .i64 0, .bool false, .int .i64 0, .int .i64 0, .int .i64 0, .slice none 0 0]) ∧ Below w.heap.size w w' := by
  go_enter Try.func22, Try.ntmps22
  go_wp2
  go_region
  all_goals go_wp2
  all_goals
    refine bodyPost_ret (v := .agg #[.int .i64 5, .slice p n c, .int .i64 fr, .int .i64 to, .int .i64 0, .bool false, .int .i64 0, .int .i64 0, .int .i64 0, .slice none 0 0]) ?_ rfl ⟨rfl, Below.drew (alloc3 w _ _ _).1⟩
    simp only [results, Try.results22]
    go_simp

set_option maxRecDepth 100000 in
set_option maxHeartbeats 4000000 in
theorem own6a (fr to ti ep ix li : Int) (p q : Option Addr) (n c m d : Nat) (w : World) :
    Calls Try.prog 22 #[.agg #[.int .i64 6, .slice p n c, .int .i64 fr, .int .i64 to, .int .i64 ti, .bool true, .int .i64 ep, .int .i64 ix, .int .i64 li, .slice q m d]] w fun x w' => x = .returned (.agg #[.int .i64 6, .slice p n c, .int .i64 fr, .int .i64 to, .int .i64 0, .bool true, .int .i64 0, .int .i64 0, .int .i64 li, .slice none 0 0]) ∧ Below w.heap.size w w' := by
  go_enter Try.func22, Try.ntmps22
  go_wp2
  go_region
  all_goals go_wp2
  all_goals
    refine bodyPost_ret (v := .agg #[.int .i64 6, .slice p n c, .int .i64 fr, .int .i64 to, .int .i64 0, .bool true, .int .i64 0, .int .i64 0, .int .i64 li, .slice none 0 0]) ?_ rfl ⟨rfl, Below.drew (alloc3 w _ _ _).1⟩
    simp only [results, Try.results22]
    go_simp

set_option maxRecDepth 100000 in
set_option maxHeartbeats 4000000 in
theorem own6b (fr to ti ep ix li : Int) (p q : Option Addr) (n c m d : Nat) (w : World) :
    Calls Try.prog 22 #[.agg #[.int .i64 6, .slice p n c, .int .i64 fr, .int .i64 to, .int .i64 ti, .bool false, .int .i64 ep, .int .i64 ix, .int .i64 li, .slice q m d]] w fun x w' => x = .returned (.agg #[.int .i64 6, .slice none 0 0, .int .i64 fr, .int .i64 to, .int .i64 0, .bool false, .int .i64 0, .int .i64 0, .int .i64 li, .slice none 0 0]) ∧ Below w.heap.size w w' := by
  go_enter Try.func22, Try.ntmps22
  go_wp2
  go_region
  all_goals go_wp2
  all_goals
    refine bodyPost_ret (v := .agg #[.int .i64 6, .slice none 0 0, .int .i64 fr, .int .i64 to, .int .i64 0, .bool false, .int .i64 0, .int .i64 0, .int .i64 li, .slice none 0 0]) ?_ rfl ⟨rfl, Below.drew (alloc3 w _ _ _).1⟩
    simp only [results, Try.results22]
    go_simp

set_option maxRecDepth 100000 in
set_option maxHeartbeats 4000000 in
theorem own7 (fr to ti ep ix li : Int) (so : Bool) (p q : Option Addr) (n c m d : Nat) (w : World) :
    Calls Try.prog 22 #[.agg #[.int .i64 7, .slice p n c, .int .i64 fr, .int .i64 to, .int .i64 ti, .bool so, .int .i64 ep, .int .i64 ix, .int .i64 li, .slice q m d]] w fun x w' => x = .returned (.agg #[.int .i64 7, .slice none 0 0, .int .i64 fr, .int .i64 to, .int .i64 0, .bool false, .int .i64 ep, .int .i64 ix, .int .i64 li, .slice none 0 0]) ∧ Below w.heap.size w w' := by
  go_enter Try.func22, Try.ntmps22
  go_wp2
  go_region
  all_goals go_wp2
  all_goals
    refine bodyPost_ret (v := .agg #[.int .i64 7, .slice none 0 0, .int .i64 fr, .int .i64 to, .int .i64 0, .bool false, .int .i64 ep, .int .i64 ix, .int .i64 li, .slice none 0 0]) ?_ rfl ⟨rfl, Below.drew (alloc3 w _ _ _).1⟩
    simp only [results, Try.results22]
    go_simp

set_option maxRecDepth 100000 in
set_option maxHeartbeats 4000000 in
theorem own8 (fr to ti ep ix li : Int) (so : Bool) (p q : Option Addr) (n c m d : Nat) (w : World) :
    Calls Try.prog 22 #[.agg #[.int .i64 8, .slice p n c, .int .i64 fr, .int .i64 to, .int .i64 ti, .bool so, .int .i64 ep, .int .i64 ix, .int .i64 li, .slice q m d]] w fun x w' => x = .returned (.agg #[.int .i64 8, .slice none 0 0, .int .i64 0, .int .i64 0, .int .i64 0, .bool false, .int .i64 0, .int .i64 0, .int .i64 0, .slice none 0 0]) ∧ Below w.heap.size w w' := by
  go_enter Try.func22, Try.ntmps22
  go_wp2
  all_goals
    refine bodyPost_ret (v := .agg #[.int .i64 8, .slice none 0 0, .int .i64 0, .int .i64 0, .int .i64 0, .bool false, .int .i64 0, .int .i64 0, .int .i64 0, .slice none 0 0]) ?_ rfl ⟨rfl, (alloc3 w _ _ _).1⟩
    simp only [results, Try.results22]
    go_simp

set_option maxRecDepth 100000 in
set_option maxHeartbeats 4000000 in
theorem own9 (fr to ti ep ix li : Int) (so : Bool) (p q : Option Addr) (n c m d : Nat) (w : World) :
    Calls Try.prog 22 #[.agg #[.int .i64 9, .slice p n c, .int .i64 fr, .int .i64 to, .int .i64 ti, .bool so, .int .i64 ep, .int .i64 ix, .int .i64 li, .slice q m d]] w fun x w' => x = .returned (.agg #[.int .i64 9, .slice none 0 0, .int .i64 0, .int .i64 0, .int .i64 0, .bool false, .int .i64 0, .int .i64 0, .int .i64 0, .slice none 0 0]) ∧ Below w.heap.size w w' := by
  go_enter Try.func22, Try.ntmps22
  go_wp2
  all_goals
    refine bodyPost_ret (v := .agg #[.int .i64 9, .slice none 0 0, .int .i64 0, .int .i64 0, .int .i64 0, .bool false, .int .i64 0, .int .i64 0, .int .i64 0, .slice none 0 0]) ?_ rfl ⟨rfl, (alloc3 w _ _ _).1⟩
    simp only [results, Try.results22]
    go_simp

set_option maxRecDepth 100000 in
set_option maxHeartbeats 4000000 in
theorem own10 (fr to ti ep ix li : Int) (so : Bool) (p q : Option Addr) (n c m d : Nat) (w : World) :
    Calls Try.prog 22 #[.agg #[.int .i64 10, .slice p n c, .int .i64 fr, .int .i64 to, .int .i64 ti, .bool so, .int .i64 ep, .int .i64 ix, .int .i64 li, .slice q m d]] w fun x w' => x = .returned (.agg #[.int .i64 10, .slice p n c, .int .i64 fr, .int .i64 to, .int .i64 0, .bool false, .int .i64 0, .int .i64 0, .int .i64 li, .slice none 0 0]) ∧ Below w.heap.size w w' := by
  go_enter Try.func22, Try.ntmps22
  go_wp2
  go_region
  all_goals go_wp2
  all_goals
    refine bodyPost_ret (v := .agg #[.int .i64 10, .slice p n c, .int .i64 fr, .int .i64 to, .int .i64 0, .bool false, .int .i64 0, .int .i64 0, .int .i64 li, .slice none 0 0]) ?_ rfl ⟨rfl, Below.drew (alloc3 w _ _ _).1⟩
    simp only [results, Try.results22]
    go_simp

end Go.Proofs.Ythkgbgkijdeaoaa
