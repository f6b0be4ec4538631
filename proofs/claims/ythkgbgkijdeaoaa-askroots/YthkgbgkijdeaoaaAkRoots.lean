/- What this text proves: the walks of ask.Roots and of the document's Roots over this program, of any request. -/
import Derived.Test.YthkgbgkijdeaoaaIzEq
import Derived.Test.YthkgbgkijdeaoaaOpenB
namespace Go.Proofs.Ythkgbgkijdeaoaa
open Go.RowKit

/-- The epochs whose records show a request's answer, and whether it is shown. -/
def rootsL (k fr to : Int) : List Int := if k = 3 ∨ k = 4 then [to] else if k = 5 ∨ k = 6 ∨ k = 7 ∨ k = 10 then [fr, to] else []
def rootsB (k : Int) : Bool := if k = 3 ∨ k = 4 then true else if k = 5 ∨ k = 6 ∨ k = 7 ∨ k = 10 then true else false

def RootsTold (k fr to : Int) (w : World) (x : Ending) (w' : World) : Prop := ∃ v, x = .returned (.tuple #[v, .bool (rootsB k)]) ∧ IZ w' v (rootsL k fr to) ∧ Below w.heap.size w w'

theorem IZ.litG (w : World) (e : TypeId) (l : List Int) (cs : Array Value) (n g : Nat) (hg : w.heap.size = g) (hc : cs = (l.map (fun x => Value.int .i64 x)).toArray) (hn : n = l.length) (hm : n ≤ maxLen) : IZ (w.alloc (.cells cs e (0, 0))) (.slice (some ⟨g, 0, none⟩) n n) l := by
  subst hg; exact IZ.litF w e l cs n (0, 0) hc hn hm

theorem IZ.nil (w : World) : IZ w (.slice none 0 0) [] := ⟨none, 0, rfl, Nat.le_refl _, Nat.zero_le _, fun h => absurd rfl h⟩

set_option maxRecDepth 100000 in
set_option maxHeartbeats 2000000 in
theorem roots_any (k fr to ti ep ix li : Int) (so : Bool) (id ba : Value) (w : World) :
    Calls Try.prog 14 #[.agg #[.int .i64 k, id, .int .i64 fr, .int .i64 to, .int .i64 ti, .bool so, .int .i64 ep, .int .i64 ix, .int .i64 li, ba]] w (RootsTold k fr to w) := by
  obtain ⟨R, hR⟩ : ∃ R, R = RootsTold k fr to w := ⟨_, rfl⟩
  have HR : Hid (R = RootsTold k fr to w) := hR
  rw [← hR]
  clear hR
  by_cases h3 : k = 3
  · have HK : Hid (k = 3) := h3
    have b3 : (k == 3) = true := by rw [h3]; rfl
    clear h3
    go_enter Try.func14, Try.ntmps14
    go_wp2
    have hk := HK.out
    subst hk
    rw [HR.out]
    exact ⟨_, rfl, IZ.litG _ 3 [to] #[.int .i64 to] 1 (w.heap.size + 1) (World.size_alloc _ _) rfl rfl (by decide), ((Below.refl _ w).alloc (Nat.le_refl _) _).alloc ((Below.refl _ w).alloc (Nat.le_refl _) _).size _⟩
  have b3 : (k == 3) = false := by simp [h3]
  by_cases h4 : k = 4
  · have HK : Hid (k = 4) := h4
    have b4 : (k == 4) = true := by rw [h4]; rfl
    clear h4
    go_enter Try.func14, Try.ntmps14
    go_wp2
    have hk := HK.out
    subst hk
    rw [HR.out]
    exact ⟨_, rfl, IZ.litG _ 3 [to] #[.int .i64 to] 1 (w.heap.size + 1) (World.size_alloc _ _) rfl rfl (by decide), ((Below.refl _ w).alloc (Nat.le_refl _) _).alloc ((Below.refl _ w).alloc (Nat.le_refl _) _).size _⟩
  have b4 : (k == 4) = false := by simp [h4]
  by_cases h5 : k = 5
  · have HK : Hid (k = 5) := h5
    have b5 : (k == 5) = true := by rw [h5]; rfl
    clear h5
    go_enter Try.func14, Try.ntmps14
    go_wp2
    have hk := HK.out
    subst hk
    rw [HR.out]
    exact ⟨_, rfl, IZ.litG _ 3 [fr, to] #[.int .i64 fr, .int .i64 to] 2 (w.heap.size + 1) (World.size_alloc _ _) rfl rfl (by decide), ((Below.refl _ w).alloc (Nat.le_refl _) _).alloc ((Below.refl _ w).alloc (Nat.le_refl _) _).size _⟩
  have b5 : (k == 5) = false := by simp [h5]
  by_cases h6 : k = 6
  · have HK : Hid (k = 6) := h6
    have b6 : (k == 6) = true := by rw [h6]; rfl
    clear h6
    go_enter Try.func14, Try.ntmps14
    go_wp2
    have hk := HK.out
    subst hk
    rw [HR.out]
    exact ⟨_, rfl, IZ.litG _ 3 [fr, to] #[.int .i64 fr, .int .i64 to] 2 (w.heap.size + 1) (World.size_alloc _ _) rfl rfl (by decide), ((Below.refl _ w).alloc (Nat.le_refl _) _).alloc ((Below.refl _ w).alloc (Nat.le_refl _) _).size _⟩
  have b6 : (k == 6) = false := by simp [h6]
  by_cases h7 : k = 7
  · have HK : Hid (k = 7) := h7
    have b7 : (k == 7) = true := by rw [h7]; rfl
    clear h7
    go_enter Try.func14, Try.ntmps14
    go_wp2
    have hk := HK.out
    subst hk
    rw [HR.out]
    exact ⟨_, rfl, IZ.litG _ 3 [fr, to] #[.int .i64 fr, .int .i64 to] 2 (w.heap.size + 1) (World.size_alloc _ _) rfl rfl (by decide), ((Below.refl _ w).alloc (Nat.le_refl _) _).alloc ((Below.refl _ w).alloc (Nat.le_refl _) _).size _⟩
  have b7 : (k == 7) = false := by simp [h7]
  by_cases h10 : k = 10
  · have HK : Hid (k = 10) := h10
    have b10 : (k == 10) = true := by rw [h10]; rfl
    clear h10
    go_enter Try.func14, Try.ntmps14
    go_wp2
    have hk := HK.out
    subst hk
    rw [HR.out]
    exact ⟨_, rfl, IZ.litG _ 3 [fr, to] #[.int .i64 fr, .int .i64 to] 2 (w.heap.size + 1) (World.size_alloc _ _) rfl rfl (by decide), ((Below.refl _ w).alloc (Nat.le_refl _) _).alloc ((Below.refl _ w).alloc (Nat.le_refl _) _).size _⟩
  have b10 : (k == 10) = false := by simp [h10]
  go_enter Try.func14, Try.ntmps14
  go_wp2
  rw [HR.out]
  have eL : rootsL k fr to = [] := by unfold rootsL; rw [if_neg (by omega), if_neg (by omega)]
  have eB : rootsB k = false := by unfold rootsB; rw [if_neg (by omega), if_neg (by omega)]
  unfold RootsTold
  rw [eL, eB]
  exact ⟨_, rfl, IZ.nil _, (Below.refl _ w).alloc (Nat.le_refl _) _⟩

set_option maxRecDepth 100000 in
set_option maxHeartbeats 2000000 in
theorem rroots_any (k fr to ti ep ix li : Int) (so : Bool) (id ba : Value) (w : World) :
    Calls Try.prog 15 #[.agg #[.int .i64 k, id, .int .i64 fr, .int .i64 to, .int .i64 ti, .bool so, .int .i64 ep, .int .i64 ix, .int .i64 li, ba]] w (RootsTold k fr to w) := by
  obtain ⟨R, hR⟩ : ∃ R, R = RootsTold k fr to w := ⟨_, rfl⟩
  have HR : Hid (R = RootsTold k fr to w) := hR
  rw [← hR]
  clear hR
  by_cases h3 : k = 3
  · have HK : Hid (k = 3) := h3
    have b3 : (k == 3) = true := by rw [h3]; rfl
    clear h3
    go_enter Try.func15, Try.ntmps15
    go_wp2
    have hk := HK.out
    subst hk
    rw [HR.out]
    exact ⟨_, rfl, IZ.litG _ 3 [to] #[.int .i64 to] 1 (w.heap.size + 1) (World.size_alloc _ _) rfl rfl (by decide), ((Below.refl _ w).alloc (Nat.le_refl _) _).alloc ((Below.refl _ w).alloc (Nat.le_refl _) _).size _⟩
  have b3 : (k == 3) = false := by simp [h3]
  by_cases h4 : k = 4
  · have HK : Hid (k = 4) := h4
    have b4 : (k == 4) = true := by rw [h4]; rfl
    clear h4
    go_enter Try.func15, Try.ntmps15
    go_wp2
    have hk := HK.out
    subst hk
    rw [HR.out]
    exact ⟨_, rfl, IZ.litG _ 3 [to] #[.int .i64 to] 1 (w.heap.size + 1) (World.size_alloc _ _) rfl rfl (by decide), ((Below.refl _ w).alloc (Nat.le_refl _) _).alloc ((Below.refl _ w).alloc (Nat.le_refl _) _).size _⟩
  have b4 : (k == 4) = false := by simp [h4]
  by_cases h5 : k = 5
  · have HK : Hid (k = 5) := h5
    have b5 : (k == 5) = true := by rw [h5]; rfl
    clear h5
    go_enter Try.func15, Try.ntmps15
    go_wp2
    have hk := HK.out
    subst hk
    rw [HR.out]
    exact ⟨_, rfl, IZ.litG _ 3 [fr, to] #[.int .i64 fr, .int .i64 to] 2 (w.heap.size + 1) (World.size_alloc _ _) rfl rfl (by decide), ((Below.refl _ w).alloc (Nat.le_refl _) _).alloc ((Below.refl _ w).alloc (Nat.le_refl _) _).size _⟩
  have b5 : (k == 5) = false := by simp [h5]
  by_cases h6 : k = 6
  · have HK : Hid (k = 6) := h6
    have b6 : (k == 6) = true := by rw [h6]; rfl
    clear h6
    go_enter Try.func15, Try.ntmps15
    go_wp2
    have hk := HK.out
    subst hk
    rw [HR.out]
    exact ⟨_, rfl, IZ.litG _ 3 [fr, to] #[.int .i64 fr, .int .i64 to] 2 (w.heap.size + 1) (World.size_alloc _ _) rfl rfl (by decide), ((Below.refl _ w).alloc (Nat.le_refl _) _).alloc ((Below.refl _ w).alloc (Nat.le_refl _) _).size _⟩
  have b6 : (k == 6) = false := by simp [h6]
  by_cases h7 : k = 7
  · have HK : Hid (k = 7) := h7
    have b7 : (k == 7) = true := by rw [h7]; rfl
    clear h7
    go_enter Try.func15, Try.ntmps15
    go_wp2
    have hk := HK.out
    subst hk
    rw [HR.out]
    exact ⟨_, rfl, IZ.litG _ 3 [fr, to] #[.int .i64 fr, .int .i64 to] 2 (w.heap.size + 1) (World.size_alloc _ _) rfl rfl (by decide), ((Below.refl _ w).alloc (Nat.le_refl _) _).alloc ((Below.refl _ w).alloc (Nat.le_refl _) _).size _⟩
  have b7 : (k == 7) = false := by simp [h7]
  by_cases h10 : k = 10
  · have HK : Hid (k = 10) := h10
    have b10 : (k == 10) = true := by rw [h10]; rfl
    clear h10
    go_enter Try.func15, Try.ntmps15
    go_wp2
    have hk := HK.out
    subst hk
    rw [HR.out]
    exact ⟨_, rfl, IZ.litG _ 3 [fr, to] #[.int .i64 fr, .int .i64 to] 2 (w.heap.size + 1) (World.size_alloc _ _) rfl rfl (by decide), ((Below.refl _ w).alloc (Nat.le_refl _) _).alloc ((Below.refl _ w).alloc (Nat.le_refl _) _).size _⟩
  have b10 : (k == 10) = false := by simp [h10]
  go_enter Try.func15, Try.ntmps15
  go_wp2
  rw [HR.out]
  have eL : rootsL k fr to = [] := by unfold rootsL; rw [if_neg (by omega), if_neg (by omega)]
  have eB : rootsB k = false := by unfold rootsB; rw [if_neg (by omega), if_neg (by omega)]
  unfold RootsTold
  rw [eL, eB]
  exact ⟨_, rfl, IZ.nil _, (Below.refl _ w).alloc (Nat.le_refl _) _⟩

end Go.Proofs.Ythkgbgkijdeaoaa
