/- What this text proves: a slice of cuts in memory; the walk of slices.Equal of two slices of the same cuts; annalslaw19.awake answers true. -/
import Derived.Test.YtnnfbaboiilmiaaFdCuts
namespace Go.Proofs.Ytnnfbaboiilmiaa
open Go.RowKit

/-- The value v is a slice of the cuts l. -/
def CA (w : World) (v : Value) (l : List (Int × Int)) : Prop :=
  ∃ (p : Option Addr) (cap : Nat), v = .slice p l.length cap ∧ l.length ≤ cap ∧ cap ≤ maxLen ∧
    (l ≠ [] → ∃ b o, p = some ⟨b, o, none⟩ ∧ ∀ i x, l[i]? = some x → w.cell? ⟨b, o + i * 2, none⟩ = some (.int .i64 x.1) ∧ w.cell? ⟨b, o + i * 2 + 1, none⟩ = some (.int .i64 x.2))

theorem CA.later {w w' : World} {v : Value} {l : List (Int × Int)} (h : CA w v l) (hb : Below w.heap.size w w') : CA w' v l := by
  obtain ⟨p, cap, e, h1, h2, h4⟩ := h
  refine ⟨p, cap, e, h1, h2, fun hn => ?_⟩
  obtain ⟨b, o, e1, e2⟩ := h4 hn
  exact ⟨b, o, e1, fun i x hx => ⟨cell_later hb (e2 i x hx).1, cell_later hb (e2 i x hx).2⟩⟩

theorem CA.shape {w : World} {v : Value} {l : List (Int × Int)} (h : CA w v l) : ∃ p c, v = .slice p l.length c := by
  obtain ⟨p', cap, e, _⟩ := h
  exact ⟨p', cap, e⟩

theorem CA.len_le {w : World} {v : Value} {l : List (Int × Int)} (h : CA w v l) : l.length ≤ maxLen := by
  obtain ⟨p, cap, e, h1, h2, h4⟩ := h
  omega

theorem CA.addr {w : World} {p : Option Addr} {n c : Nat} {l : List (Int × Int)} (h : CA w (.slice p n c) l) (hn : 0 < n) : ∃ b o, p = some ⟨b, o, none⟩ ∧ ∀ (i : Nat) (x : Int × Int), l[i]? = some x → w.cell? ⟨b, o + i * 2, none⟩ = some (.int .i64 x.1) ∧ w.cell? ⟨b, o + i * 2 + 1, none⟩ = some (.int .i64 x.2) := by
  obtain ⟨p', cap, e, h1, h2, h4⟩ := h
  simp only [Value.slice.injEq] at e
  obtain ⟨rfl, rfl, rfl⟩ := e
  exact h4 (fun h => by subst h; simp at hn)

theorem cutCs_get (X : List (Nat × Int × Int)) : ∀ (i : Nat) (x : Nat × Int × Int), X[i]? = some x → (cutCs X)[i * 2]? = some (.int .i64 x.2.1) ∧ (cutCs X)[i * 2 + 1]? = some (.int .i64 x.2.2) := by
  induction X with
  | nil => intro i x h; simp at h
  | cons y r ih =>
    intro i x h
    rw [show cutCs (y :: r) = .int .i64 y.2.1 :: .int .i64 y.2.2 :: cutCs r from rfl]
    cases i with
    | zero =>
      simp at h
      subst h
      exact ⟨rfl, rfl⟩
    | succ i =>
      have := ih i x (by simpa using h)
      rw [show (i + 1) * 2 = i * 2 + 1 + 1 by omega]
      simpa using this

theorem CA.of_owns {w : World} {base : Nat} {e : TypeId} {v : Value} {X : List (Nat × Int × Int)} (h : w.ownsRow base e 2 v X.length (cutCs X)) : CA w v (X.map (·.2)) := by
  obtain ⟨h1, h2⟩ := h
  rcases h2 with ⟨rfl, h0⟩ | ⟨g, cap, cur, rfl, hb, hg, hl, hm, hs, ht⟩
  · obtain rfl : X = [] := List.eq_nil_of_length_eq_zero h0
    exact ⟨none, 0, rfl, Nat.le_refl _, Nat.zero_le _, fun h => absurd rfl h⟩
  · refine ⟨_, cap, by rw [List.length_map], by rw [List.length_map]; exact hl, hm, fun _ => ⟨g, 0, rfl, fun i x hx => ?_⟩⟩
    rw [List.getElem?_map] at hx
    obtain ⟨y, hy, rfl⟩ := Option.map_eq_some_iff.1 hx
    have hi : i < X.length := (List.getElem?_eq_some_iff.1 hy).1
    obtain ⟨e1, e2⟩ := cutCs_get X i y hy
    rw [Nat.zero_add, cell_of_row w g _ cur e (0, 0) hg, cell_of_row w g _ cur e (0, 0) hg]
    rw [← ht, List.getElem?_take, if_pos (by omega)] at e1 e2
    exact ⟨by simpa using e1, by simpa using e2⟩

set_option maxHeartbeats 1000000 in
theorem cutsEqual_same (v u : Value) (l : List (Int × Int)) (w : World) (h : CA w v l) (h' : CA w u l) :
    Calls Try.prog 7 #[v, u] w fun e w' => e = .returned (.bool true) ∧ Below w.heap.size w w' := by
  obtain ⟨p, c, rfl⟩ := h.shape
  obtain ⟨p', c', rfl⟩ := h'.shape
  have hm := h.len_le
  unfold maxLen at hm
  go_enter Try.func7, Try.ntmps7
  go_wp2
  go_loopw [13] (fun i wr => ∃ k : Nat, k ≤ l.length ∧ i = .int .i64 k ∧ Below w.heap.size w wr) (fun i _ => l.length - (intOf i).toNat)
  case atStart => exact ⟨0, Nat.zero_le _, rfl, Below.refl _ w⟩
  case round =>
    obtain ⟨k, hk, rfl, hbe⟩ := hrel
    by_cases hlt : k < l.length
    · obtain ⟨b, o, rfl, f1⟩ := (h.later hbe).addr (by omega)
      obtain ⟨b', o', rfl, f2⟩ := (h'.later hbe).addr (by omega)
      obtain ⟨c1, c2⟩ := f1 k l[k] (List.getElem?_eq_getElem hlt)
      obtain ⟨c3, c4⟩ := f2 k l[k] (List.getElem?_eq_getElem hlt)
      generalize l[k] = x at *
      clear f1 f2
      have hlt2 : (k : Int) < (l.length : Int) := by omega
      go_wp2
      go_region
      go_wp2
      go_roundw
      case rel => first | exact ⟨k + 1, by omega, by go_num, hbe.drew⟩ | ((repeat apply Exists.intro); exact ⟨⟨k + 1, by omega, by go_num, hbe.drew⟩, rfl⟩)
      case measure => simp [intOf]; omega
    · go_wp2
      go_ret
      exact ⟨rfl, hbe⟩

theorem cuts_23 : (cutsG 0 [2, 3] 1 3).map (·.2) = [(1, 2), (0, 2)] := by decide +kernel

theorem cutlit (w : World) (l : List (Int × Int)) (hl : l = [(1, 2), (0, 2)]) : CA (w.alloc (.cells #[.int .i64 1, .int .i64 2, .int .i64 0, .int .i64 2] 26)) (.slice (some ⟨w.heap.size, 0, none⟩) 2 2) l := by
  subst hl
  refine ⟨_, 2, rfl, Nat.le_refl _, by decide, fun _ => ⟨_, 0, rfl, fun i x hx => ?_⟩⟩
  rw [cell_of_row _ _ _ _ _ _ (heap_alloc_new w _), cell_of_row _ _ _ _ _ _ (heap_alloc_new w _)]
  match i with
  | 0 => simp at hx; subst hx; exact ⟨rfl, rfl⟩
  | 1 => simp at hx; subst hx; exact ⟨rfl, rfl⟩
  | n + 2 => simp at hx

set_option maxHeartbeats 1000000 in
theorem fdAwake_any (w : World) :
    Calls Try.prog 5 #[] w fun x w' => x = .returned (.bool true) ∧ Below w.heap.size w w' := by
  have bA := (Below.refl w.heap.size w).alloc (Nat.le_refl _) (.cells #[.int .i64 2, .int .i64 3] 3)
  have hC := cuts_any (.slice (some ⟨w.heap.size, 0, none⟩) 2 2) [2, 3] 1 3 (w.alloc (.cells #[.int .i64 2, .int .i64 3] 3)) (IZ.litF w 3 [2, 3] _ 2 (0, 0) rfl rfl (by decide)) (by decide) (by decide) (by decide) (by intro x hx; simp at hx; omega)
  obtain ⟨X, hX⟩ : ∃ X, cutsG 0 [2, 3] 1 3 = X := ⟨_, rfl⟩
  have hl := cuts_23
  rw [hX] at hC hl
  obtain ⟨L, hL⟩ : ∃ L, L = X.map (·.2) := ⟨_, rfl⟩
  have HL : Hid (L = [(1, 2), (0, 2)]) := hL.trans hl
  have HM : Hid (X.map (·.2) = L) := hL.symm
  have hN2 : X.length = 2 := by
    have := congrArg List.length hl
    simpa using this
  have HN : Hid (X.length = 2) := hN2
  clear hN2
  clear hX hl hL
  go_enter Try.func5, Try.ntmps5
  go_wp2_with fail
  refine hC.mono ?_
  rintro x w1 ⟨u, rfl, ho, b1⟩
  have hc := CA.of_owns ho
  rw [HM.out] at hc
  obtain ⟨p1, c1, hu⟩ := owns_shape ho
  subst hu
  rw [HN.out] at hc
  have hA := (Below.refl w1.heap.size w1).alloc (Nat.le_refl _) (.cells #[.int .i64 1, .int .i64 2, .int .i64 0, .int .i64 2] 26)
  have hE := cutsEqual_same _ _ L _ (hc.later hA) (cutlit w1 L HL.out)
  have hbA : Below w.heap.size w (w1.alloc (.cells #[.int .i64 1, .int .i64 2, .int .i64 0, .int .i64 2] 26)) := (bA.trans (b1.mono bA.size)).trans (hA.mono (Nat.le_trans bA.size b1.size))
  rw [HN.out]
  clear hC ho hc hA b1 bA HL HM HN
  go_wp2_with fail
  refine hE.mono ?_
  rintro x w2 ⟨rfl, b2⟩
  have hbB := hbA.trans (b2.mono hbA.size)
  clear hE hbA b2
  go_wp2
  go_ret
  exact ⟨rfl, hbB⟩

end Go.Proofs.Ytnnfbaboiilmiaa
