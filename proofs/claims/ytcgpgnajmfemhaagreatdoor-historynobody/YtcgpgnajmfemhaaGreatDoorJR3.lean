/- What this text holds: plain facts: eight numbers as bytes, and read again. What this text proves: an index into an array of eight, by value. (By program: mkadrw.py.) -/
import Derived.Test.YtcgpgnajmfemhaaGreatDoorJR1
import Derived.Test.YtcgpgnajmfemhaaGreatDoorJQ1
namespace Go.Proofs.YtcgpgnajmfemhaaGreatDoor
open Go.RowKit

/-- Numbers behind bytes. -/
def wrN (l : List UInt8) (ns : List Int) : List UInt8 := ns.foldl (fun l n => l ++ numL (clampN n)) l

theorem numL_short (n : Int) : (numL (clampN n)).length ≤ 9 := by
  rw [numL_length]
  have := cnt_le8 (clampN n) (by have := clampN_le n; omega)
  omega

theorem wrN_snoc (l : List UInt8) (ns : List Int) (n : Int) : wrN l (ns ++ [n]) = wrN l ns ++ numL (clampN n) := by simp [wrN, List.foldl_append]
theorem wrN_app (ns : List Int) : ∀ l : List UInt8, wrN l ns = l ++ wrN [] ns := by
  induction ns with
  | nil => intro l; simp [wrN]
  | cons n ns ih =>
    intro l
    show wrN (l ++ numL (clampN n)) ns = l ++ wrN ([] ++ numL (clampN n)) ns
    rw [ih, ih ([] ++ _)]
    simp
theorem wrN_len (l : List UInt8) (ns : List Int) : (wrN l ns).length ≤ l.length + 9 * ns.length := by
  rw [wrN_app, List.length_append]
  have h : (wrN [] ns).length ≤ 9 * ns.length := by
    induction ns with
    | nil => simp [wrN]
    | cons n ns ih =>
      show (wrN ([] ++ numL (clampN n)) ns).length ≤ _
      rw [wrN_app, List.length_append, List.length_cons]
      have := numL_short n
      simp
      omega
  omega

/-- What is read of bytes: numbers, what is left, the error. -/
def auS (b : List UInt8) : Nat → List Nat × List UInt8 × Int
  | 0 => ([], b, 0)
  | k + 1 => ((auS b k).1 ++ [(rdU (auS b k).2.1 (auS b k).2.2 2147483648).2.1], (rdU (auS b k).2.1 (auS b k).2.2 2147483648).2.2, (rdU (auS b k).2.1 (auS b k).2.2 2147483648).1)

theorem auS_len (b : List UInt8) (k : Nat) : (auS b k).1.length = k := by
  induction k with
  | zero => rfl
  | succ k ih => simp [auS, ih]
theorem auS_le (b : List UInt8) (k : Nat) : (auS b k).2.1.length ≤ b.length := by
  induction k with
  | zero => exact Nat.le_refl _
  | succ k ih => exact Nat.le_trans (rdU_le _ _ _) ih

theorem rdUz {l : List UInt8} {e most : Int} (h : (rdU l e most).1 = 0) : e = 0 ∧ l = numL (rdU l e most).2.1 ++ (rdU l e most).2.2 := by
  unfold rdU at h ⊢
  by_cases he : e = 0
  · rw [if_pos he] at h ⊢
    exact ⟨he, (uintF_back l most h).1⟩
  · rw [if_neg he] at h
    exact absurd h he

theorem auS_zero (b : List UInt8) (k : Nat) (h : (auS b k).2.2 = 0) : ∃ pre, b = pre ++ (auS b k).2.1 := by
  induction k with
  | zero => exact ⟨[], rfl⟩
  | succ k ih =>
    obtain ⟨h1, h2⟩ := rdUz (show (rdU (auS b k).2.1 (auS b k).2.2 2147483648).1 = 0 from h)
    obtain ⟨pre, hp⟩ := ih h1
    refine ⟨pre ++ numL (rdU (auS b k).2.1 (auS b k).2.2 2147483648).2.1, ?_⟩
    rw [List.append_assoc]
    show b = pre ++ (_ ++ (rdU (auS b k).2.1 (auS b k).2.2 2147483648).2.2)
    rw [← h2]
    exact hp

theorem auS_rest (b : List UInt8) (k : Nat) (h : (auS b k).2.2 = 0) : (auS b k).2.1 = b.drop (b.length - (auS b k).2.1.length) ∧ (auS b k).2.1.length ≤ b.length := by
  obtain ⟨pre, hp⟩ := auS_zero b k h
  refine ⟨?_, auS_le b k⟩
  generalize (auS b k).2.1 = r at *
  subst hp
  simp

theorem uintF_fellA (l : List UInt8) (most : Int) (h : (uintF l most).1 ≠ 0) : (uintF l most).2.2 = [] := by
  unfold uintF at h ⊢
  repeat' split
  all_goals first | rfl | skip
  all_goals simp_all

theorem rdU_fell (l : List UInt8) (e most : Int) (he : e ≠ 0 → l = []) : (rdU l e most).1 ≠ 0 → (rdU l e most).2.2 = [] := by
  unfold rdU
  split
  · intro h; rw [uintF_fellA l most h]
  · rename_i h; intro _; exact he h
theorem auS_fell (b : List UInt8) (k : Nat) : (auS b k).2.2 ≠ 0 → (auS b k).2.1 = [] := by
  induction k with
  | zero => intro h; exact absurd rfl h
  | succ k ih => exact rdU_fell _ _ _ ih

theorem rdUp (n : Nat) (more : List UInt8) (most : Int) (h : n ≤ 4611686018427387904) (hm : (n : Int) ≤ most) : rdU (numL n ++ more) 0 most = (0, n, more) := by
  unfold rdU
  rw [if_pos rfl]
  exact uintF_put n more most h hm

/-- What was written is read. -/
theorem auS_back (more : List UInt8) (ns : List Int) (hn : ∀ n ∈ ns, 0 ≤ n ∧ n ≤ 2147483648) : ∀ k, k ≤ ns.length → auS (wrN [] ns ++ more) k = ((ns.take k).map Int.toNat, wrN [] (ns.drop k) ++ more, 0) := by
  intro k
  induction k with
  | zero => intro _; simp [auS]
  | succ k ih =>
    intro hk
    have ih := ih (by omega)
    obtain ⟨n, hx⟩ : ∃ n, ns[k]? = some n := ⟨_, List.getElem?_eq_getElem (by omega)⟩
    have hd : ns.drop k = n :: ns.drop (k + 1) := by
      rw [List.drop_eq_getElem_cons (by omega)]
      congr 1
      rw [List.getElem?_eq_getElem (by omega)] at hx
      simpa using hx
    have hr := hn n (List.mem_of_getElem? hx)
    have hw : wrN [] (ns.drop k) = numL n.toNat ++ wrN [] (ns.drop (k + 1)) := by
      rw [hd]
      show wrN ([] ++ numL (clampN n)) _ = _
      rw [wrN_app]
      congr 1
      rw [List.nil_append]
      congr 1
      unfold clampN
      omega
    have hu : rdU (auS (wrN [] ns ++ more) k).2.1 (auS (wrN [] ns ++ more) k).2.2 2147483648 = (0, n.toNat, wrN [] (ns.drop (k + 1)) ++ more) := by
      rw [ih]
      show rdU (wrN [] (ns.drop k) ++ more) 0 2147483648 = _
      rw [hw, List.append_assoc]
      exact rdUp n.toNat _ _ (by omega) (by omega)
    show ((auS (wrN [] ns ++ more) k).1 ++ [_], _, _) = _
    rw [hu, ih]
    refine Prod.ext ?_ rfl
    show (ns.take k).map Int.toNat ++ [n.toNat] = _
    rw [List.take_add_one, hx]
    simp

end Go.Proofs.YtcgpgnajmfemhaaGreatDoor

namespace Go.Proofs.YtcgpgnajmfemhaaGreatDoor
open Go.RowKit

theorem idx8 (C : Array Value) (k : Nat) (hk : k < 8) (v : Value) (hv : C[k]? = some v) (w : World) : (Instr.index 216 (.agg C) (.int .i64 (k : Int))).run Tryz.prog w = .ok v w := by
  simp [Instr.index, run_underlying Tryz.underlying216, asIntOf, go_sem]
  rw [if_pos hk, hv]
  rfl

end Go.Proofs.YtcgpgnajmfemhaaGreatDoor
