/- What this text proves: the walk of merkle.Fold over this program where all is right: the root. -/
import Derived.Test.YtichffdkihifpaaDoorKFold
namespace Go.Proofs.YtichffdkihifpaaDoor
open Go.RowKit

theorem wo_split {lo hi f b e : Nat} (h2 : ¬ (lo = hi ∨ e ≤ lo ∨ hi ≤ b)) (hn : 2 ≤ e - b) (he : e ≤ 4611686018427387904) : wo lo hi (f + 1) b e = wo lo hi f b (b + half (e - b)) ++ wo lo hi f (b + half (e - b)) e := by
  by_cases h1 : lo ≤ b ∧ e ≤ hi
  · obtain ⟨q1, q2, q3⟩ := half_bounds hn (by omega)
    rw [wo_in h1, wo_in ⟨h1.1, by omega⟩, wo_in ⟨by omega, h1.2⟩]
    rfl
  · exact wo_fork h1 h2

theorem wo_apart {lo hi f b e : Nat} (h : lo = hi ∨ e ≤ lo ∨ hi ≤ b) (hbe : b < e) : wo lo hi f b e = [(b, e)] := wo_out (by omega) h

theorem ovF_next (size : Int) (lo hi : Nat) (ins outs : List (List UInt8)) : ∀ (f b e s : Nat), b < e → e - b ≤ 2 ^ f → e ≤ 4611686018427387904 → (ovF size (knF lo hi ins outs) f b e s).2 = s + (wo lo hi f b e).length := by
  intro f
  induction f with
  | zero =>
    intro b e s h1 h2 h3
    simp at h2
    by_cases ho : lo = hi ∨ e ≤ lo ∨ hi ≤ b
    · rw [ovF_some (l := outs.getD s []) (by simp [knF, ho]), wo_apart ho h1]
      simp [knF, ho]
    · rw [ovF_some (l := ins.getD (b - lo) []) (by simp only [knF, if_neg ho]; rw [if_pos (by omega)]), wo_in (by omega)]
      simp only [knF, if_neg ho]
      rw [if_pos (by omega)]
      rfl
  | succ f ih =>
    intro b e s h1 h2 h3
    by_cases ho : lo = hi ∨ e ≤ lo ∨ hi ≤ b
    · rw [ovF_some (l := outs.getD s []) (by simp [knF, ho]), wo_apart ho h1]
      simp [knF, ho]
    · by_cases h1e : e ≤ b + 1
      · rw [ovF_some (l := ins.getD (b - lo) []) (by simp only [knF, if_neg ho, if_pos h1e]), wo_in (by omega)]
        simp only [knF, if_neg ho, if_pos h1e]
        rfl
      · have hn : 2 ≤ e - b := by omega
        obtain ⟨q1, q2, q3⟩ := half_bounds hn (by omega)
        obtain ⟨r1, r2⟩ := half_le hn (by omega) h2
        have hk : knF lo hi ins outs s b e = (none, s) := by simp only [knF, if_neg ho, if_neg h1e]
        rw [ovF_none (by rw [hk]), hk, wo_split ho hn h3, List.length_append]
        show (ovF size (knF lo hi ins outs) f (b + half (e - b)) e (ovF size (knF lo hi ins outs) f b (b + half (e - b)) s).2).2 = _
        rw [ih _ e _ (by omega) (by omega) h3, ih b _ s (by omega) (by omega) (by omega)]
        omega

theorem ovF_len (size : Int) (M : Nat) (hM : 32 ≤ M) (kn : Nat → Nat → Nat → Option (List UInt8) × Nat) (hk : ∀ s b e l, (kn s b e).1 = some l → l.length ≤ M) : ∀ (f b e s : Nat), (ovF size kn f b e s).1.length ≤ M := by
  intro f
  induction f with
  | zero =>
    intro b e s
    cases h : (kn s b e).1 with
    | none => simp [ovF, h]
    | some l => rw [ovF_some h]; exact hk s b e l h
  | succ f ih =>
    intro b e s
    cases h : (kn s b e).1 with
    | none => rw [ovF_none h]; exact Nat.le_trans (hashF_le32 _ _ _) hM
    | some l => rw [ovF_some h]; exact hk s b e l h

theorem all_getD {n : Int} {ls : List (List UInt8)} (h : allLen n ls = true) (hn : n ≤ 32) (i : Nat) : (ls.getD i []).length ≤ 32 := by
  rw [List.getD_eq_getElem?_getD]
  cases hg : ls[i]? with
  | none => simp
  | some l =>
    unfold allLen at h
    have := (List.all_eq_true.1 h) l (List.mem_of_getElem? hg)
    simp only [decide_eq_true_eq] at this
    simp only [Option.getD_some]
    omega

theorem knF_len {n : Int} {lo hi : Nat} {ins outs : List (List UInt8)} (h1 : allLen n ins = true) (h2 : allLen n outs = true) (hn : n ≤ 32) (s b e : Nat) (l : List UInt8) (h : (knF lo hi ins outs s b e).1 = some l) : l.length ≤ 32 := by
  unfold knF at h
  by_cases ho : lo = hi ∨ e ≤ lo ∨ hi ≤ b
  · rw [if_pos ho] at h
    simp only [Option.some.injEq] at h
    rw [← h]
    exact all_getD h2 hn s
  · rw [if_neg ho] at h
    by_cases h1e : e ≤ b + 1
    · rw [if_pos h1e] at h
      simp only [Option.some.injEq] at h
      rw [← h]
      exact all_getD h1 hn _
    · rw [if_neg h1e] at h
      cases h

/-- The root that is folded. -/
def fldF (size : Int) (n lo hi : Nat) (ins outs : List (List UInt8)) : List UInt8 := (ovF size (knF lo hi ins outs) 20 0 n 0).1

theorem fold_over (size : Int) (n lo hi g : Nat) (iv ov : Value) (ins outs : List (List UInt8)) (w0 w : World) (hT : Tabs w0) (hpi : PA w0 iv ins) (hpo : PA w0 ov outs) (hhi : hi = lo + ins.length) (hb : outs.length ≤ 140737488355328) (h1 : hi ≤ n) (h2 : n ≤ 1048576) (h0 : 0 < n) (hc : outs.length = (wo lo hi 20 0 n).length) (h : FB w0 g lo hi iv ov 0 w) :
    Calls Tryd.prog 30 #[.int .i64 size, .int .i64 0, .int .i64 (n : Int), .func (.func 43) #[] #[.pointer (some ⟨w0.heap.size, 0, none⟩), .pointer (some ⟨w0.heap.size + 3, 0, none⟩), .pointer (some ⟨g, 0, none⟩), .pointer (some ⟨w0.heap.size + 2, 0, none⟩), .pointer (some ⟨w0.heap.size + 1, 0, none⟩)]] w fun x w' => ∃ p c, x = .returned (.slice p (fldF size n lo hi ins outs).length c) ∧ HB w' (.slice p (fldF size n lo hi ins outs).length c) (fldF size n lo hi ins outs) ∧ Below w0.heap.size w0 w' := by
  have := over_any size 43 #[.pointer (some ⟨w0.heap.size, 0, none⟩), .pointer (some ⟨w0.heap.size + 3, 0, none⟩), .pointer (some ⟨g, 0, none⟩), .pointer (some ⟨w0.heap.size + 2, 0, none⟩), .pointer (some ⟨w0.heap.size + 1, 0, none⟩)] eg_foldF g n (FB w0 g lo hi iv ov) (knF lo hi ins outs) (fun f b e s => s + (wo lo hi f b e).length ≤ outs.length) (by omega)
    (fun f b e s hP hk hn hf he => by
      have ho : ¬ (lo = hi ∨ e ≤ lo ∨ hi ≤ b) := by
        intro ho
        simp [knF, ho] at hk
      have hk2 : (knF lo hi ins outs s b e).2 = s := by
        unfold knF
        rw [if_neg ho]
        split <;> rfl
      obtain ⟨q1, q2, q3⟩ := half_bounds hn (by omega)
      obtain ⟨r1, r2⟩ := half_le hn (by omega) hf
      rw [wo_split ho hn (by omega), List.length_append] at hP
      rw [hk2, ovF_next size lo hi ins outs f b _ s (by omega) (by omega) (by omega)]
      exact ⟨by omega, by omega⟩)
    (fun s w w' hr hb => hr.later hb) (fun s w hr => hT.later hr.2.2.2.2.2.2) (fun s w hr => ⟨_, _, _, hr.2.2.2.2.1, by decide⟩) (knF_one lo hi ins outs)
    (fun f s b e w hP hr hbe he => foldF_walk w0 g lo hi iv ov ins outs s b e w hpi hpo hhi hb hr hbe (by omega) (fun ho => by rw [wo_apart ho hbe] at hP; simp at hP; omega)) 20 0 n 0 w h0 (by omega) (Nat.le_refl _) (by omega) h
  refine this.mono ?_
  rintro x w' ⟨p, c, h1, h2, h3, h4⟩
  exact ⟨p, c, h1, h2.1, h4.2.2.2.2.2.2⟩

end Go.Proofs.YtichffdkihifpaaDoor
