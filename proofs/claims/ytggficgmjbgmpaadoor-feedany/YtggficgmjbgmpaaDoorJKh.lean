/- What this text proves: the walk of the document's folded (annalsref11) over this program: the root of a part, and what is left of the digests. What this text holds: plain facts: digests inside a range, and the roots that show it, come to the root (no program). What this text proves: the walk of the document's Fold (annalsref11) over this program: the root that digests, and what shows them, come to, or the error. -/
import Derived.Test.YtggficgmjbgmpaaDoorJKg
import Derived.Test.YtggficgmjbgmpaaDoorJKt
namespace Go.Proofs.YtggficgmjbgmpaaDoor
open Go.RowKit

theorem PA.tail {w : World} {p : Option Addr} {n c : Nat} {ls : List (List UInt8)} (h : PA w (.slice p n c) ls) (h1 : 1 ≤ n) : PA w (.slice (cutP p c 1) (n - 1) (c - 1)) (ls.drop 1) := by
  have hn := h.len.1
  have := h.seg 1 n h1 (Nat.le_refl _)
  have e : Go.Proofs.YtggficgmjbgmpaaDoor.seg ls 1 n = ls.drop 1 := by
    unfold Go.Proofs.YtggficgmjbgmpaaDoor.seg
    exact List.take_of_length_le (by simp; omega)
  rwa [e] at this

/-- What a call of folded answers. -/
def FSaid (w : World) (R : List UInt8) (I O : List (List UInt8)) (x : Ending) (w' : World) : Prop :=
  ∃ p c q d r g, x = .returned (.tuple #[.slice p R.length c, .slice q I.length d, .slice r O.length g]) ∧ HB w' (.slice p R.length c) R ∧ PA w' (.slice q I.length d) I ∧ PA w' (.slice r O.length g) O ∧ Below w.heap.size w w'

theorem clampF (n lo : Nat) (x : Int) (hx : max 0 (min x (n : Int)) = (lo : Int)) : ∃ X : Int, (if (n : Int) < x then (n : Int) else x) = X ∧ (if 0 < X then X else 0) = (lo : Int) :=
  ⟨_, rfl, by rw [← hx]; split <;> split <;> omega⟩

theorem PA.head {w : World} {p : Option Addr} {n c : Nat} {l : List UInt8} {ls : List (List UInt8)} (h : PA w (.slice p n c) (l :: ls)) : ∃ b o q k, p = some ⟨b, o, none⟩ ∧ w.cell? ⟨b, o, none⟩ = some (.slice q l.length k) ∧ HB w (.slice q l.length k) l ∧ PA w (.slice (cutP p c 1) ls.length (c - 1)) ls ∧ n = ls.length + 1 ∧ n ≤ c := by
  have hn := h.len
  simp only [List.length_cons] at hn
  obtain ⟨b, o, rfl⟩ := h.addr (by omega)
  obtain ⟨q, k, l', hl, hc, hh⟩ := h.get 0 (by omega)
  obtain rfl : l = l' := by have := hl.out; simpa using this
  have ht := h.tail (by omega)
  rw [List.drop_one, List.tail_cons, show n - 1 = ls.length by omega] at ht
  rw [Nat.add_zero] at hc
  exact ⟨b, o, q, k, rfl, hc, hh, ht, hn.1, hn.2.1⟩

set_option maxRecDepth 100000 in
set_option maxHeartbeats 2000000 in
theorem folded_out (size : Int) (n lo hi : Nat) (x y : Int) (iv ov : Value) (l : List UInt8) (I O : List (List UInt8)) (w : World) (hx : max 0 (min x (n : Int)) = (lo : Int)) (hy : max 0 (min y (n : Int)) = (hi : Int)) (hl : hi ≤ lo) (hI : PA w iv I) (hO : PA w ov (l :: O)) :
    Calls Tryd.prog 54 #[.int .i64 size, .int .i64 (n : Int), .int .i64 x, .int .i64 y, iv, ov] w (FSaid w l I O) := by
  obtain ⟨X, hX, hX2⟩ := clampF n lo x hx
  obtain ⟨Y, hY, hY2⟩ := clampF n hi y hy
  obtain ⟨pi, ci, rfl⟩ := hI.shape
  obtain ⟨po, co, rfl⟩ := hO.shape
  obtain ⟨b, o, q, k, rfl, c1, hh, ht, hn, hnc⟩ := hO.head
  have s1 := fun w => run_cut (P := Tryd.prog) Tryd.underlying33 s_bytes (some ⟨b, o, none⟩) (l :: O).length co 1 1 rfl (by simp) w
  rw [show (l :: O).length - 1 = O.length by simp] at s1
  simp only [List.length_cons] at *
  have d1 : w.drew.cell? ⟨b, o, none⟩ = some (.slice q l.length k) := c1
  have HI : Hid (PA w (.slice pi I.length ci) I) := hI
  have HT : Hid (PA w (.slice (cutP (some ⟨b, o, none⟩) co 1) O.length (co - 1)) O) := ht
  have HH : Hid (HB w (.slice q l.length k) l) := hh
  clear hI hO ht hh hx hy hn
  go_enter Tryd.func54, Tryd.ntmps54
  go_wp2
  go_region
  all_goals
    go_wp2
    go_ret3
    have bd : Below w.heap.size w w.drew := (Below.refl _ w).drew
    exact ⟨_, _, _, _, _, _, rfl, HH.out.later bd, HI.out.later bd, HT.out.later bd, bd⟩

set_option maxRecDepth 100000 in
set_option maxHeartbeats 2000000 in
theorem folded_one (size : Int) (x y : Int) (iv ov : Value) (l : List UInt8) (I O : List (List UInt8)) (w : World) (hx : max 0 (min x 1) = 0) (hy : max 0 (min y 1) = 1) (hI : PA w iv (l :: I)) (hO : PA w ov O) :
    Calls Tryd.prog 54 #[.int .i64 size, .int .i64 1, .int .i64 x, .int .i64 y, iv, ov] w (FSaid w l I O) := by
  obtain ⟨X, hX, hX2⟩ := clampF 1 0 x hx
  obtain ⟨Y, hY, hY2⟩ := clampF 1 1 y hy
  obtain ⟨pi, ci, rfl⟩ := hO.shape
  obtain ⟨po, co, rfl⟩ := hI.shape
  obtain ⟨b, o, q, k, rfl, c1, hh, ht, hn, hnc⟩ := hI.head
  have s1 := fun w => run_cut (P := Tryd.prog) Tryd.underlying33 s_bytes (some ⟨b, o, none⟩) (l :: I).length co 1 1 rfl (by simp) w
  rw [show (l :: I).length - 1 = I.length by simp] at s1
  simp only [List.length_cons, Int.natCast_one, Int.natCast_zero] at *
  have d1 : w.drew.cell? ⟨b, o, none⟩ = some (.slice q l.length k) := c1
  have HI : Hid (PA w (.slice pi O.length ci) O) := hO
  have HT : Hid (PA w (.slice (cutP (some ⟨b, o, none⟩) co 1) I.length (co - 1)) I) := ht
  have HH : Hid (HB w (.slice q l.length k) l) := hh
  clear hI hO ht hh hx hy hn
  go_enter Tryd.func54, Tryd.ntmps54
  go_wp2
  go_region
  all_goals
    go_wp2
    go_ret3
    have bd : Below w.heap.size w w.drew := (Below.refl _ w).drew
    exact ⟨_, _, _, _, _, _, rfl, HH.out.later bd, HT.out.later bd, HI.out.later bd, bd⟩

set_option maxRecDepth 100000 in
set_option maxHeartbeats 2000000 in
theorem folded_fork (size : Int) (n lo hi k : Nat) (x y : Int) (iv ov : Value) (RA RB RC : List UInt8) (I O I1 O1 I2 O2 : List (List UInt8)) (w : World) (hx : max 0 (min x (n : Int)) = (lo : Int)) (hy : max 0 (min y (n : Int)) = (hi : Int)) (hl : lo < hi) (hn : 2 ≤ n) (hnb : n ≤ 1048576) (hk : k < n) (hhi : hi ≤ n) (hI : PA w iv I) (hO : PA w ov O)
    (hS : Calls Tryd.prog 38 #[.int .i64 (n : Int)] w fun x w' => x = .returned (.int .i64 (k : Int)) ∧ w' = w)
    (h1 : ∀ u v, PA w u I → PA w v O → Calls Tryd.prog 54 #[.int .i64 size, .int .i64 (k : Int), .int .i64 (lo : Int), .int .i64 (hi : Int), u, v] w (FSaid w RA I1 O1))
    (h2 : ∀ W u v, PA W u I1 → PA W v O1 → Calls Tryd.prog 54 #[.int .i64 size, .int .i64 ((n : Int) - (k : Int)), .int .i64 ((lo : Int) - (k : Int)), .int .i64 ((hi : Int) - (k : Int)), u, v] W (FSaid W RB I2 O2))
    (h3 : ∀ W v, PA W v [RA, RB] → Calls Tryd.prog 43 #[.int .i64 size, .int .i64 4, v] W fun x w' => ∃ p c, x = .returned (.slice p RC.length c) ∧ HB w' (.slice p RC.length c) RC ∧ Below W.heap.size W w') :
    Calls Tryd.prog 54 #[.int .i64 size, .int .i64 (n : Int), .int .i64 x, .int .i64 y, iv, ov] w (FSaid w RC I2 O2) := by
  have hxn : x ≤ (n : Int) := by omega
  have hX2 : (if 0 < x then x else 0) = (lo : Int) := by split <;> omega
  have hY2 : (if (n : Int) < y then (n : Int) else y) = (hi : Int) := by split <;> omega
  have hy0 : 0 < y := by omega
  have hi0 : 0 < (hi : Int) := by omega
  obtain ⟨pi, ci, rfl⟩ := hI.shape
  obtain ⟨po, co, rfl⟩ := hO.shape
  have n1 : ((n : Int) == 1) = false := by simp; omega
  have a1 : decide (hi ≤ lo) = false := by simp; omega
  have h1' := h1 _ _ hI hO
  clear h1 hx hy hI hO
  go_enter Tryd.func54, Tryd.ntmps54
  go_wp2_with fail
  refine hS.mono ?_
  rintro r w1 ⟨rfl, hw⟩
  subst hw
  clear hS
  go_wp2_with fail
  refine h1'.mono ?_
  rintro r w2 ⟨p2, c2, q2, d2, r2, g2, rfl, k2, i2, o2, hb2⟩
  clear h1'
  have h2' := h2 w2 _ _ i2 o2
  clear h2 i2 o2
  go_wp2_with fail
  refine h2'.mono ?_
  rintro r w3 ⟨p3, c3, q3, d3, r3, g3, rfl, k3, i3, o3, hb3⟩
  clear h2'
  have hpa := PA.two w3 _ _ _ _ (k2.later hb3) k3
  have h3' := h3 _ _ hpa
  have hb03 := hb2.trans (hb3.mono hb2.size)
  have hbA := hb03.alloc hb03.size (.cells #[.slice p2 RA.length c2, .slice p3 RB.length c3] 39)
  have bA := (Below.refl w3.heap.size w3).alloc (Nat.le_refl _) (.cells #[.slice p2 RA.length c2, .slice p3 RB.length c3] 39)
  have i3' := i3.later bA
  have o3' := o3.later bA
  clear h3 hpa k2 k3 i3 o3 hb2 hb3 hb03 bA
  go_wp2_with fail
  refine h3'.mono ?_
  rintro r w4 ⟨p4, c4, rfl, k4, hb4⟩
  clear h3'
  have i4 := i3'.later hb4
  have o4 := o3'.later hb4
  have hb04 := hbA.trans (hb4.mono hbA.size)
  clear i3' o3' hb4 hbA
  go_wp2
  go_ret3
  exact ⟨_, _, _, _, _, _, rfl, k4, i4, o4, hb04⟩

theorem drop_consK {ls : List (List UInt8)} {i : Nat} (h : i < ls.length) : ls.drop i = ls.getD i [] :: ls.drop (i + 1) := by
  rw [List.drop_eq_getElem_cons h, List.getD_eq_getElem?_getD, List.getElem?_eq_getElem h, Option.getD_some]

theorem folded_any (size : Int) (lo hi : Nat) (ins outs : List (List UInt8)) (hhi : hi = lo + ins.length) (hhb : hi ≤ 1048576) : ∀ (f b e s : Nat) (x y : Int) (iv ov : Value) (w : World), b < e → e ≤ 1048576 → e - b ≤ 2 ^ f → s + (wo lo hi f b e).length ≤ outs.length →
    max 0 (min x ((e - b : Nat) : Int)) = (cl lo b e : Int) → max 0 (min y ((e - b : Nat) : Int)) = (cl hi b e : Int) → PA w iv (ins.drop (min b hi - lo)) → PA w ov (outs.drop s) →
    Calls Tryd.prog 54 #[.int .i64 size, .int .i64 ((e - b : Nat) : Int), .int .i64 x, .int .i64 y, iv, ov] w (FSaid w (ovF size (knF lo hi ins outs) f b e s).1 (ins.drop (min e hi - lo)) (outs.drop (s + (wo lo hi f b e).length))) := by
  have apart : ∀ (f b e s : Nat) (x y : Int) (iv ov : Value) (w : World), b < e → e ≤ 1048576 → (lo = hi ∨ e ≤ lo ∨ hi ≤ b) → s + (wo lo hi f b e).length ≤ outs.length →
      max 0 (min x ((e - b : Nat) : Int)) = (cl lo b e : Int) → max 0 (min y ((e - b : Nat) : Int)) = (cl hi b e : Int) → PA w iv (ins.drop (min b hi - lo)) → PA w ov (outs.drop s) →
      Calls Tryd.prog 54 #[.int .i64 size, .int .i64 ((e - b : Nat) : Int), .int .i64 x, .int .i64 y, iv, ov] w (FSaid w (ovF size (knF lo hi ins outs) f b e s).1 (ins.drop (min e hi - lo)) (outs.drop (s + (wo lo hi f b e).length))) := by
    intro f b e s x y iv ov w h1 h2 ho hs hx hy hI hO
    rw [wo_apart ho h1] at hs ⊢
    simp only [List.length_cons, List.length_nil] at hs ⊢
    rw [ovF_some (l := outs.getD s []) (by simp [knF, ho])]
    rw [drop_consK (by omega)] at hO
    rw [show min e hi - lo = min b hi - lo by omega]
    exact folded_out size (e - b) (cl lo b e) (cl hi b e) x y iv ov _ _ _ w hx hy (by unfold cl; omega) hI hO
  have inner : ∀ (f b s : Nat) (x y : Int) (iv ov : Value) (w : World), ¬ (lo = hi ∨ b + 1 ≤ lo ∨ hi ≤ b) →
      max 0 (min x ((b + 1 - b : Nat) : Int)) = (cl lo b (b + 1) : Int) → max 0 (min y ((b + 1 - b : Nat) : Int)) = (cl hi b (b + 1) : Int) → PA w iv (ins.drop (min b hi - lo)) → PA w ov (outs.drop s) →
      Calls Tryd.prog 54 #[.int .i64 size, .int .i64 ((b + 1 - b : Nat) : Int), .int .i64 x, .int .i64 y, iv, ov] w (FSaid w (ovF size (knF lo hi ins outs) f b (b + 1) s).1 (ins.drop (min (b + 1) hi - lo)) (outs.drop (s + (wo lo hi f b (b + 1)).length))) := by
    intro f b s x y iv ov w ho hx hy hI hO
    rw [wo_in ⟨by omega, by omega⟩, List.length_nil, Nat.add_zero]
    rw [ovF_some (l := ins.getD (b - lo) []) (by simp only [knF, if_neg ho]; rw [if_pos (by omega)])]
    have e1 : min b hi - lo = b - lo := by omega
    have e2 : min (b + 1) hi - lo = b - lo + 1 := by omega
    rw [e1, drop_consK (by omega)] at hI
    rw [e2]
    have c1 : cl lo b (b + 1) = 0 := by unfold cl; omega
    have c2 : cl hi b (b + 1) = 1 := by unfold cl; omega
    have e3 : b + 1 - b = 1 := by omega
    rw [c1, e3] at hx
    rw [c2, e3] at hy
    rw [e3]
    exact folded_one size x y iv ov _ _ _ w hx hy hI hO
  intro f
  induction f with
  | zero =>
    intro b e s x y iv ov w h1 h2 hf hs hx hy hI hO
    by_cases ho : lo = hi ∨ e ≤ lo ∨ hi ≤ b
    · exact apart 0 b e s x y iv ov w h1 h2 ho hs hx hy hI hO
    · simp at hf
      obtain rfl : e = b + 1 := by omega
      exact inner 0 b s x y iv ov w ho hx hy hI hO
  | succ f ih =>
    intro b e s x y iv ov w h1 h2 hf hs hx hy hI hO
    by_cases ho : lo = hi ∨ e ≤ lo ∨ hi ≤ b
    · exact apart (f + 1) b e s x y iv ov w h1 h2 ho hs hx hy hI hO
    · by_cases h1e : e ≤ b + 1
      · obtain rfl : e = b + 1 := by omega
        exact inner (f + 1) b s x y iv ov w ho hx hy hI hO
      · have hn : 2 ≤ e - b := by omega
        obtain ⟨q1, q2, q3⟩ := half_bounds hn (by omega)
        obtain ⟨r1, r2⟩ := half_le hn (by omega) hf
        have hk : knF lo hi ins outs s b e = (none, s) := by simp only [knF, if_neg ho, if_neg h1e]
        have hsp := wo_split (f := f) ho hn (by omega)
        have c1 := cl_one lo b e (b + half (e - b)) (by omega) (by omega)
        have c2 := cl_one hi b e (b + half (e - b)) (by omega) (by omega)
        have c3 := cl_two lo b e (b + half (e - b)) (by omega) (by omega)
        have c4 := cl_two hi b e (b + half (e - b)) (by omega) (by omega)
        have hlt : cl lo b e < cl hi b e := by unfold cl; omega
        have hle := cl_le hi b e
        rw [ovF_none (by rw [hk]), hk, hsp, List.length_append, ← Nat.add_assoc]
        rw [hsp, List.length_append] at hs
        have hnx := ovF_next size lo hi ins outs f b (b + half (e - b)) s (by omega) (by omega) (by omega)
        have em : (b + half (e - b) - b) = half (e - b) := by omega
        have en : e - (b + half (e - b)) = e - b - half (e - b) := by omega
        have i1 := ih b (b + half (e - b)) s (cl lo b e : Int) (cl hi b e : Int)
        have i2 := ih (b + half (e - b)) e (s + (wo lo hi f b (b + half (e - b))).length) ((cl lo b e : Int) - (half (e - b) : Int)) ((cl hi b e : Int) - (half (e - b) : Int))
        rw [em] at i1
        rw [en] at i2
        rw [hnx]
        refine folded_fork size (e - b) (cl lo b e) (cl hi b e) (half (e - b)) x y iv ov (ovF size (knF lo hi ins outs) f b (b + half (e - b)) s).1 (ovF size (knF lo hi ins outs) f (b + half (e - b)) e (s + (wo lo hi f b (b + half (e - b))).length)).1 _ _ _ (ins.drop (min (b + half (e - b)) hi - lo)) (outs.drop (s + (wo lo hi f b (b + half (e - b))).length)) _ _ w hx hy hlt hn (by omega) q2 hle hI hO (rsplit2_any _ w hn (by omega)) ?_ ?_ ?_
        · intro u v hu hv
          exact i1 u v w (by omega) (by omega) (by omega) (by omega) (by unfold cl; omega) (by unfold cl; omega) hu hv
        · intro W u v hu hv
          have := i2 u v W (by omega) h2 (by omega) (by omega) (by unfold cl; omega) (by unfold cl; omega) hu hv
          rwa [show ((e - b - half (e - b) : Nat) : Int) = ((e - b : Nat) : Int) - (half (e - b) : Int) by omega] at this
        · intro W v hv
          exact rhash_to size 4 v _ W (by simp) (by decide) hv

end Go.Proofs.YtggficgmjbgmpaaDoor

namespace Go.Proofs.YtggficgmjbgmpaaDoor
open Go.RowKit

theorem fix4_len (l : List UInt8) : (fix4 l).length = 4 := by
  unfold fix4 zero4
  simp
  omega

theorem cut4 : cutLen 4 = 4 := by unfold cutLen; omega

theorem hashF_4 (tag : Nat) (ls : List (List UInt8)) (h : ∀ p ∈ ls, p.length ≤ 65535) : (hashF 4 tag ls).length = 4 := by
  unfold hashF
  rw [if_pos h, List.length_take, sha_length, cut4]
  rfl

theorem rtF_4 : ∀ (f : Nat) (ls : List (List UInt8)), ls ≠ [] → ls.length ≤ 4611686018427387904 → (∀ l ∈ ls, l.length = 4) → (rtF 4 f ls).length = 4 := by
  have one : ∀ ls : List (List UInt8), ls ≠ [] → (∀ l ∈ ls, l.length = 4) → (ls.headD []).length = 4 := by
    intro ls hn h
    cases ls with
    | nil => exact absurd rfl hn
    | cons x r => exact h x (by simp)
  intro f
  induction f with
  | zero => intro ls hn _ h; exact one ls hn h
  | succ f ih =>
    intro ls hn hb h
    by_cases hc : ls.length ≤ 1
    · rw [rtF_one 4 _ hc]; exact one ls hn h
    · have h2 : 2 ≤ ls.length := by omega
      obtain ⟨q1, q2, q3⟩ := half_bounds h2 hb
      rw [rtF_more 4 f h2]
      refine hashF_4 4 _ ?_
      intro p hp
      simp only [List.mem_cons, List.not_mem_nil, or_false] at hp
      rcases hp with rfl | rfl
      · rw [ih _ (fun e => by have := congrArg List.length e; rw [List.length_take, List.length_nil] at this; omega) (by simp; omega) (fun l hl => h l (List.mem_of_mem_take hl))]
        omega
      · rw [ih _ (fun e => by have := congrArg List.length e; simp at this; omega) (by simp; omega) (fun l hl => h l (List.mem_of_mem_drop hl))]
        omega

theorem rootF_4 (ls : List (List UInt8)) (hb : ls.length ≤ 140737488355328) (h : ∀ l ∈ ls, l.length = 4) : (rootF 4 ls).length = 4 := by
  by_cases hn : ls = []
  · subst hn
    unfold rootF
    rw [if_pos rfl]
    exact hashF_4 0 _ (by simp)
  · rw [rootF_rt 4 47 ls hn hb (by omega)]
    exact rtF_4 47 ls hn (by omega) h

/-- What is folded of a part is the part's root. -/
theorem ovF_show (size : Int) (ls : List (List UInt8)) (lo hi : Nat) (outs : List (List UInt8)) (hh : hi ≤ ls.length) (hb : ls.length ≤ 140737488355328) : ∀ (f b e s : Nat), b < e → e ≤ ls.length → e - b ≤ 2 ^ f →
    (∀ i q, (wo lo hi f b e)[i]? = some q → outs[s + i]? = some (partF size ls q)) → (ovF size (knF lo hi (seg ls lo hi) outs) f b e s).1 = rtF size f (seg ls b e) := by
  have apart : ∀ (f b e s : Nat), b < e → e ≤ ls.length → e - b ≤ 2 ^ f → (∀ i q, (wo lo hi f b e)[i]? = some q → outs[s + i]? = some (partF size ls q)) → (lo = hi ∨ e ≤ lo ∨ hi ≤ b) → (ovF size (knF lo hi (seg ls lo hi) outs) f b e s).1 = rtF size f (seg ls b e) := by
    intro f b e s h1 h2 h3 h4 ho
    rw [ovF_some (l := outs.getD s []) (by simp [knF, ho])]
    rw [wo_apart ho h1] at h4
    have := h4 0 (b, e) rfl
    rw [Nat.add_zero] at this
    show outs.getD s [] = _
    rw [List.getD_eq_getElem?_getD, this, Option.getD_some]
    have hl := seg_length (b := b) h2
    exact rootF_rt size f (seg ls b e) (fun e0 => by rw [e0] at hl; simp at hl; omega) (by omega) (by omega)
  have inner : ∀ (f b e s : Nat), b < e → e ≤ ls.length → ¬ (lo = hi ∨ e ≤ lo ∨ hi ≤ b) → e ≤ b + 1 → (ovF size (knF lo hi (seg ls lo hi) outs) f b e s).1 = rtF size f (seg ls b e) := by
    intro f b e s h1 h2 ho h1e
    rw [ovF_some (l := (seg ls lo hi).getD (b - lo) []) (by simp only [knF, if_neg ho, if_pos h1e])]
    rw [rtF_one size f (by rw [seg_length h2]; omega), seg_head h1]
    show (seg ls lo hi).getD (b - lo) [] = ls.getD b []
    unfold seg
    rw [List.getD_eq_getElem?_getD, List.getD_eq_getElem?_getD, List.getElem?_take, if_pos (by omega), List.getElem?_drop, show lo + (b - lo) = b by omega]
  intro f
  induction f with
  | zero =>
    intro b e s h1 h2 h3 h4
    by_cases ho : lo = hi ∨ e ≤ lo ∨ hi ≤ b
    · exact apart 0 b e s h1 h2 h3 h4 ho
    · simp at h3
      exact inner 0 b e s h1 h2 ho (by omega)
  | succ f ih =>
    intro b e s h1 h2 h3 h4
    by_cases ho : lo = hi ∨ e ≤ lo ∨ hi ≤ b
    · exact apart (f + 1) b e s h1 h2 h3 h4 ho
    · by_cases h1e : e ≤ b + 1
      · exact inner (f + 1) b e s h1 h2 ho h1e
      · have hn : 2 ≤ e - b := by omega
        obtain ⟨q1, q2, q3⟩ := half_bounds hn (by omega)
        obtain ⟨r1, r2⟩ := half_le hn (by omega) h3
        have hk : knF lo hi (seg ls lo hi) outs s b e = (none, s) := by simp only [knF, if_neg ho, if_neg h1e]
        rw [wo_split ho hn (by omega)] at h4
        have i1 := ih b (b + half (e - b)) s (by omega) (by omega) (by omega) (fun i q hq => h4 i q (by
          rw [List.getElem?_append_left (List.getElem?_eq_some_iff.1 hq).1]; exact hq))
        have i2 := ih (b + half (e - b)) e (s + (wo lo hi f b (b + half (e - b))).length) (by omega) h2 (by omega) (fun i q hq => by
          have := h4 ((wo lo hi f b (b + half (e - b))).length + i) q (by rw [List.getElem?_append_right (by omega), Nat.add_sub_cancel_left]; exact hq)
          rw [← Nat.add_assoc] at this
          exact this)
        rw [ovF_none (by rw [hk]), hk]
        show pairF size (ovF size (knF lo hi (seg ls lo hi) outs) f b (b + half (e - b)) s).1 (ovF size (knF lo hi (seg ls lo hi) outs) f (b + half (e - b)) e (ovF size (knF lo hi (seg ls lo hi) outs) f b (b + half (e - b)) s).2).1 = _
        rw [ovF_next size lo hi _ outs f b _ s (by omega) (by omega) (by omega), i1, i2]
        rw [rtF_more size f (by rw [seg_length h2]; exact hn), seg_length h2, seg_take (by omega), seg_drop]

theorem seg_len2 {ls : List (List UInt8)} {b e : Nat} (he : e ≤ ls.length) (hbe : b ≤ e) : (b + (seg ls b e).length : Nat) = e := by
  rw [seg_length he]
  omega

theorem rng_len (size : Int) (ls : List (List UInt8)) (lo hi : Int) (hb : ls.length ≤ 1048576) : (rngF size ls lo hi).length = cntF (ls.length : Int) lo hi := by
  unfold rngF cntF
  by_cases h : 0 ≤ lo ∧ lo ≤ hi ∧ hi ≤ (ls.length : Int) ∧ 0 < ls.length
  · rw [if_pos h, if_pos ⟨by omega, h.1, h.2.1, h.2.2.1, by omega⟩, List.length_map, Int.toNat_natCast]
  · rw [if_neg h, if_neg (fun h' => h ⟨h'.2.1, h'.2.2.1, h'.2.2.2.1, by omega⟩)]
    rfl

theorem allLen_of {ls : List (List UInt8)} (h : ∀ l ∈ ls, l.length = 4) : allLen 4 ls = true := by
  unfold allLen
  rw [List.all_eq_true]
  intro l hl
  simp [h l hl]

theorem back_fold (ls : List (List UInt8)) (lo hi : Nat) (h : ∀ l ∈ ls, l.length = 4) (hb : ls.length ≤ 1048576) (h1 : lo ≤ hi) (h2 : hi ≤ ls.length) : foldR 4 (ls.length : Int) (lo : Int) (seg ls lo hi) (rngF 4 ls (lo : Int) (hi : Int)) = (rootF 4 ls, 0) := by
  have hl := seg_length (b := lo) h2
  have hs := seg_len2 h2 h1
  have hsum : (lo : Int) + ((seg ls lo hi).length : Int) = (hi : Int) := by omega
  have hall : ∀ l ∈ rngF 4 ls (lo : Int) (hi : Int), l.length = 4 := by
    intro l hl
    unfold rngF at hl
    split at hl
    · obtain ⟨q, _, rfl⟩ := List.mem_map.1 hl
      have hle : (seg ls q.1 q.2).length ≤ ls.length := by unfold seg; simp; omega
      exact rootF_4 _ (by omega) fun l hl => h l (seg_mem hl)
    · cases hl
  unfold foldR
  rw [if_pos ⟨by omega, by omega, by omega, by omega, by omega⟩, hsum, if_pos ⟨rng_len 4 ls _ _ hb, allLen_of fun l hl => h l (seg_mem hl), allLen_of hall⟩]
  by_cases hc : ((seg ls lo hi).length : Int) = (ls.length : Int)
  · rw [if_pos hc]
    obtain rfl : lo = 0 := by omega
    obtain rfl : hi = ls.length := by omega
    rw [seg_all]
  · rw [if_neg hc]
    have h0 : 0 < ls.length := by omega
    have e : fldF 4 ((ls.length : Int)).toNat ((lo : Int)).toNat (((lo : Int)).toNat + (seg ls lo hi).length) (seg ls lo hi) (rngF 4 ls (lo : Int) (hi : Int)) = rootF 4 ls := by
      simp only [Int.toNat_natCast]
      rw [hs, rootF_rt 4 20 ls (List.length_pos_iff.1 h0) (by omega) (by omega)]
      unfold fldF
      rw [ovF_show 4 ls lo hi _ h2 (by omega) 20 0 ls.length 0 h0 (Nat.le_refl _) (by omega) ?_, seg_all]
      intro i q hq
      unfold rngF
      rw [if_pos ⟨by omega, by omega, by omega, h0⟩]
      simp only [Int.toNat_natCast, Nat.zero_add]
      rw [List.getElem?_map, hq]
      rfl
    rw [e]

theorem back_all (ls : List (List UInt8)) (h : ∀ l ∈ ls, l.length = 4) (hb : ls.length ≤ 1048576) : foldR 4 (ls.length : Int) 0 ls [] = (rootF 4 ls, 0) := by
  have hc : cntF (ls.length : Int) 0 (ls.length : Int) = 0 := by
    unfold cntF
    split
    · rw [wo_in ⟨by omega, by omega⟩]; rfl
    · rfl
  unfold foldR
  rw [if_pos ⟨by omega, by omega, by omega, by omega, by omega⟩, Int.zero_add, hc, if_pos ⟨rfl, allLen_of h, rfl⟩, if_pos rfl]

theorem rng_all (ls : List (List UInt8)) (hb : ls.length ≤ 1048576) : rngF 4 ls 0 (ls.length : Int) = [] := by
  refine List.eq_nil_of_length_eq_zero ?_
  rw [rng_len 4 ls _ _ hb]
  unfold cntF
  split
  · rw [wo_in ⟨by omega, by omega⟩]; rfl
  · rfl

end Go.Proofs.YtggficgmjbgmpaaDoor

namespace Go.Proofs.YtggficgmjbgmpaaDoor
open Go.RowKit

set_option maxRecDepth 100000 in
set_option maxHeartbeats 2000000 in
theorem rfold_arg (size n lo : Int) (iv ov : Value) (ins outs : List (List UInt8)) (w : World) (hi : PA w iv ins) (ho : PA w ov outs) (hlb : ins.length ≤ 140737488355328) (h : ¬ foldOk size n lo ins.length) :
    Calls Tryd.prog 42 #[.int .i64 size, .int .i64 n, .int .i64 lo, iv, ov] w fun x w' => x = .returned (.tuple #[.slice none 0 0, .int .i64 1]) ∧ Below w.heap.size w w' := by
  obtain ⟨p, c, rfl⟩ := hi.shape
  obtain ⟨q, d, rfl⟩ := ho.shape
  unfold foldOk at h
  clear hi ho
  by_cases h1 : lo < 0
  · clear h
    go_enter Tryd.func42, Tryd.ntmps42
    go_wp2
    go_ret2
    exact ⟨rfl, Below.refl _ _⟩
  · have d1 : decide (lo < 0) = false := by simpa using h1
    by_cases h2 : 1048576 < n
    · clear h
      go_enter Tryd.func42, Tryd.ntmps42
      go_wp2
      go_ret2
      exact ⟨rfl, Below.refl _ _⟩
    · have d2 : decide (1048576 < n) = false := by simpa using h2
      by_cases h3 : n < (ins.length : Int)
      · clear h
        go_enter Tryd.func42, Tryd.ntmps42
        go_wp2
        go_ret2
        exact ⟨rfl, Below.refl _ _⟩
      · have d3 : decide (n < (ins.length : Int)) = false := by simpa using h3
        by_cases h4 : n - (ins.length : Int) < lo
        · clear h
          go_enter Tryd.func42, Tryd.ntmps42
          go_wp2
          go_ret2
          exact ⟨rfl, Below.refl _ _⟩
        · have d4 : decide (n - (ins.length : Int) < lo) = false := by simpa using h4
          by_cases h5 : size < 1
          · clear h
            go_enter Tryd.func42, Tryd.ntmps42
            go_wp2
            go_ret2
            exact ⟨rfl, Below.refl _ _⟩
          · have d5 : decide (size < 1) = false := by simpa using h5
            have h6 : 32 < size := by omega
            clear h
            go_enter Tryd.func42, Tryd.ntmps42
            go_wp2
            go_ret2
            exact ⟨rfl, Below.refl _ _⟩

set_option maxRecDepth 100000 in
set_option maxHeartbeats 2000000 in
theorem rfold_cnt (size : Int) (n lo hi C : Nat) (iv ov : Value) (ins outs : List (List UInt8)) (w : World) (hi' : PA w iv ins) (ho' : PA w ov outs) (hhi : lo + ins.length = hi) (h1 : hi ≤ n) (h2 : n ≤ 1048576) (h3 : 1 ≤ size) (h4 : size ≤ 32) (hC : Hid (cntF (n : Int) (lo : Int) (hi : Int) = C)) (hne : ¬ outs.length = C) :
    Calls Tryd.prog 42 #[.int .i64 size, .int .i64 (n : Int), .int .i64 (lo : Int), iv, ov] w fun x w' => x = .returned (.tuple #[.slice none 0 0, .int .i64 5]) ∧ Below w.heap.size w w' := by
  obtain ⟨p, c, rfl⟩ := hi'.shape
  obtain ⟨q, d, rfl⟩ := ho'.shape
  have hCt := fun w => rcount_any (n : Int) (lo : Int) (hi : Int) w
  rw [hC.out] at hCt
  have e1 : (lo : Int) + (ins.length : Int) = (hi : Int) := by omega
  have d1 : decide ((lo : Int) < 0) = false := by simp
  have d2 : decide ((1048576 : Int) < (n : Int)) = false := by simp; omega
  have d3 : decide (n < ins.length) = false := by simp; omega
  have d4 : decide ((n : Int) - (ins.length : Int) < (lo : Int)) = false := by simp; omega
  have d7 : decide (size < 1) = false := by simp; omega
  have d8 : decide (32 < size) = false := by simp; omega
  have d9 : ((outs.length : Int) != (C : Int)) = true := by simp; omega
  clear hhi hC hne hi' ho'
  go_enter Tryd.func42, Tryd.ntmps42
  go_wp2_with fail
  refine (hCt _).mono ?_
  rintro r w1 ⟨rfl, hw⟩
  subst hw
  clear hCt
  go_wp2
  go_ret2
  exact ⟨rfl, Below.refl _ _⟩

/-- What is right of two lists comes to F. -/
def rfR (size : Int) (ins outs : List (List UInt8)) (F : List UInt8) : List UInt8 × Int := if allLen size ins = true ∧ allLen size outs = true then (F, 0) else ([], 5)

theorem allLen_bad {n : Int} {ls : List (List UInt8)} {k : Nat} {l : List UInt8} (hl : ls[k]? = some l) (hn : ¬ (l.length : Int) = n) : ¬ allLen n ls = true := by
  intro h
  unfold allLen at h
  have := (List.all_eq_true.1 h) l (List.mem_of_getElem? hl)
  simp only [decide_eq_true_eq] at this
  exact hn this

theorem allLen_step {n : Int} {ls : List (List UInt8)} {k : Nat} {l : List UInt8} (hl : ls[k]? = some l) (hn : (l.length : Int) = n) (h : allLen n (ls.take k) = true) : allLen n (ls.take (k + 1)) = true := by
  have htk : ls.take (k + 1) = ls.take k ++ [l] := by rw [List.take_add_one, hl]; rfl
  unfold allLen at h ⊢
  rw [htk, List.all_append, h]
  simp [hn]

set_option maxRecDepth 100000 in
set_option maxHeartbeats 4000000 in
theorem rfold_try (size : Int) (n lo hi C : Nat) (iv ov : Value) (ins outs : List (List UInt8)) (F : List UInt8) (w : World) (hi' : PA w iv ins) (ho' : PA w ov outs) (hhi : lo + ins.length = hi) (hb : outs.length ≤ 1048576) (h1 : hi ≤ n) (h2 : n ≤ 1048576) (h3 : 1 ≤ size) (h4 : size ≤ 32) (hC : Hid (cntF (n : Int) (lo : Int) (hi : Int) = C)) (hne : outs.length = C) (hF : allLen size ins = true ∧ allLen size outs = true → F.length ≤ 32)
    (hZ : allLen size ins = true ∧ allLen size outs = true → n = 0 → ∀ W, Calls Tryd.prog 43 #[.int .i64 size, .int .i64 0, .slice none 0 0] W fun x w' => ∃ p c, x = .returned (.slice p F.length c) ∧ HB w' (.slice p F.length c) F ∧ Below W.heap.size W w')
    (hG : allLen size ins = true ∧ allLen size outs = true → 0 < n → ∀ W, Below w.heap.size w W → Calls Tryd.prog 54 #[.int .i64 size, .int .i64 (n : Int), .int .i64 (lo : Int), .int .i64 (hi : Int), iv, ov] W fun x w' => ∃ I O, FSaid W F I O x w') :
    Calls Tryd.prog 42 #[.int .i64 size, .int .i64 (n : Int), .int .i64 (lo : Int), iv, ov] w fun x w' => ∃ p c, x = .returned (.tuple #[.slice p (rfR size ins outs F).1.length c, .int .i64 (rfR size ins outs F).2]) ∧ HB w' (.slice p (rfR size ins outs F).1.length c) (rfR size ins outs F).1 ∧ Below w.heap.size w w' := by
  obtain ⟨p, c, rfl⟩ := hi'.shape
  obtain ⟨q, d, rfl⟩ := ho'.shape
  have hCt := fun w => rcount_any (n : Int) (lo : Int) (hi : Int) w
  rw [hC.out] at hCt
  have e1 : (lo : Int) + (ins.length : Int) = (hi : Int) := by omega
  have d1 : decide ((lo : Int) < 0) = false := by simp
  have d2 : decide ((1048576 : Int) < (n : Int)) = false := by simp; omega
  have d3 : decide (n < ins.length) = false := by simp; omega
  have d4 : decide ((n : Int) - (ins.length : Int) < (lo : Int)) = false := by simp; omega
  have d7 : decide (size < 1) = false := by simp; omega
  have d8 : decide (32 < size) = false := by simp; omega
  have d9 : ((outs.length : Int) != (C : Int)) = false := by simp; omega
  have hil : ins.length ≤ 1048576 := by omega
  clear hhi hC hne
  have bA := (Below.refl w.heap.size w).alloc (Nat.le_refl _) (.cells #[.slice p ins.length c, .slice q outs.length d] 33)
  have gA := heap_alloc_new w (.cells #[.slice p ins.length c, .slice q outs.length d] 33)
  have pI := hi'.later bA
  have pO := ho'.later bA
  have HR1 : Hid (∀ (k : Nat) (l : List UInt8), ins[k]? = some l → ¬ (l.length : Int) = size → rfR size ins outs F = ([], 5)) := fun k l hl hn => by unfold rfR; rw [if_neg (fun h => allLen_bad hl hn h.1)]
  have HR2 : Hid (∀ (k : Nat) (l : List UInt8), outs[k]? = some l → ¬ (l.length : Int) = size → rfR size ins outs F = ([], 5)) := fun k l hl hn => by unfold rfR; rw [if_neg (fun h => allLen_bad hl hn h.2)]
  have HR3 : Hid (allLen size ins = true → allLen size outs = true → rfR size ins outs F = (F, 0)) := fun a b => by unfold rfR; rw [if_pos ⟨a, b⟩]
  generalize rfR size ins outs F = R at *
  go_enter Tryd.func42, Tryd.ntmps42
  go_wp2_with fail
  refine (hCt _).mono ?_
  rintro r w1 ⟨rfl, hw⟩
  subst hw
  clear hCt
  go_wp2
  have c0 : (w1.alloc (.cells #[.slice p ins.length c, .slice q outs.length d] 33)).cell? ⟨w1.heap.size, 0, none⟩ = some (.slice p ins.length c) := by rw [cell_of_row _ _ _ _ _ _ gA]; rfl
  have c1 : (w1.alloc (.cells #[.slice p ins.length c, .slice q outs.length d] 33)).cell? ⟨w1.heap.size, 1, none⟩ = some (.slice q outs.length d) := by rw [cell_of_row _ _ _ _ _ _ gA]; rfl
  clear gA
  generalize w1.alloc (.cells #[.slice p ins.length c, .slice q outs.length d] 33) = V at *
  go_loop [61] (fun i => ∃ k : Nat, k ≤ 2 ∧ i = .int .i64 (k : Int) ∧ Hid ((1 ≤ k → allLen size ins = true) ∧ (2 ≤ k → allLen size outs = true))) (fun i => 2 - (intOf i).toNat)
  case atStart => exact ⟨0, by omega, rfl, ⟨fun h => by omega, fun h => by omega⟩⟩
  case round =>
    obtain ⟨k, hk, rfl, hH⟩ := hrel
    match k, hk, hH with
    | 0, _, hH =>
      clear hG hZ hF hi' ho'
      go_wp2
      go_loop [67] (fun i => ∃ j : Nat, j ≤ ins.length ∧ i = .int .i64 (j : Int) ∧ Hid (allLen size (ins.take j) = true)) (fun i => ins.length - (intOf i).toNat)
      case atStart => exact ⟨0, Nat.zero_le _, rfl, rfl⟩
      case round =>
        obtain ⟨j, hj, rfl, ha⟩ := hrel
        by_cases hlt : j < ins.length
        · obtain ⟨bl, o, rfl⟩ := pI.addr (by omega)
          obtain ⟨q3, d3', l, hl, hc1, hh⟩ := pI.get j hlt
          have hlt2 : (j : Int) < (ins.length : Int) := by omega
          by_cases hn : (l.length : Int) = size
          · have HA : Hid (allLen size (ins.take (j + 1)) = true) := allLen_step hl hn ha
            have hne2 : ((l.length : Int) != size) = false := by simpa using hn
            clear hh hl ha hn HR1 HR2 HR3 pI pO
            go_wp2
            go_round
            case rel => exact ⟨j + 1, by omega, by go_num, HA.out⟩
            case measure => simp [intOf]; omega
          · have HE : Hid (R = ([], 5)) := HR1.out j l hl hn
            have hne2 : ((l.length : Int) != size) = true := by simpa using hn
            clear hh hl ha hn HR1 HR2 HR3 pI pO
            go_wp2
            go_ret2
            rw [HE.out]
            exact ⟨none, 0, rfl, HB.nil _, bA⟩
        · obtain rfl : j = ins.length := by omega
          have HA := ha.out
          rw [List.take_length] at HA
          have HA' : Hid (allLen size ins = true) := HA
          clear ha HA pI pO
          go_wp2
          go_round
          case rel => exact ⟨1, by omega, by go_num, ⟨fun _ => HA'.out, fun h => by omega⟩⟩
          case measure => simp [intOf]
    | 1, _, hH =>
      clear hG hZ hF hi' ho'
      have h1H : Hid (allLen size ins = true) := hH.out.1 (by omega)
      clear hH
      go_wp2
      go_loop [67] (fun i => ∃ j : Nat, j ≤ outs.length ∧ i = .int .i64 (j : Int) ∧ Hid (allLen size (outs.take j) = true)) (fun i => outs.length - (intOf i).toNat)
      case atStart => exact ⟨0, Nat.zero_le _, rfl, rfl⟩
      case round =>
        obtain ⟨j, hj, rfl, ha⟩ := hrel
        by_cases hlt : j < outs.length
        · obtain ⟨bl, o, rfl⟩ := pO.addr (by omega)
          obtain ⟨q3, d3', l, hl, hc1, hh⟩ := pO.get j hlt
          have hlt2 : (j : Int) < (outs.length : Int) := by omega
          by_cases hn : (l.length : Int) = size
          · have HA : Hid (allLen size (outs.take (j + 1)) = true) := allLen_step hl hn ha
            have hne2 : ((l.length : Int) != size) = false := by simpa using hn
            clear hh hl ha hn HR1 HR2 HR3 pI pO
            go_wp2
            go_round
            case rel => exact ⟨j + 1, by omega, by go_num, HA.out⟩
            case measure => simp [intOf]; omega
          · have HE : Hid (R = ([], 5)) := HR2.out j l hl hn
            have hne2 : ((l.length : Int) != size) = true := by simpa using hn
            clear hh hl ha hn HR1 HR2 HR3 pI pO
            go_wp2
            go_ret2
            rw [HE.out]
            exact ⟨none, 0, rfl, HB.nil _, bA⟩
        · obtain rfl : j = outs.length := by omega
          have HA := ha.out
          rw [List.take_length] at HA
          have HA' : Hid (allLen size outs = true) := HA
          clear ha HA pI pO
          go_wp2
          go_round
          case rel => exact ⟨2, by omega, by go_num, ⟨fun _ => h1H.out, fun _ => HA'.out⟩⟩
          case measure => simp [intOf]
    | 2, _, hH =>
      have hAA : allLen size ins = true ∧ allLen size outs = true := ⟨hH.out.1 (by omega), hH.out.2 (by omega)⟩
      have HE : Hid (R = (F, 0)) := HR3.out hAA.1 hAA.2
      have hF := hF hAA
      have hZ := hZ hAA
      have hG := hG hAA
      clear hAA
      clear hH HR1 HR2 HR3 pI pO c0 c1 hi' ho'
      by_cases hz : n = 0
      · have hZ' := hZ hz V
        have nz : ((n : Int) == 0) = true := by simp; omega
        clear hZ hG hz
        go_wp2_with fail
        refine hZ'.mono ?_
        rintro r w2 ⟨p2, c2, rfl, k2, hb2⟩
        have hb := bA.trans (hb2.mono bA.size)
        clear hZ' hb2
        go_wp2
        go_ret2
        rw [HE.out]
        exact ⟨p2, c2, rfl, k2, hb⟩
      · have hG' := hG (by omega) V bA
        have nz : ((n : Int) == 0) = false := by simp; omega
        clear hZ hG hz
        go_wp2_with fail
        refine hG'.mono ?_
        rintro r w2 ⟨I, O, p2, c2, q2, d2', r2, g2, rfl, k2, i2, o2, hb2⟩
        have hb := bA.trans (hb2.mono bA.size)
        have bB := (Below.refl w2.heap.size w2).alloc (Nat.le_refl _) (.cells #[] 5)
        have k3 := k2.later bB
        clear hG' hb2 i2 o2 k2
        go_wp2_with (at_builtin; refine wpList_append_hb rfl (.tmp 95) (.tmp 96) 39 rfl w2.heap.size 5 Tryd.underlying39 i_u8 _ 0 [] rfl (World.ownsRow_made w2 #[] 0 (Nat.le_refl _) (Nat.zero_le _) rfl) _ _ _ F rfl k3 ?qa ?qb ?_)
        case qa => omega
        case qb => simp
        intro v3 w3 hown3 hgrow3
        have hb3 : Below w2.heap.size w2 w3 := ((Below.refl _ w2).alloc (Nat.le_refl _) _).grown hgrow3 (by simp) (by intro k hk; cases hk; exact Nat.le_refl _)
        have ho : w3.ownsRow w2.heap.size 5 1 v3 F.length (bcs F) := by simpa using hown3
        have hh := HB.of_owns ho
        obtain ⟨p1, c1, hv⟩ := hh.shape
        rw [hv] at hh ⊢
        have hb4 := hb.trans (hb3.mono hb.size)
        clear hv hown3 hgrow3 ho k3 bB hb hb3
        go_wp2
        go_ret2
        rw [HE.out]
        exact ⟨_, _, rfl, hh, hb4⟩

theorem rfold_any (size n lo : Int) (iv ov : Value) (ins outs : List (List UInt8)) (w : World) (hi : PA w iv ins) (ho : PA w ov outs) (hlb : ins.length ≤ 140737488355328) (hb : outs.length ≤ 1048576) :
    Calls Tryd.prog 42 #[.int .i64 size, .int .i64 n, .int .i64 lo, iv, ov] w fun x w' => ∃ p c, x = .returned (.tuple #[.slice p (foldR size n lo ins outs).1.length c, .int .i64 (foldR size n lo ins outs).2]) ∧ HB w' (.slice p (foldR size n lo ins outs).1.length c) (foldR size n lo ins outs).1 ∧ Below w.heap.size w w' := by
  unfold foldR
  by_cases h : 0 ≤ lo ∧ lo + (ins.length : Int) ≤ n ∧ n ≤ 1048576 ∧ 1 ≤ size ∧ size ≤ 32
  · rw [if_pos h]
    obtain ⟨h1, h2, h3, h4, h5⟩ := h
    obtain ⟨N, rfl⟩ : ∃ N : Nat, n = (N : Int) := ⟨n.toNat, by omega⟩
    obtain ⟨A, rfl⟩ : ∃ A : Nat, lo = (A : Int) := ⟨lo.toNat, by omega⟩
    simp only [Int.toNat_natCast]
    have eB : (A : Int) + (ins.length : Int) = ((A + ins.length : Nat) : Int) := by omega
    rw [eB]
    obtain ⟨C, hC⟩ : ∃ C, cntF (N : Int) (A : Int) ((A + ins.length : Nat) : Int) = C := ⟨_, rfl⟩
    rw [hC]
    by_cases q1 : outs.length = C
    · by_cases q23 : allLen size ins = true ∧ allLen size outs = true
      · rw [if_pos ⟨q1, q23.1, q23.2⟩]
        have key : ∀ F : List UInt8, F.length ≤ 32 → (N = 0 → F = hashF size 0 []) → (0 < N → F = fldF size N A (A + ins.length) ins outs) → Calls Tryd.prog 42 #[.int .i64 size, .int .i64 (N : Int), .int .i64 (A : Int), iv, ov] w fun x w' => ∃ p c, x = .returned (.tuple #[.slice p F.length c, .int .i64 0]) ∧ HB w' (.slice p F.length c) F ∧ Below w.heap.size w w' := by
          intro F hF hz hp
          have := rfold_try size N A (A + ins.length) C iv ov ins outs F w hi ho rfl hb (by omega) (by omega) h4 h5 hC q1 (fun _ => hF)
            (fun _ h0 W => by rw [hz h0]; exact rhash_to size 0 (.slice none 0 0) [] W (by simp) (by decide) (PA.nil _))
            (fun _ h0 W hW => by
              have hcn : outs.length = (wo A (A + ins.length) 20 0 N).length := by
                rw [q1, ← hC]
                unfold cntF
                rw [if_pos (by omega)]
                simp only [Int.toNat_natCast]
              rw [hp h0]
              have f1 := folded_any size A (A + ins.length) ins outs rfl (by omega) 20 0 N 0 (A : Int) ((A + ins.length : Nat) : Int) iv ov W h0 (by omega) (by omega) (by omega) (by unfold cl; omega) (by unfold cl; omega) (by simpa using hi.later hW) (by simpa using ho.later hW)
              rw [Nat.sub_zero] at f1
              exact f1.mono fun x w' hx => ⟨_, _, hx⟩)
          have e : rfR size ins outs F = (F, 0) := by unfold rfR; rw [if_pos q23]
          rwa [e] at this
        by_cases q4 : (ins.length : Int) = (N : Int)
        · rw [if_pos q4]
          have hA0 : A = 0 := by omega
          have hlen : (rootF size ins).length ≤ 32 := rootF_len size 32 (Nat.le_refl _) ins hlb fun l hl => by
            have := q23.1
            unfold allLen at this
            have := (List.all_eq_true.1 this) l hl
            simp only [decide_eq_true_eq] at this
            omega
          refine key _ hlen (fun h0 => ?_) (fun h0 => ?_)
          · have : ins = [] := List.eq_nil_of_length_eq_zero (by omega)
            rw [this]
            simp [rootF]
          · subst hA0
            have hN : N = ins.length := by omega
            subst hN
            rw [Nat.zero_add]
            unfold fldF
            have e2 := ovF_show size ins 0 ins.length outs (Nat.le_refl _) hlb 20 0 ins.length 0 h0 (Nat.le_refl _) (by omega) (fun i q hq => by rw [wo_in ⟨by omega, by omega⟩] at hq; simp at hq)
            rw [seg_all] at e2
            rw [e2]
            exact rootF_rt size 20 ins (List.length_pos_iff.1 h0) hlb (by omega)
        · rw [if_neg q4]
          exact key _ (Nat.le_trans (ovF_len size 32 (Nat.le_refl _) _ (fun s b e l h => knF_len q23.1 q23.2 h5 s b e l h) 20 0 N 0) (Nat.le_refl _)) (fun h0 => by omega) (fun _ => rfl)
      · rw [if_neg (fun h => q23 ⟨h.2.1, h.2.2⟩)]
        have := rfold_try size N A (A + ins.length) C iv ov ins outs (hashF size 0 []) w hi ho rfl hb (by omega) (by omega) h4 h5 hC q1 (fun h => absurd h q23) (fun h => absurd h q23) (fun h => absurd h q23)
        have e : ∀ F, rfR size ins outs F = ([], 5) := fun F => by unfold rfR; rw [if_neg q23]
        rwa [e] at this
    · rw [if_neg (fun h => q1 h.1)]
      exact (rfold_cnt size N A (A + ins.length) C iv ov ins outs w hi ho rfl (by omega) (by omega) h4 h5 hC q1).mono fun x w' ⟨a, b⟩ => ⟨none, 0, a, HB.nil _, b⟩
  · rw [if_neg h]
    exact (rfold_arg size n lo iv ov ins outs w hi ho hlb h).mono fun x w' ⟨a, b⟩ => ⟨none, 0, a, HB.nil _, b⟩

end Go.Proofs.YtggficgmjbgmpaaDoor
