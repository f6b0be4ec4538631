/- What this text proves: the walk of slices.Clone at rows of bytes, and of skip.copied, over this program: a record in memory of its own. -/
import Derived.Test.YtgfddabccjfhiabDoorJFv
import Derived.Test.YtgfddabccjfhiabDoorJTk
import Derived.Test.YtgfddabccjfhiabDoorJCl
namespace Go.Proofs.YtgfddabccjfhiabDoor
open Go.RowKit

/-- What the clone of rows answers. -/
def RcSaid (ls : List (List UInt8)) (w0 w : World) (x : Ending) (w' : World) : Prop := ∃ v' vs, x = .returned v' ∧ vs.length = ls.length ∧ w'.ownsRow w.heap.size 30 1 v' ls.length vs ∧ (∀ (j : Nat) u l, vs[j]? = some u → ls[j]? = some l → HB w0 u l) ∧ Below w.heap.size w w'

set_option maxRecDepth 100000 in
set_option maxHeartbeats 1000000 in
theorem rowsClone_any (v : Value) (ls : List (List UInt8)) (w0 w : World) (h : PA w0 v ls) (hB : Below w0.heap.size w0 w) (hbig : ls.length ≤ 1000) :
    Calls Tryd.prog 34 #[v] w (RcSaid ls w0 w) := by
  have q22 : ∀ (w : World) (a : Option Addr) (n c n' c' : Nat), (binOp .eql 31 (.slice a n c) (.slice none n' c')).run Tryd.prog w = .ok (.bool a.isNone) w := fun w a n c n' c' => Lib.run_eql_slice_nil w _ _ a n c n' c' Tryd.underlying31
  obtain ⟨p, cap, vs, rfl, h1, h2, h3, h4, h5, h6⟩ := h
  obtain ⟨i0, hi, hz0, hz1, hz2⟩ := info_parts i_bytes
  cases p with
  | none =>
    have hc := h3 rfl
    subst hc
    have e : ls = [] := List.eq_nil_of_length_eq_zero (by omega)
    subst e
    have ev : vs = [] := List.eq_nil_of_length_eq_zero (by simpa using h4)
    subst ev
    go_enter Tryd.func34, Tryd.ntmps34
    go_wp2
    go_ret
    exact ⟨_, [], rfl, rfl, World.ownsRow_nil _ _ _ _, fun j u l h => by simp at h, Below.refl _ _⟩
  | some a =>
    have b0 := (Below.refl w.heap.size w).alloc (Nat.le_refl _) (.cells #[] 30)
    have hnews : ∀ j u, vs[j]? = some u → (w.alloc (.cells #[] 30)).cell? (a.add j) = some u := by
      intro j u hu
      have hj : j < vs.length := (List.getElem?_eq_some_iff.1 hu).1
      obtain ⟨b, o, e, hc⟩ := h5 (fun e => by subst e; rw [List.length_nil] at h4; omega)
      simp only [Option.some.injEq] at e
      subst e
      rw [add_lit]
      exact cell_later b0 (cell_later hB (hc j u hu))
    have hone : ∀ u ∈ vs, u.oneCell' = true := by
      intro u hu
      obtain ⟨j, hj, rfl⟩ := List.mem_iff_getElem.1 hu
      obtain ⟨p', c', e⟩ := (h6 j vs[j] ls[j] (List.getElem?_eq_getElem hj) (List.getElem?_eq_getElem (by omega))).shape
      rw [e]
      rfl
    have hmade := World.ownsRow_made (e := 30) (size := 1) (base := w.heap.size) w #[] 0 (Nat.le_refl _) (Nat.zero_le _) rfl
    go_enter Tryd.func34, Tryd.ntmps34
    go_wp2_with (first | (at_builtin; refine wpList_append_own _ rfl (.tmp 5) (.tmp 6) 31 rfl w.heap.size 30 i0 _ 1 24 Tryd.underlying31 hi hz0 hz1 hz2 rfl (by decide) _ 0 [] rfl hmade a ls.length cap vs rfl ?ra hnews hone ?rc ?rd ?re ?_))
    case ra => omega
    case rc => unfold maxLen; omega
    case rd => omega
    case re => simp
    intro v3 w3 hown3 hgrow3 _
    have hb3 : Below w.heap.size w w3 := b0.grown hgrow3 (by simp) (by intro k hk; cases hk; exact Nat.le_refl _)
    have hown4 : w3.ownsRow w.heap.size 30 1 v3 ls.length vs := by simpa using hown3
    clear hown3 hgrow3 hnews hone hmade
    go_wp2
    go_ret
    exact ⟨_, vs, rfl, h4, hown4, h6, hb3⟩

/-- A row under way: from text k on it is as it came in, ahead of it in memory of its own. -/
def RL (w0 w : World) (g gR n k : Nat) (ls : List (List UInt8)) : Prop :=
  ∃ cs : Array Value, w.heap[gR]? = some (.cells cs 30 (0, 0)) ∧ n ≤ cs.size ∧ ∀ (j : Nat) u l, j < n → cs[j]? = some u → ls[j]? = some l → (k ≤ j ∧ HB w0 u l) ∨ HBN w g u l

theorem RL.tk {T : TypeId} {w0 w w' : World} {g gR n k : Nat} {ls : List (List UInt8)} (h : RL w0 w g gR n k ls) (t : TK T w w') (hT : 5 ≠ T) (hB : 30 ≠ T) : RL w0 w' g gR n k ls := by
  obtain ⟨cs, h1, h2, h3⟩ := h
  exact ⟨cs, t _ _ _ _ h1 hB, h2, fun j u l hj hu hl => (h3 j u l hj hu hl).imp id fun q => q.tk t hT⟩

theorem RL.get {w0 w : World} {g gR n i : Nat} {ls : List (List UInt8)} (h : RL w0 w g gR n i ls) (hb : Below w0.heap.size w0 w) (hn : n = ls.length) (k : Nat) (hk : k < n) : ∃ q d l, Hid (ls[k]? = some l) ∧ w.cell? ⟨gR, k, none⟩ = some (.slice q l.length d) ∧ HB w (.slice q l.length d) l ∧ w.frozen? ⟨gR, k, none⟩ = false := by
  obtain ⟨cs, h1, h2, h3⟩ := h
  have hc : cs[k]? = some cs[k] := by simp [show k < cs.size by omega]
  have hl : ls[k]? = some (ls[k]'(by omega)) := List.getElem?_eq_getElem (by omega)
  have hh : HB w cs[k] (ls[k]'(by omega)) := by
    rcases h3 k _ _ hk hc hl with q | q
    · exact q.2.later hb
    · exact q.1
  obtain ⟨q, d, e⟩ := hh.shape
  refine ⟨q, d, _, hl, ?_, by rw [← e]; exact hh, by simp [World.frozen?, h1]⟩
  rw [cell_of_row _ _ _ _ _ _ h1, ← e]
  simp [show k < cs.size by omega]

theorem RL.put {w0 w : World} {g gR n k : Nat} {ls : List (List UInt8)} {v : Value} {l : List UInt8} (h : RL w0 w g gR n k ls) (hv : HBN w g v l) (hl : ls[k]? = some l) : TK 30 w (w.setCell ⟨gR, k, none⟩ v) ∧ RL w0 (w.setCell ⟨gR, k, none⟩ v) g gR n (k + 1) ls := by
  obtain ⟨cs, h1, h2, h3⟩ := h
  have ho : Only gR w (w.setCell ⟨gR, k, none⟩ v) := (Only.refl gR w).setCell _ v
  have t : TK 30 w (w.setCell ⟨gR, k, none⟩ v) := TK.of_only ho h1
  refine ⟨t, cs.setIfInBounds k v, by rw [heap_setCell_same w gR _ _ _ _ h1], by simp [h2], fun j u m hj hu hm => ?_⟩
  by_cases hjk : j = k
  · subst hjk
    rw [Array.getElem?_setIfInBounds_self_of_lt (by omega)] at hu
    rw [hl] at hm
    simp only [Option.some.injEq] at hu hm
    subst hu; subst hm
    exact .inr (hv.tk t (by decide))
  · rw [Array.getElem?_setIfInBounds_ne (by omega)] at hu
    exact (h3 j u m hj hu hm).imp (fun q => ⟨by omega, q.2⟩) fun q => q.tk t (by decide)

/-- A row in memory of its own. -/
def KR (w : World) (g : Nat) (v : Value) (ls : List (List UInt8)) : Prop :=
  (v = .slice none 0 0 ∧ ls = []) ∨ ∃ gR c cs, v = .slice (some ⟨gR, 0, none⟩) ls.length c ∧ w.heap[gR]? = some (.cells cs 30 (0, 0)) ∧ ls.length ≤ cs.size ∧ ls.length ≤ c ∧ c ≤ maxLen ∧ ∀ (j : Nat) u l, j < ls.length → cs[j]? = some u → ls[j]? = some l → HBN w g u l

theorem KR.tk {T : TypeId} {w w' : World} {g : Nat} {v : Value} {ls : List (List UInt8)} (h : KR w g v ls) (t : TK T w w') (hT : 5 ≠ T) (hB : 30 ≠ T) : KR w' g v ls := by
  rcases h with h | ⟨gR, c, cs, e, h1, h2, h3, h4, h5⟩
  · exact .inl h
  · exact .inr ⟨gR, c, cs, e, t _ _ _ _ h1 hB, h2, h3, h4, fun j u l hj hu hl => (h5 j u l hj hu hl).tk t hT⟩

theorem KR.pa {w : World} {g : Nat} {v : Value} {ls : List (List UInt8)} (h : KR w g v ls) : PA w v ls := by
  rcases h with ⟨rfl, rfl⟩ | ⟨gR, c, cs, rfl, h1, h2, hc, hm, h3⟩
  · exact PA.nil _
  refine ⟨_, c, cs.toList.take ls.length, rfl, hc, hm, (fun h => by cases h), by simp; omega, fun _ => ⟨gR, 0, rfl, fun i x hx => ?_⟩, fun i x l hx hl => ?_⟩
  · rw [Nat.zero_add, cell_of_row _ _ _ _ _ _ h1]
    rw [List.getElem?_take] at hx
    split at hx
    · simpa using hx
    · cases hx
  · rw [List.getElem?_take] at hx
    split at hx
    · rename_i hi
      exact (h3 i x l hi (by simpa using hx) hl).1
    · cases hx

theorem RL.kr {w0 w : World} {g gR n k c : Nat} {ls : List (List UInt8)} (h : RL w0 w g gR n k ls) (hn : n = ls.length) (hk : ¬ k < n) (hc : n ≤ c) (hm : c ≤ maxLen) : KR w g (.slice (some ⟨gR, 0, none⟩) n c) ls := by
  obtain ⟨cs, h1, h2, h3⟩ := h
  refine .inr ⟨gR, c, cs, by rw [hn], h1, by omega, by omega, hm, fun j u l hj hu hl => ?_⟩
  rcases h3 j u l (by omega) hu hl with q | q
  · omega
  · exact q

end Go.Proofs.YtgfddabccjfhiabDoor
