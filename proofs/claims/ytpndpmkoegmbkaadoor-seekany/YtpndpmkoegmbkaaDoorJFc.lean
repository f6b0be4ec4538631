/- What this text proves: the walk of slices.Clone at rows of bytes, and of skip.copied, over this program: a record in memory of its own. What this text proves: the walk of skip.copied over this program: a record in memory of its own. (By program: held.py, mkcopied.py.) -/
import Derived.Test.YtpndpmkoegmbkaaDoorJFv
import Derived.Test.YtpndpmkoegmbkaaDoorJB2
import Derived.Test.YtpndpmkoegmbkaaDoorRegHeld
namespace Go.Proofs.YtpndpmkoegmbkaaDoor
open Go.RowKit

/-- What the clone of rows answers. -/
def RcSaid (ls : List (List UInt8)) (w0 w : World) (x : Ending) (w' : World) : Prop := ∃ v' vs, x = .returned v' ∧ vs.length = ls.length ∧ w'.ownsRow w.heap.size 22 1 v' ls.length vs ∧ (∀ (j : Nat) u l, vs[j]? = some u → ls[j]? = some l → HB w0 u l) ∧ Below w.heap.size w w'

set_option maxRecDepth 100000 in
set_option maxHeartbeats 1000000 in
theorem rowsClone_any (v : Value) (ls : List (List UInt8)) (w0 w : World) (h : PA w0 v ls) (hB : Below w0.heap.size w0 w) (hbig : ls.length ≤ 1000) :
    Calls Tryd.prog 39 #[v] w (RcSaid ls w0 w) := by
  have q22 : ∀ (w : World) (a : Option Addr) (n c n' c' : Nat), (binOp .eql 23 (.slice a n c) (.slice none n' c')).run Tryd.prog w = .ok (.bool a.isNone) w := fun w a n c n' c' => Lib.run_eql_slice_nil w _ _ a n c n' c' Tryd.underlying23
  obtain ⟨p, cap, vs, rfl, h1, h2, h3, h4, h5, h6⟩ := h
  obtain ⟨i0, hi, hz0, hz1, hz2⟩ := info_parts i_bytes
  cases p with
  | none =>
    have hc := h3 rfl
    subst hc
    have e : ls = [] := List.eq_nil_of_length_eq_zero (by omega)
    subst e
    have ev : vs = [] := List.eq_nil_of_length_eq_zero (by simpa using h4)
    subst ev
    go_enter Tryd.func39, Tryd.ntmps39
    go_wp2
    go_ret
    exact ⟨_, [], rfl, rfl, World.ownsRow_nil _ _ _ _, fun j u l h => by simp at h, Below.refl _ _⟩
  | some a =>
    have b0 := (Below.refl w.heap.size w).alloc (Nat.le_refl _) (.cells #[] 22)
    have hnews : ∀ j u, vs[j]? = some u → (w.alloc (.cells #[] 22)).cell? (a.add j) = some u := by
      intro j u hu
      have hj : j < vs.length := (List.getElem?_eq_some_iff.1 hu).1
      obtain ⟨b, o, e, hc⟩ := h5 (fun e => by subst e; rw [List.length_nil] at h4; omega)
      simp only [Option.some.injEq] at e
      subst e
      rw [add_lit]
      exact cell_later b0 (cell_later hB (hc j u hu))
    have hone : ∀ u ∈ vs, u.oneCell' = true := by
      intro u hu
      obtain ⟨j, hj, rfl⟩ := List.mem_iff_getElem.1 hu
      obtain ⟨p', c', e⟩ := (h6 j vs[j] ls[j] (List.getElem?_eq_getElem hj) (List.getElem?_eq_getElem (by omega))).shape
      rw [e]
      rfl
    have hmade := World.ownsRow_made (e := 22) (size := 1) (base := w.heap.size) w #[] 0 (Nat.le_refl _) (Nat.zero_le _) rfl
    go_enter Tryd.func39, Tryd.ntmps39
    go_wp2_with (first | (at_builtin; refine wpList_append_own _ rfl (.tmp 5) (.tmp 6) 23 rfl w.heap.size 22 i0 _ 1 24 Tryd.underlying23 hi hz0 hz1 hz2 rfl (by decide) _ 0 [] rfl hmade a ls.length cap vs rfl ?ra hnews hone ?rc ?rd ?re ?_))
    case ra => omega
    case rc => unfold maxLen; omega
    case rd => omega
    case re => simp
    intro v3 w3 hown3 hgrow3 _
    have hb3 : Below w.heap.size w w3 := b0.grown hgrow3 (by simp) (by intro k hk; cases hk; exact Nat.le_refl _)
    have hown4 : w3.ownsRow w.heap.size 22 1 v3 ls.length vs := by simpa using hown3
    clear hown3 hgrow3 hnews hone hmade
    go_wp2
    go_ret
    exact ⟨_, vs, rfl, h4, hown4, h6, hb3⟩

/-- A row under way: from text k on it is as it came in, ahead of it in memory of its own. -/
def RL (w0 w : World) (g gR n k : Nat) (ls : List (List UInt8)) : Prop :=
  ∃ cs : Array Value, w.heap[gR]? = some (.cells cs 22 (0, 0)) ∧ n ≤ cs.size ∧ ∀ (j : Nat) u l, j < n → cs[j]? = some u → ls[j]? = some l → (k ≤ j ∧ HB w0 u l) ∨ HBN w g u l

theorem RL.tk {T : TypeId} {w0 w w' : World} {g gR n k : Nat} {ls : List (List UInt8)} (h : RL w0 w g gR n k ls) (t : TK T w w') (hT : 5 ≠ T) (hB : 22 ≠ T) : RL w0 w' g gR n k ls := by
  obtain ⟨cs, h1, h2, h3⟩ := h
  exact ⟨cs, t _ _ _ _ h1 hB, h2, fun j u l hj hu hl => (h3 j u l hj hu hl).imp id fun q => q.tk t hT⟩

theorem RL.get {w0 w : World} {g gR n i : Nat} {ls : List (List UInt8)} (h : RL w0 w g gR n i ls) (hb : Below w0.heap.size w0 w) (hn : n = ls.length) (k : Nat) (hk : k < n) : ∃ q d l, Hid (ls[k]? = some l) ∧ w.cell? ⟨gR, k, none⟩ = some (.slice q l.length d) ∧ HB w (.slice q l.length d) l ∧ w.frozen? ⟨gR, k, none⟩ = false := by
  obtain ⟨cs, h1, h2, h3⟩ := h
  have hc : cs[k]? = some cs[k] := by simp [show k < cs.size by omega]
  have hl : ls[k]? = some (ls[k]'(by omega)) := List.getElem?_eq_getElem (by omega)
  have hh : HB w cs[k] (ls[k]'(by omega)) := by
    rcases h3 k _ _ hk hc hl with q | q
    · exact q.2.later hb
    · exact q.1
  obtain ⟨q, d, e⟩ := hh.shape
  refine ⟨q, d, _, hl, ?_, by rw [← e]; exact hh, by simp [World.frozen?, h1]⟩
  rw [cell_of_row _ _ _ _ _ _ h1, ← e]
  simp [show k < cs.size by omega]

theorem RL.put {w0 w : World} {g gR n k : Nat} {ls : List (List UInt8)} {v : Value} {l : List UInt8} (h : RL w0 w g gR n k ls) (hv : HBN w g v l) (hl : ls[k]? = some l) : TK 22 w (w.setCell ⟨gR, k, none⟩ v) ∧ RL w0 (w.setCell ⟨gR, k, none⟩ v) g gR n (k + 1) ls := by
  obtain ⟨cs, h1, h2, h3⟩ := h
  have ho : Only gR w (w.setCell ⟨gR, k, none⟩ v) := (Only.refl gR w).setCell _ v
  have t : TK 22 w (w.setCell ⟨gR, k, none⟩ v) := TK.of_only ho h1
  refine ⟨t, cs.setIfInBounds k v, by rw [heap_setCell_same w gR _ _ _ _ h1], by simp [h2], fun j u m hj hu hm => ?_⟩
  by_cases hjk : j = k
  · subst hjk
    rw [Array.getElem?_setIfInBounds_self_of_lt (by omega)] at hu
    rw [hl] at hm
    simp only [Option.some.injEq] at hu hm
    subst hu; subst hm
    exact .inr (hv.tk t (by decide))
  · rw [Array.getElem?_setIfInBounds_ne (by omega)] at hu
    exact (h3 j u m hj hu hm).imp (fun q => ⟨by omega, q.2⟩) fun q => q.tk t (by decide)

/-- A row in memory of its own. -/
def KR (w : World) (g : Nat) (v : Value) (ls : List (List UInt8)) : Prop :=
  (v = .slice none 0 0 ∧ ls = []) ∨ ∃ gR c cs, v = .slice (some ⟨gR, 0, none⟩) ls.length c ∧ w.heap[gR]? = some (.cells cs 22 (0, 0)) ∧ ls.length ≤ cs.size ∧ ls.length ≤ c ∧ c ≤ maxLen ∧ ∀ (j : Nat) u l, j < ls.length → cs[j]? = some u → ls[j]? = some l → HBN w g u l

theorem KR.tk {T : TypeId} {w w' : World} {g : Nat} {v : Value} {ls : List (List UInt8)} (h : KR w g v ls) (t : TK T w w') (hT : 5 ≠ T) (hB : 22 ≠ T) : KR w' g v ls := by
  rcases h with h | ⟨gR, c, cs, e, h1, h2, h3, h4, h5⟩
  · exact .inl h
  · exact .inr ⟨gR, c, cs, e, t _ _ _ _ h1 hB, h2, h3, h4, fun j u l hj hu hl => (h5 j u l hj hu hl).tk t hT⟩

theorem KR.pa {w : World} {g : Nat} {v : Value} {ls : List (List UInt8)} (h : KR w g v ls) : PA w v ls := by
  rcases h with ⟨rfl, rfl⟩ | ⟨gR, c, cs, rfl, h1, h2, hc, hm, h3⟩
  · exact PA.nil _
  refine ⟨_, c, cs.toList.take ls.length, rfl, hc, hm, (fun h => by cases h), by simp; omega, fun _ => ⟨gR, 0, rfl, fun i x hx => ?_⟩, fun i x l hx hl => ?_⟩
  · rw [Nat.zero_add, cell_of_row _ _ _ _ _ _ h1]
    rw [List.getElem?_take] at hx
    split at hx
    · simpa using hx
    · cases hx
  · rw [List.getElem?_take] at hx
    split at hx
    · rename_i hi
      exact (h3 i x l hi (by simpa using hx) hl).1
    · cases hx

theorem RL.kr {w0 w : World} {g gR n k c : Nat} {ls : List (List UInt8)} (h : RL w0 w g gR n k ls) (hn : n = ls.length) (hk : ¬ k < n) (hc : n ≤ c) (hm : c ≤ maxLen) : KR w g (.slice (some ⟨gR, 0, none⟩) n c) ls := by
  obtain ⟨cs, h1, h2, h3⟩ := h
  refine .inr ⟨gR, c, cs, by rw [hn], h1, by omega, by omega, hm, fun j u l hj hu hl => ?_⟩
  rcases h3 j u l (by omega) hu hl with q | q
  · omega
  · exact q

end Go.Proofs.YtpndpmkoegmbkaaDoor

namespace Go.Proofs.YtpndpmkoegmbkaaDoor
open Go.RowKit

/-- What copied answers. -/
def CopSaid (r : Rc) (w : World) (x : Ending) (w' : World) : Prop := ∃ tp tc lp lc kp kc, x = .returned (.agg #[.int .i64 r.e, .int .i64 r.t, .slice tp r.tr.length tc, .int .i64 r.c, .slice lp r.li.length lc, .slice kp r.lk.length kc]) ∧ HBN w' w.heap.size (.slice tp r.tr.length tc) r.tr ∧ HBN w' w.heap.size (.slice lp r.li.length lc) r.li ∧ KR w' w.heap.size (.slice kp r.lk.length kc) r.lk ∧ Below w.heap.size w w'

set_option maxRecDepth 100000 in
set_option maxHeartbeats 8000000 in
theorem copied_any (r : Rc) (tv lv kv : Value) (w : World) (h1 : HB w tv r.tr) (h2 : HB w lv r.li) (h3 : PA w kv r.lk) (z1 : r.tr.length ≤ 32) (z2 : r.li.length ≤ 32) (z3 : r.lk.length ≤ 63) (z4 : ∀ x ∈ r.lk, x.length ≤ 32) :
    Calls Tryd.prog 19 #[.agg #[.int .i64 r.e, .int .i64 r.t, tv, .int .i64 r.c, lv, kv]] w (CopSaid r w) := by
  obtain ⟨tp, tc, rfl⟩ := h1.shape
  obtain ⟨lp, lc, rfl⟩ := h2.shape
  obtain ⟨kp, kc, rfl⟩ := h3.shape
  have bA := (Below.refl w.heap.size w).alloc (Nat.le_refl _) (.cells #[.int .i64 r.e, .int .i64 r.t, .slice tp r.tr.length tc, .int .i64 r.c, .slice lp r.li.length lc, .slice kp r.lk.length kc] 25)
  have gA := heap_alloc_new w (.cells #[.int .i64 r.e, .int .i64 r.t, .slice tp r.tr.length tc, .int .i64 r.c, .slice lp r.li.length lc, .slice kp r.lk.length kc] 25)
  have sA : (w.alloc (.cells #[.int .i64 r.e, .int .i64 r.t, .slice tp r.tr.length tc, .int .i64 r.c, .slice lp r.li.length lc, .slice kp r.lk.length kc] 25)).heap.size = w.heap.size + 1 := by simp
  have bB := (Below.refl (w.heap.size + 1) (w.alloc (.cells #[.int .i64 r.e, .int .i64 r.t, .slice tp r.tr.length tc, .int .i64 r.c, .slice lp r.li.length lc, .slice kp r.lk.length kc] 25))).alloc (by simp) (.cells #[.int .i64 0, .int .i64 0, .slice none 0 0, .int .i64 0, .slice none 0 0, .slice none 0 0] 25)
  have gB := heap_alloc_new (w.alloc (.cells #[.int .i64 r.e, .int .i64 r.t, .slice tp r.tr.length tc, .int .i64 r.c, .slice lp r.li.length lc, .slice kp r.lk.length kc] 25)) (.cells #[.int .i64 0, .int .i64 0, .slice none 0 0, .int .i64 0, .slice none 0 0, .slice none 0 0] 25)
  rw [sA] at gB
  have gC := (bB.block w.heap.size (by omega)).trans gA
  obtain ⟨X, hX⟩ : ∃ X, X = (w.alloc (.cells #[.int .i64 r.e, .int .i64 r.t, .slice tp r.tr.length tc, .int .i64 r.c, .slice lp r.li.length lc, .slice kp r.lk.length kc] 25)).alloc (.cells #[.int .i64 0, .int .i64 0, .slice none 0 0, .int .i64 0, .slice none 0 0, .slice none 0 0] 25) := ⟨_, rfl⟩
  rw [← hX] at bB gB gC
  have bX := bA.trans (bB.mono (by omega))
  have g0 : w.heap.size < X.heap.size := (Array.getElem?_eq_some_iff.1 gC).1
  have g1 : w.heap.size + 1 < X.heap.size := (Array.getElem?_eq_some_iff.1 gB).1
  have c2 : X.cell? ⟨w.heap.size, 2, none⟩ = some (.slice tp r.tr.length tc) := by rw [cell_of_row _ _ _ _ _ _ gC]; rfl
  have hC1 := clone_own _ r.tr X (h1.later bX) (by omega)
  clear bA gA sA bB
  go_enter Tryd.func19, Tryd.ntmps19
  go_wp2_with fail
  rw [← hX]
  refine hC1.mono ?_
  rintro x w2 ⟨tp2, tc2, rfl, o2, b2⟩
  have G2 := (b2.block _ g0).trans gC
  have Z2 := (b2.block _ g1).trans gB
  have ht2 := hbn_of_owns o2 G2 (by decide)
  have bw2 := bX.trans (b2.mono bX.size)
  clear hC1 hX o2 b2 c2 gB gC
  have e2 : w2.cell? ⟨w.heap.size, 2, none⟩ = some (.slice tp r.tr.length tc) := by rw [cell_of_row _ _ _ _ _ _ G2]; rfl
  have f2 : w2.frozen? ⟨w.heap.size, 2, none⟩ = false := by simp [World.frozen?, G2]
  have O3 : Only w.heap.size w2 (w2.setCell ⟨w.heap.size, 2, none⟩ (.slice tp2 r.tr.length tc2)) := (Only.refl _ w2).setCell 2 _
  have t3 := TK.of_only O3 G2
  have G3 : (w2.setCell ⟨w.heap.size, 2, none⟩ (.slice tp2 r.tr.length tc2)).heap[w.heap.size]? = some (.cells #[.int .i64 r.e, .int .i64 r.t, .slice tp2 r.tr.length tc2, .int .i64 r.c, .slice lp r.li.length lc, .slice kp r.lk.length kc] 25 (0, 0)) := by rw [heap_setCell_same _ _ 2 _ _ _ G2]; rfl
  have lt2 : w.heap.size + 1 < w2.heap.size := (Array.getElem?_eq_some_iff.1 Z2).1
  have Z3 := (O3.block (w.heap.size + 1) (by omega) lt2).trans Z2
  have ht3 := ht2.tk t3 (by decide)
  have bw3 := bw2.trans (O3.below (Nat.le_refl _))
  have c4 : (w2.setCell ⟨w.heap.size, 2, none⟩ (.slice tp2 r.tr.length tc2)).cell? ⟨w.heap.size, 4, none⟩ = some (.slice lp r.li.length lc) := by rw [cell_of_row _ _ _ _ _ _ G3]; rfl
  have hC2 := clone_own _ r.li _ (h2.later bw3) (by omega)
  clear O3 t3 G2 Z2 ht2 bw2
  go_wp2_with fail
  refine hC2.mono ?_
  rintro x w4 ⟨lp2, lc2, rfl, o4, b4⟩
  have l3 : w.heap.size < (w2.setCell ⟨w.heap.size, 2, none⟩ (.slice tp2 r.tr.length tc2)).heap.size := (Array.getElem?_eq_some_iff.1 G3).1
  have l3' : w.heap.size + 1 < (w2.setCell ⟨w.heap.size, 2, none⟩ (.slice tp2 r.tr.length tc2)).heap.size := (Array.getElem?_eq_some_iff.1 Z3).1
  have G4 := (b4.block _ l3).trans G3
  have Z4 := (b4.block _ l3').trans Z3
  have hi4 := hbn_of_owns o4 G4 (by decide)
  have ht4 := ht3.later b4
  have bw4 := bw3.trans (b4.mono bw3.size)
  clear hC2 o4 b4 c4 e2 f2 G3 Z3 ht3 bw3 l3 l3' lt2
  have f4 : w4.frozen? ⟨w.heap.size, 4, none⟩ = false := by simp [World.frozen?, G4]
  have e4 : w4.cell? ⟨w.heap.size, 4, none⟩ = some (.slice lp r.li.length lc) := by rw [cell_of_row _ _ _ _ _ _ G4]; rfl
  have O5 : Only w.heap.size w4 (w4.setCell ⟨w.heap.size, 4, none⟩ (.slice lp2 r.li.length lc2)) := (Only.refl _ w4).setCell 4 _
  have t5 := TK.of_only O5 G4
  have G5 : (w4.setCell ⟨w.heap.size, 4, none⟩ (.slice lp2 r.li.length lc2)).heap[w.heap.size]? = some (.cells #[.int .i64 r.e, .int .i64 r.t, .slice tp2 r.tr.length tc2, .int .i64 r.c, .slice lp2 r.li.length lc2, .slice kp r.lk.length kc] 25 (0, 0)) := by rw [heap_setCell_same _ _ 4 _ _ _ G4]; rfl
  have lt4 : w.heap.size + 1 < w4.heap.size := (Array.getElem?_eq_some_iff.1 Z4).1
  have Z5 := (O5.block (w.heap.size + 1) (by omega) lt4).trans Z4
  have ht5 := ht4.tk t5 (by decide)
  have hi5 := hi4.tk t5 (by decide)
  have bw5 := bw4.trans (O5.below (Nat.le_refl _))
  have c5 : (w4.setCell ⟨w.heap.size, 4, none⟩ (.slice lp2 r.li.length lc2)).cell? ⟨w.heap.size, 5, none⟩ = some (.slice kp r.lk.length kc) := by rw [cell_of_row _ _ _ _ _ _ G5]; rfl
  have hC3 := rowsClone_any _ r.lk w _ h3 bw5 (by omega)
  clear O5 t5 G4 Z4 ht4 hi4 bw4
  go_wp2_with fail
  refine hC3.mono ?_
  rintro x w6 ⟨kv2, vs, rfl, hvl, o6, hvs, b6⟩
  have l5 : w.heap.size < (w4.setCell ⟨w.heap.size, 4, none⟩ (.slice lp2 r.li.length lc2)).heap.size := (Array.getElem?_eq_some_iff.1 G5).1
  have l5' : w.heap.size + 1 < (w4.setCell ⟨w.heap.size, 4, none⟩ (.slice lp2 r.li.length lc2)).heap.size := (Array.getElem?_eq_some_iff.1 Z5).1
  have l5'' := bw5.size
  have G6 := (b6.block _ l5).trans G5
  have Z6 := (b6.block _ l5').trans Z5
  have ht6 := ht5.later b6
  have hi6 := hi5.later b6
  have bw6 := bw5.trans (b6.mono bw5.size)
  clear hC3 b6 c5 e4 f4 G5 Z5 ht5 hi5 bw5 lt4 l5'
  have e6 : w6.cell? ⟨w.heap.size, 5, none⟩ = some (.slice kp r.lk.length kc) := by rw [cell_of_row _ _ _ _ _ _ G6]; rfl
  have f6 : w6.frozen? ⟨w.heap.size, 5, none⟩ = false := by simp [World.frozen?, G6]
  have O7 : Only w.heap.size w6 (w6.setCell ⟨w.heap.size, 5, none⟩ kv2) := (Only.refl _ w6).setCell 5 _
  have t7 := TK.of_only O7 G6
  have G7 : (w6.setCell ⟨w.heap.size, 5, none⟩ kv2).heap[w.heap.size]? = some (.cells #[.int .i64 r.e, .int .i64 r.t, .slice tp2 r.tr.length tc2, .int .i64 r.c, .slice lp2 r.li.length lc2, kv2] 25 (0, 0)) := by rw [heap_setCell_same _ _ 5 _ _ _ G6]; rfl
  have lt6 : w.heap.size + 1 < w6.heap.size := (Array.getElem?_eq_some_iff.1 Z6).1
  have Z7 := (O7.block (w.heap.size + 1) (by omega) lt6).trans Z6
  have ht7 := ht6.tk t7 (by decide)
  have hi7 := hi6.tk t7 (by decide)
  have bw7 := bw6.trans (O7.below (Nat.le_refl _))
  obtain ⟨hlen6, hq⟩ := owns_tk o6 t7 (by decide)
  clear o6 O7 t7 G6 Z6 ht6 hi6 bw6 lt6 h1 h2 h3 bX g0 g1 hlen6
  rcases hq with ⟨rfl, hn0⟩ | ⟨gR, kc', cur, rfl, hgR', hcur, hk1, hk2, hcs, htk⟩
  · have c7 : (w6.setCell ⟨w.heap.size, 5, none⟩ (.slice none 0 0)).cell? ⟨w.heap.size, 5, none⟩ = some (.slice none 0 0) := by rw [cell_of_row _ _ _ _ _ _ G7]; rfl
    obtain ⟨Y, hY⟩ : ∃ Y, Y = w6.setCell ⟨w.heap.size, 5, none⟩ (.slice none 0 0) := ⟨_, rfl⟩
    go_wp2_with fail
    rw [← hY] at c7 G7 Z7 ht7 hi7 bw7 ⊢
    clear hY e6 f6
    go_wp2
    go_loopw [20] (fun i wr => i = .int .i64 0 ∧ wr = Y) (fun _ _ => 0)
    case atStart => exact ⟨rfl, rfl⟩
    case round =>
      obtain ⟨rfl, hwr⟩ := hrel
      subst hwr
      have GE := G7
      have ZE := Z7
      have htE := ht7
      have hiE := hi7
      have bE := bw7
      clear G7 Z7 ht7 hi7 bw7 c7
      have y0 : wr.cell? ⟨w.heap.size, 0, none⟩ = some (.int .i64 r.e) := by rw [cell_of_row _ _ _ _ _ _ GE]; rfl
      have y1 : wr.cell? ⟨w.heap.size, 1, none⟩ = some (.int .i64 r.t) := by rw [cell_of_row _ _ _ _ _ _ GE]; rfl
      have y2 : wr.cell? ⟨w.heap.size, 2, none⟩ = some (.slice tp2 r.tr.length tc2) := by rw [cell_of_row _ _ _ _ _ _ GE]; rfl
      have y3 : wr.cell? ⟨w.heap.size, 3, none⟩ = some (.int .i64 r.c) := by rw [cell_of_row _ _ _ _ _ _ GE]; rfl
      have y4 : wr.cell? ⟨w.heap.size, 4, none⟩ = some (.slice lp2 r.li.length lc2) := by rw [cell_of_row _ _ _ _ _ _ GE]; rfl
      have y5 : wr.cell? ⟨w.heap.size, 5, none⟩ = some (.slice none 0 0) := by rw [cell_of_row _ _ _ _ _ _ GE]; rfl
      have x0 : wr.cell? ⟨w.heap.size + 1, 0, none⟩ = some (.int .i64 0) := by rw [cell_of_row _ _ _ _ _ _ ZE]; rfl
      have x1 : wr.cell? ⟨w.heap.size + 1, 1, none⟩ = some (.int .i64 0) := by rw [cell_of_row _ _ _ _ _ _ ZE]; rfl
      have x2 : wr.cell? ⟨w.heap.size + 1, 2, none⟩ = some (.slice none 0 0) := by rw [cell_of_row _ _ _ _ _ _ ZE]; rfl
      have x3 : wr.cell? ⟨w.heap.size + 1, 3, none⟩ = some (.int .i64 0) := by rw [cell_of_row _ _ _ _ _ _ ZE]; rfl
      have x4 : wr.cell? ⟨w.heap.size + 1, 4, none⟩ = some (.slice none 0 0) := by rw [cell_of_row _ _ _ _ _ _ ZE]; rfl
      have x5 : wr.cell? ⟨w.heap.size + 1, 5, none⟩ = some (.slice none 0 0) := by rw [cell_of_row _ _ _ _ _ _ ZE]; rfl
      have f0 : wr.frozen? ⟨w.heap.size + 1, 0, none⟩ = false := by simp [World.frozen?, ZE]
      have f1 : wr.frozen? ⟨w.heap.size + 1, 1, none⟩ = false := by simp [World.frozen?, ZE]
      have f2 : wr.frozen? ⟨w.heap.size + 1, 2, none⟩ = false := by simp [World.frozen?, ZE]
      have f3 : wr.frozen? ⟨w.heap.size + 1, 3, none⟩ = false := by simp [World.frozen?, ZE]
      have f4 : wr.frozen? ⟨w.heap.size + 1, 4, none⟩ = false := by simp [World.frozen?, ZE]
      have f5 : wr.frozen? ⟨w.heap.size + 1, 5, none⟩ = false := by simp [World.frozen?, ZE]
      have hon : Only (w.heap.size + 1) wr (((((((wr).setCell ⟨w.heap.size + 1, 0, none⟩ (.int .i64 r.e)).setCell ⟨w.heap.size + 1, 1, none⟩ (.int .i64 r.t)).setCell ⟨w.heap.size + 1, 2, none⟩ (.slice tp2 r.tr.length tc2)).setCell ⟨w.heap.size + 1, 3, none⟩ (.int .i64 r.c)).setCell ⟨w.heap.size + 1, 4, none⟩ (.slice lp2 r.li.length lc2)).setCell ⟨w.heap.size + 1, 5, none⟩ (.slice none 0 0)) := ((((((Only.refl _ _).setCell 0 _).setCell 1 _).setCell 2 _).setCell 3 _).setCell 4 _).setCell 5 _
      have bf : Below w.heap.size w (((((((wr).setCell ⟨w.heap.size + 1, 0, none⟩ (.int .i64 r.e)).setCell ⟨w.heap.size + 1, 1, none⟩ (.int .i64 r.t)).setCell ⟨w.heap.size + 1, 2, none⟩ (.slice tp2 r.tr.length tc2)).setCell ⟨w.heap.size + 1, 3, none⟩ (.int .i64 r.c)).setCell ⟨w.heap.size + 1, 4, none⟩ (.slice lp2 r.li.length lc2)).setCell ⟨w.heap.size + 1, 5, none⟩ (.slice none 0 0)) := bE.trans (hon.below (by omega))
      have tk := TK.of_only (T := 25) hon ZE
      have q3 := htE.tk tk (by decide)
      have q5 := hiE.tk tk (by decide)
      have qk : KR (((((((wr).setCell ⟨w.heap.size + 1, 0, none⟩ (.int .i64 r.e)).setCell ⟨w.heap.size + 1, 1, none⟩ (.int .i64 r.t)).setCell ⟨w.heap.size + 1, 2, none⟩ (.slice tp2 r.tr.length tc2)).setCell ⟨w.heap.size + 1, 3, none⟩ (.int .i64 r.c)).setCell ⟨w.heap.size + 1, 4, none⟩ (.slice lp2 r.li.length lc2)).setCell ⟨w.heap.size + 1, 5, none⟩ (.slice none 0 0)) w.heap.size (.slice none 0 0) r.lk := (.inl ⟨rfl, List.eq_nil_of_length_eq_zero hn0⟩)
      clear hon tk htE hiE GE ZE bE
      go_wp2
      refine bodyPost_ret (v := .agg #[.int .i64 r.e, .int .i64 r.t, .slice tp2 r.tr.length tc2, .int .i64 r.c, .slice lp2 r.li.length lc2, .slice none 0 0]) ?_ rfl ?_
      · simp only [results, Tryd.results19]
        go_simp
      · exact ⟨tp2, tc2, lp2, lc2, none, 0, by rw [hn0], q3, q5, by rw [hn0]; exact qk, bf⟩
  · have rl7 : RL w (w6.setCell ⟨w.heap.size, 5, none⟩ (.slice (some ⟨gR, 0, none⟩) r.lk.length kc')) w.heap.size gR r.lk.length 0 r.lk := by
      refine ⟨cur, hcur, by omega, fun j u l hj hu hl => .inl ⟨Nat.zero_le _, hvs j u l ?_ hl⟩⟩
      rw [← htk, List.getElem?_take, if_pos (by omega)]
      simpa using hu
    have hgR : w.heap.size ≤ gR := by omega
    have c7 : (w6.setCell ⟨w.heap.size, 5, none⟩ (.slice (some ⟨gR, 0, none⟩) r.lk.length kc')).cell? ⟨w.heap.size, 5, none⟩ = some (.slice (some ⟨gR, 0, none⟩) r.lk.length kc') := by rw [cell_of_row _ _ _ _ _ _ G7]; rfl
    clear hcur htk hcs hvs hvl
    obtain ⟨Y, hY⟩ : ∃ Y, Y = w6.setCell ⟨w.heap.size, 5, none⟩ (.slice (some ⟨gR, 0, none⟩) r.lk.length kc') := ⟨_, rfl⟩
    go_wp2_with fail
    rw [← hY] at c7 G7 Z7 ht7 hi7 bw7 rl7 ⊢
    clear hY e6 f6
    go_wp2
    go_loopw [20] (fun i wr => ∃ k : Nat, k ≤ r.lk.length ∧ i = .int .i64 k ∧ wr.heap[w.heap.size]? = some (.cells #[.int .i64 r.e, .int .i64 r.t, .slice tp2 r.tr.length tc2, .int .i64 r.c, .slice lp2 r.li.length lc2, .slice (some ⟨gR, 0, none⟩) r.lk.length kc'] 25 (0, 0)) ∧ wr.heap[w.heap.size + 1]? = some (.cells #[.int .i64 0, .int .i64 0, .slice none 0 0, .int .i64 0, .slice none 0 0, .slice none 0 0] 25 (0, 0)) ∧ RL w wr w.heap.size gR r.lk.length k r.lk ∧ HBN wr w.heap.size (.slice tp2 r.tr.length tc2) r.tr ∧ HBN wr w.heap.size (.slice lp2 r.li.length lc2) r.li ∧ Below w.heap.size w wr) (fun i _ => r.lk.length - (intOf i).toNat)
    case atStart => exact ⟨0, Nat.zero_le _, rfl, G7, Z7, rl7, ht7, hi7, bw7⟩
    case round =>
      clear c7 G7 Z7 ht7 hi7 bw7 rl7
      obtain ⟨k, hk, rfl, G1, Z1, rl, ht, hi, hbw⟩ := hrel
      have hsz := hbw.size
      by_cases hlt : k < r.lk.length
      · obtain ⟨q, d, l, hl0, y1, hl, fz1⟩ := rl.get hbw rfl k hlt
        have hl32 : l.length ≤ 32 := z4 l (List.mem_of_getElem? hl0.out)
        have lt1 : w.heap.size < wr.heap.size := (Array.getElem?_eq_some_iff.1 G1).1
        have lt2 : w.heap.size + 1 < wr.heap.size := (Array.getElem?_eq_some_iff.1 Z1).1
        have hlt2 : (k : Int) < (r.lk.length : Int) := by omega
        have bD : Below wr.heap.size wr wr.drew := (Below.refl _ wr).drew
        have hHeld : wr.drew.cell? ⟨w.heap.size, 5, none⟩ = some (.slice (some ⟨gR, 0, none⟩) r.lk.length kc') := by rw [cell_of_row _ _ _ _ _ _ ((bD.block _ lt1).trans G1)]; rfl
        go_wp2_with fail
        refine wp_region_heldN (by kernel_rfl) (fun W => W.cell? ⟨w.heap.size, 5, none⟩ = some (.slice (some ⟨gR, 0, none⟩) r.lk.length kc')) 7 rfl ?_
        refine tkY 0 ⟨some 25, .fieldAddr 25 (.tmp 1) 5, 0, "copies.go:26", #[], none⟩ ?v0z1 hHeld ?y0z1 ?r0z1
        case y0z1 => (intro w hSw; (try dsimp only at hSw); go_simp) <;> with_reducible rfl
        try simp only [Act.put, List.setIfInBounds_toArray, List.set_cons_zero, List.set_cons_succ]
        refine tkY 1 ⟨some 26, .load 23 (.tmp 25), 23, "copies.go:26", #[⟨0, .data⟩], none⟩ ?v1z2 hHeld ?y1z2 ?r1z2
        case y1z2 => (intro w hSw; (try dsimp only at hSw); go_simp) <;> with_reducible rfl
        try simp only [Act.put, List.setIfInBounds_toArray, List.set_cons_zero, List.set_cons_succ]
        refine tkY 2 ⟨some 27, .move (.tmp 3), 3, "copies.go:26", #[], none⟩ ?v2z3 hHeld ?y2z3 ?r2z3
        case y2z3 => (intro w hSw; (try dsimp only at hSw); go_simp) <;> with_reducible rfl
        try simp only [Act.put, List.setIfInBounds_toArray, List.set_cons_zero, List.set_cons_succ]
        refine tkY 3 ⟨some 28, .move (.tmp 4), 22, "copies.go:26", #[], none⟩ ?v3z4 hHeld ?y3z4 ?r3z4
        case y3z4 => (intro w hSw; (try dsimp only at hSw); go_simp) <;> with_reducible rfl
        try simp only [Act.put, List.setIfInBounds_toArray, List.set_cons_zero, List.set_cons_succ]
        refine wpAnyH_ready (rs := [4]) (by kernel_rfl) (by simp) ?_
        refine AllReadyH.cons (o := ⟨some 29, .call { callee := .value (.func 38), args := #[.tmp 28], argTypes := #[22] }, 22, "copies.go:26", #[⟨3, .data⟩], none⟩) rfl (fun K hK => ?_) AllReadyH.nil
        go_simp
        refine (clone_own _ l _ (hl.later bD) (by omega)).mono ?_
        rintro x w5 ⟨p5, c5, rfl, o5, b5'⟩
        have b5 := bD.trans (b5'.mono bD.size)
        have G5 := (b5.block _ lt1).trans G1
        have hn5 := hbn_of_owns o5 G5 (by decide)
        have rl5 := rl.tk (TK.of_below (T := 25) b5) (by decide) (by decide)
        obtain ⟨z5, y5, f5⟩ : ∃ z, w5.cell? ⟨gR, k, none⟩ = some z ∧ w5.frozen? ⟨gR, k, none⟩ = false := by
          obtain ⟨q5, d5, l5, _, e5, _, f5⟩ := rl5.get (hbw.trans (b5.mono hbw.size)) rfl k hlt
          exact ⟨_, e5, f5⟩
        replace hHeld : w5.cell? ⟨w.heap.size, 5, none⟩ = some (.slice (some ⟨gR, 0, none⟩) r.lk.length kc') := by rw [cell_of_row _ _ _ _ _ _ G5]; rfl
        refine hK.out _ _ ?_ (fun _ => ?_)
        · exact hHeld
        clear hK K
        try simp only [Act.put, List.setIfInBounds_toArray, List.set_cons_zero, List.set_cons_succ]
        refine tkY 5 ⟨some 30, .indexAddr 23 (.tmp 26) (.tmp 27), 0, "copies.go:26", #[⟨1, .data⟩, ⟨2, .data⟩, ⟨0, .phase⟩, ⟨1, .phase⟩, ⟨2, .phase⟩, ⟨3, .phase⟩, ⟨4, .phase⟩], none⟩ ?v5z5 hHeld ?y5z5 ?r5z5
        case y5z5 => (intro w hSw; (try dsimp only at hSw); go_simp) <;> with_reducible rfl
        try simp only [Act.put, List.setIfInBounds_toArray, List.set_cons_zero, List.set_cons_succ]
        refine wpAnyH_ready (rs := [6]) (by kernel_rfl) (by simp) ?_
        refine AllReadyH.cons (o := ⟨none, .store 22 (.tmp 30) (.tmp 29), 0, "copies.go:26", #[⟨5, .data⟩, ⟨4, .data⟩, ⟨4, .chain⟩, ⟨0, .phase⟩, ⟨1, .phase⟩, ⟨2, .phase⟩, ⟨3, .phase⟩, ⟨4, .phase⟩], none⟩) rfl (fun K hK => ?_) AllReadyH.nil
        go_simp
        obtain ⟨t6, rl6⟩ := rl5.put (k := k) hn5 hl0.out
        replace hHeld : (w5.setCell ⟨gR, k, none⟩ (.slice p5 l.length c5)).cell? ⟨w.heap.size, 5, none⟩ = some (.slice (some ⟨gR, 0, none⟩) r.lk.length kc') := by rw [cell_of_row _ _ _ _ _ _ (t6 _ _ _ _ G5 (by decide))]; rfl
        refine hK.out _ _ ?_ (fun _ => ?_)
        · exact hHeld
        clear hK K
        try simp only [Act.put, List.setIfInBounds_toArray, List.set_cons_zero, List.set_cons_succ]
        refine wpAnyH_done (by kernel_rfl) ?_ _
        have G6 := t6 _ _ _ _ G5 (by decide)
        have Z6 := t6 _ _ _ _ ((b5.block _ lt2).trans Z1) (by decide)
        have ht6 := (ht.later b5).tk t6 (by decide)
        have hi6 := (hi.later b5).tk t6 (by decide)
        have b6 : Below w.heap.size w (w5.setCell ⟨gR, k, none⟩ (.slice p5 l.length c5)) := (hbw.trans (b5.mono hbw.size)).trans (((Only.refl gR w5).setCell k _).below hgR)
        clear hHeld G5 rl5 o5 b5' hn5 y5 f5 t6
        go_wp2
        go_roundw
        case rel => first | exact ⟨k + 1, by omega, by go_num, G6, Z6, rl6, ht6, hi6, b6⟩ | ((repeat apply Exists.intro); exact ⟨⟨k + 1, by omega, by go_num, G6, Z6, rl6, ht6, hi6, b6⟩, rfl⟩)
        case measure => simp [intOf]; omega
      · have GE := G1
        have ZE := Z1
        have htE := ht
        have hiE := hi
        have bE := hbw
        clear G1 Z1 ht hi hbw
        have y0 : wr.cell? ⟨w.heap.size, 0, none⟩ = some (.int .i64 r.e) := by rw [cell_of_row _ _ _ _ _ _ GE]; rfl
        have y1 : wr.cell? ⟨w.heap.size, 1, none⟩ = some (.int .i64 r.t) := by rw [cell_of_row _ _ _ _ _ _ GE]; rfl
        have y2 : wr.cell? ⟨w.heap.size, 2, none⟩ = some (.slice tp2 r.tr.length tc2) := by rw [cell_of_row _ _ _ _ _ _ GE]; rfl
        have y3 : wr.cell? ⟨w.heap.size, 3, none⟩ = some (.int .i64 r.c) := by rw [cell_of_row _ _ _ _ _ _ GE]; rfl
        have y4 : wr.cell? ⟨w.heap.size, 4, none⟩ = some (.slice lp2 r.li.length lc2) := by rw [cell_of_row _ _ _ _ _ _ GE]; rfl
        have y5 : wr.cell? ⟨w.heap.size, 5, none⟩ = some (.slice (some ⟨gR, 0, none⟩) r.lk.length kc') := by rw [cell_of_row _ _ _ _ _ _ GE]; rfl
        have x0 : wr.cell? ⟨w.heap.size + 1, 0, none⟩ = some (.int .i64 0) := by rw [cell_of_row _ _ _ _ _ _ ZE]; rfl
        have x1 : wr.cell? ⟨w.heap.size + 1, 1, none⟩ = some (.int .i64 0) := by rw [cell_of_row _ _ _ _ _ _ ZE]; rfl
        have x2 : wr.cell? ⟨w.heap.size + 1, 2, none⟩ = some (.slice none 0 0) := by rw [cell_of_row _ _ _ _ _ _ ZE]; rfl
        have x3 : wr.cell? ⟨w.heap.size + 1, 3, none⟩ = some (.int .i64 0) := by rw [cell_of_row _ _ _ _ _ _ ZE]; rfl
        have x4 : wr.cell? ⟨w.heap.size + 1, 4, none⟩ = some (.slice none 0 0) := by rw [cell_of_row _ _ _ _ _ _ ZE]; rfl
        have x5 : wr.cell? ⟨w.heap.size + 1, 5, none⟩ = some (.slice none 0 0) := by rw [cell_of_row _ _ _ _ _ _ ZE]; rfl
        have f0 : wr.frozen? ⟨w.heap.size + 1, 0, none⟩ = false := by simp [World.frozen?, ZE]
        have f1 : wr.frozen? ⟨w.heap.size + 1, 1, none⟩ = false := by simp [World.frozen?, ZE]
        have f2 : wr.frozen? ⟨w.heap.size + 1, 2, none⟩ = false := by simp [World.frozen?, ZE]
        have f3 : wr.frozen? ⟨w.heap.size + 1, 3, none⟩ = false := by simp [World.frozen?, ZE]
        have f4 : wr.frozen? ⟨w.heap.size + 1, 4, none⟩ = false := by simp [World.frozen?, ZE]
        have f5 : wr.frozen? ⟨w.heap.size + 1, 5, none⟩ = false := by simp [World.frozen?, ZE]
        have hon : Only (w.heap.size + 1) wr (((((((wr).setCell ⟨w.heap.size + 1, 0, none⟩ (.int .i64 r.e)).setCell ⟨w.heap.size + 1, 1, none⟩ (.int .i64 r.t)).setCell ⟨w.heap.size + 1, 2, none⟩ (.slice tp2 r.tr.length tc2)).setCell ⟨w.heap.size + 1, 3, none⟩ (.int .i64 r.c)).setCell ⟨w.heap.size + 1, 4, none⟩ (.slice lp2 r.li.length lc2)).setCell ⟨w.heap.size + 1, 5, none⟩ (.slice (some ⟨gR, 0, none⟩) r.lk.length kc')) := ((((((Only.refl _ _).setCell 0 _).setCell 1 _).setCell 2 _).setCell 3 _).setCell 4 _).setCell 5 _
        have bf : Below w.heap.size w (((((((wr).setCell ⟨w.heap.size + 1, 0, none⟩ (.int .i64 r.e)).setCell ⟨w.heap.size + 1, 1, none⟩ (.int .i64 r.t)).setCell ⟨w.heap.size + 1, 2, none⟩ (.slice tp2 r.tr.length tc2)).setCell ⟨w.heap.size + 1, 3, none⟩ (.int .i64 r.c)).setCell ⟨w.heap.size + 1, 4, none⟩ (.slice lp2 r.li.length lc2)).setCell ⟨w.heap.size + 1, 5, none⟩ (.slice (some ⟨gR, 0, none⟩) r.lk.length kc')) := bE.trans (hon.below (by omega))
        have tk := TK.of_only (T := 25) hon ZE
        have q3 := htE.tk tk (by decide)
        have q5 := hiE.tk tk (by decide)
        have qk : KR (((((((wr).setCell ⟨w.heap.size + 1, 0, none⟩ (.int .i64 r.e)).setCell ⟨w.heap.size + 1, 1, none⟩ (.int .i64 r.t)).setCell ⟨w.heap.size + 1, 2, none⟩ (.slice tp2 r.tr.length tc2)).setCell ⟨w.heap.size + 1, 3, none⟩ (.int .i64 r.c)).setCell ⟨w.heap.size + 1, 4, none⟩ (.slice lp2 r.li.length lc2)).setCell ⟨w.heap.size + 1, 5, none⟩ (.slice (some ⟨gR, 0, none⟩) r.lk.length kc')) w.heap.size (.slice (some ⟨gR, 0, none⟩) r.lk.length kc') r.lk := (rl.tk tk (by decide) (by decide)).kr rfl hlt hk1 hk2
        clear hon tk htE hiE GE ZE bE
        go_wp2
        refine bodyPost_ret (v := .agg #[.int .i64 r.e, .int .i64 r.t, .slice tp2 r.tr.length tc2, .int .i64 r.c, .slice lp2 r.li.length lc2, .slice (some ⟨gR, 0, none⟩) r.lk.length kc']) ?_ rfl ?_
        · simp only [results, Tryd.results19]
          go_simp
        · exact ⟨_, _, _, _, _, _, rfl, q3, q5, qk, bf⟩

end Go.Proofs.YtpndpmkoegmbkaaDoor
