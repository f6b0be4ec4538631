/- What this text proves: the walk of seglog's Records over this program: the log's records, each in bytes of its own. -/
import Derived.Test.YtnmjggljicanmaaDoorSgLog
namespace Go.Proofs.YtnmjggljicanmaaDoor
open Go.RowKit

/-- A made list of N rows of bytes that the call owns, the first k of them told. -/
def QB (w : World) (base g N k : Nat) (sig : Nat → List UInt8) : Prop :=
  ∃ vs : List Value, w.ownsRow base 31 1 (.slice (some ⟨g, 0, none⟩) N N) N vs ∧ ∀ (j : Nat) u, j < k → vs[j]? = some u → HB w u (sig j) ∧ BY w u

theorem QB.later {w w' : World} {base g N k : Nat} {sig : Nat → List UInt8} (h : QB w base g N k sig) (hb : Below w.heap.size w w') : QB w' base g N k sig := by
  obtain ⟨vs, h1, h3⟩ := h
  exact ⟨vs, owns_later h1 hb, fun j u hj hu => (h3 j u hj hu).1.sty (h3 j u hj hu).2 (Sty.of_below hb)⟩

theorem QB.cell {w : World} {base g N k : Nat} {sig : Nat → List UInt8} (h : QB w base g N k sig) (i : Nat) (hi : i < N) : ∃ y, w.cell? ⟨g, i, none⟩ = some y ∧ w.frozen? ⟨g, i, none⟩ = false := by
  obtain ⟨vs, q1, _⟩ := h
  have hl := q1.1
  rw [Nat.mul_one] at hl
  have hc := q1.cellAt i (by omega)
  rw [List.getElem?_eq_getElem (by omega)] at hc
  exact ⟨_, hc, q1.frozenAt i⟩

theorem QB.put {w : World} {base g N k : Nat} {sig : Nat → List UInt8} (h : QB w base g N k sig) (x : Value) (hx : HB w x (sig k)) (tx : BY w x) : QB (w.setCell ⟨g, k, none⟩ x) base g N (k + 1) sig := by
  obtain ⟨vs, h1, h3⟩ := h
  obtain ⟨q1, q2⟩ := h1.stored k x
  have hs : Sty 5 w (w.setCell ⟨g, k, none⟩ x) := Sty.of_grown h1 q2 (by decide)
  refine ⟨vs.set k x, q1, fun j u hj hu => ?_⟩
  by_cases hjk : k = j
  · subst hjk
    rw [List.getElem?_set_self'] at hu
    cases hv : vs[k]? with
    | none => rw [hv] at hu; simp at hu
    | some y =>
      rw [hv] at hu
      simp at hu
      subst hu
      exact hx.sty tx hs
  · rw [List.getElem?_set_ne hjk] at hu
    obtain ⟨a, b⟩ := h3 j u (by omega) hu
    exact a.sty b hs

theorem QB.rb {w : World} {base g : Nat} {ls : List (List UInt8)} (h : QB w base g ls.length ls.length (fun j => ls.getD j [])) : RB w base (.slice (some ⟨g, 0, none⟩) ls.length ls.length) ls := by
  obtain ⟨vs, h1, h3⟩ := h
  refine ⟨vs, h1, fun j u l hu hl => ?_⟩
  have := h3 j u (List.getElem?_eq_some_iff.1 hl).1 hu
  simpa [List.getD, hl] using this

set_option maxRecDepth 100000 in
set_option maxHeartbeats 4000000 in
theorem srecs_any {g bd base : Nat} {n k : Int} {rs : Value} {st : Bool} {ls : List (List UInt8)} {w : World} (h : LB w g bd n k rs st) (ho : RB w base rs ls) (hr : ls.length ≤ 1000000) (hm : ∀ l ∈ ls, l.length ≤ 140737488355328) :
    Calls Tryd.prog 9 #[.pointer (some ⟨g, 0, none⟩)] w fun e w' => ∃ p c, e = .returned (.slice p ls.length c) ∧ RB w' w.heap.size (.slice p ls.length c) ls ∧ Below w.heap.size w w' := by
  have hp := ho.pa
  obtain ⟨pr, cr, rfl⟩ := hp.shape
  obtain ⟨c0, c1, c2, c3, c4⟩ := h.cells
  have hMs := smiss_no g bd w c0
  obtain ⟨i0, hi0, hz0, hz1, hz2⟩ := info_parts i_byt
  have HS : Hid (∀ k x, ls[k]? = some x → (fun j => ls.getD j []) k = x) := by
    intro k x hx
    simp [List.getD, hx]
  have HQ : Hid (∀ W, QB W w.heap.size w.heap.size ls.length ls.length (fun j => ls.getD j []) → RB W w.heap.size (.slice (some ⟨w.heap.size, 0, none⟩) ls.length ls.length) ls) := fun W h => h.rb
  have HM : Hid (∀ l ∈ ls, l.length ≤ 140737488355328) := hm
  generalize (fun j => ls.getD j []) = sig at *
  clear h ho hm
  go_enter Tryd.func9, Tryd.ntmps9
  go_wp2_with (first
    | (go_at_call 19; refine hMs.mono ?_; rintro e w1 ⟨rfl, rfl⟩)
    | (at_make; refine wpList_make_full _ rfl _ _ 22 rfl _ 31 i0 (.slice none 0 0) 1 Tryd.underlying22 hi0 hz0 hz1 .i64 .i64 _ _ ls.length rfl rfl ?_ ?_ ?_ ?_ (Nat.le_refl _) ?_))
  all_goals (try (first | omega | (unfold maxLen; omega) | (rw [hz2]; omega)))
  intro w2 hown hgrow
  have hb2 : Below w1.heap.size w1 w2 := (Below.refl _ w1).grown hgrow (Nat.le_refl _) (by intro k hk; cases hk)
  have hq2 : QB w2 w1.heap.size w1.heap.size ls.length 0 sig := ⟨_, hown, fun j u hj => by omega⟩
  have e3 := cell_later hb2 c3
  clear hown hgrow
  go_wp2
  go_loopw [19] (fun i wr => ∃ k : Nat, k ≤ ls.length ∧ i = .int .i64 k ∧ QB wr w1.heap.size w1.heap.size ls.length k sig ∧ Below w1.heap.size w1 wr) (fun i _ => ls.length - (Go.RowKit.intOf i).toNat)
  case atStart => exact ⟨0, Nat.zero_le _, rfl, hq2, hb2⟩
  case round =>
    obtain ⟨k, hk, rfl, hq, hbe⟩ := hrel
    clear hq2 hb2
    have hsz := hbe.size
    by_cases hlt : k < ls.length
    · obtain ⟨bl, o, rfl⟩ := hp.addr (by omega)
      obtain ⟨q, kc, x, hx, hc, hu⟩ := hp.get k hlt
      have hlt2 : (k : Int) < (ls.length : Int) := by omega
      have e1 := cell_later hbe hc
      have hxl := HM.out x (List.mem_of_getElem? hx.out)
      have hL := clone_own (.slice q x.length kc) x wr (hu.later hbe) hxl
      have hsx := HS.out k x hx.out
      clear hu hc hx
      go_wp2_with fail
      refine hL.mono ?_
      rintro e w3 ⟨p3, c3, rfl, o3, hb3⟩
      have hq3 := hq.later hb3
      have hb03 := hbe.trans (hb3.mono hbe.size)
      obtain ⟨y, cy, fy⟩ := hq3.cell k hlt
      have h3 := HB.of_owns o3
      have hq4 := hq3.put _ (by rw [hsx]; exact h3) (own_by o3)
      have hb4 : Below w1.heap.size w1 (w3.setCell ⟨w1.heap.size, k, none⟩ (.slice p3 x.length c3)) := hb03.setCell (Nat.le_refl _) _
      clear hq hq3 hb3 hb03 h3 hL e1 hsx o3
      go_wp2
      go_roundw
      case rel => exact ⟨k + 1, by omega, by go_num, hq4, hb4⟩
      case measure => simp [Go.RowKit.intOf]; omega
    · obtain rfl : k = ls.length := by omega
      have hpa := HQ.out _ hq
      clear hq HS HQ
      go_wp2
      go_ret
      exact ⟨_, _, rfl, hpa, hbe⟩

end Go.Proofs.YtnmjggljicanmaaDoor
