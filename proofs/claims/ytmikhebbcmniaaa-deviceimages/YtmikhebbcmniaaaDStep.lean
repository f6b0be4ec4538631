/- What this text holds: steps in memory; and the walk of a step's Full over this program: its bytes, as many as a sector has. -/
import Derived.Test.YtmikhebbcmniaaaDRead
import Derived.Test.YtmikhebbcmniaaaCopyPart
namespace Go.Proofs.Ytmikhebbcmniaaa
open Go.RowKit Go.Maps

/-- The value v is a slice of steps: of each what it does, where, and its bytes. -/
def SA (w : World) (v : Value) (ss : List (Int × Int × List UInt8)) : Prop :=
  ∃ (p : Option Addr) (cap : Nat), v = .slice p ss.length cap ∧ ss.length ≤ maxLen ∧
    (ss ≠ [] → ∃ b o, p = some ⟨b, o, none⟩ ∧ ∀ (k : Nat) x, ss[k]? = some x → w.cell? ⟨b, o + k * 3, none⟩ = some (.int .i64 x.1) ∧ w.cell? ⟨b, o + k * 3 + 1, none⟩ = some (.int .i64 x.2.1) ∧
      (-9223372036854775808 ≤ x.1 ∧ x.1 ≤ 9223372036854775807) ∧ (-9223372036854775808 ≤ x.2.1 ∧ x.2.1 ≤ 9223372036854775807) ∧ ∃ u, w.cell? ⟨b, o + k * 3 + 2, none⟩ = some u ∧ HB w u x.2.2)

theorem SA.later {w w' : World} {v : Value} {ss : List (Int × Int × List UInt8)} (h : SA w v ss) (hb : Below w.heap.size w w') : SA w' v ss := by
  obtain ⟨p, cap, e, h1, h2⟩ := h
  refine ⟨p, cap, e, h1, fun hn => ?_⟩
  obtain ⟨b, o, e1, e2⟩ := h2 hn
  refine ⟨b, o, e1, fun k x hx => ?_⟩
  obtain ⟨q1, q2, q3, q4, u, q5, q6⟩ := e2 k x hx
  exact ⟨cell_later hb q1, cell_later hb q2, q3, q4, u, cell_later hb q5, q6.later hb⟩

theorem SA.shape {w : World} {v : Value} {ss : List (Int × Int × List UInt8)} (h : SA w v ss) : ∃ p c, v = .slice p ss.length c := by
  obtain ⟨p, cap, e, _⟩ := h
  exact ⟨p, cap, e⟩
theorem SA.len_le {w : World} {v : Value} {ss : List (Int × Int × List UInt8)} (h : SA w v ss) : ss.length ≤ maxLen := by
  obtain ⟨p, cap, e, h1, _⟩ := h
  exact h1
theorem SA.addr {w : World} {p : Option Addr} {n c : Nat} {ss : List (Int × Int × List UInt8)} (h : SA w (.slice p n c) ss) (hn : 0 < n) : ∃ b o, p = some ⟨b, o, none⟩ ∧ ∀ (k : Nat) x, ss[k]? = some x → w.cell? ⟨b, o + k * 3, none⟩ = some (.int .i64 x.1) ∧ w.cell? ⟨b, o + k * 3 + 1, none⟩ = some (.int .i64 x.2.1) ∧
      (-9223372036854775808 ≤ x.1 ∧ x.1 ≤ 9223372036854775807) ∧ (-9223372036854775808 ≤ x.2.1 ∧ x.2.1 ≤ 9223372036854775807) ∧ ∃ u, w.cell? ⟨b, o + k * 3 + 2, none⟩ = some u ∧ HB w u x.2.2 := by
  obtain ⟨p', cap, e, h1, h2⟩ := h
  simp only [Value.slice.injEq] at e
  obtain ⟨rfl, rfl, rfl⟩ := e
  exact h2 (fun h => by subst h; simp at hn)

/-- A step's bytes, as many as a sector has. -/
def fullL (l : List UInt8) : List UInt8 := l.take 64 ++ nulls.drop l.length
theorem fullL_len (l : List UInt8) : (fullL l).length = 64 := by
  simp only [fullL, List.length_append, List.length_take, List.length_drop, nulls_len]
  omega

set_option maxRecDepth 10000 in
set_option maxHeartbeats 400000 in
theorem full_any (w : World) (op i : Int) (u : Value) (l : List UInt8) (hu : HB w u l) : Calls Try.prog 22 #[.agg #[.int .i64 op, .int .i64 i, u]] w fun e w' => ∃ g, e = .returned (.slice (some ⟨g, 0, none⟩) 64 64) ∧ HB w' (.slice (some ⟨g, 0, none⟩) 64 64) (fullL l) ∧ w.heap.size ≤ g ∧ Below w.heap.size w w' := by
  obtain ⟨i0, hi, hz0, hz1, hz2⟩ := info_parts i_u8
  obtain ⟨p, c, rfl⟩ := hu.shape
  have c2 : (w.alloc (.cells #[.int .i64 op, .int .i64 i, .slice p l.length c] 33)).cell? ⟨w.heap.size, 2, none⟩ = some (.slice p l.length c) := by
    rw [cell_of_row _ _ 2 _ _ _ (heap_alloc_new w _)]; rfl
  have hb0 : Below w.heap.size w (w.alloc (.cells #[.int .i64 op, .int .i64 i, .slice p l.length c] 33)) := (Below.refl _ w).alloc (Nat.le_refl _) _
  have hsz : w.heap.size < (w.alloc (.cells #[.int .i64 op, .int .i64 i, .slice p l.length c] 33)).heap.size := by simp
  have hm := made_bcs 64
  have hnl : List.replicate 64 (0 : UInt8) = nulls := rfl
  rw [hnl] at hm
  clear hnl
  have hby : i0.bytes * 64 ≤ 281474976710656 := by rw [hz2]; omega
  have hbx : ∀ w1, (w.alloc (.cells #[.int .i64 op, .int .i64 i, .slice p l.length c] 33)).grownBy w1 none → Below w.heap.size w w1 ∧ w1.cell? ⟨w.heap.size, 2, none⟩ = some (.slice p l.length c) ∧ w.heap.size < w1.heap.size := by
    intro w1 hg
    have h1 := (Below.refl _ (w.alloc (.cells #[.int .i64 op, .int .i64 i, .slice p l.length c] 33))).grown hg (Nat.le_refl _) (fun _ e => by cases e)
    exact ⟨hb0.trans (h1.mono (by simp)), cell_later h1 c2, Nat.lt_of_lt_of_le hsz h1.size⟩
  obtain ⟨w1, hrun, how, hgr⟩ := run_make_full (P := Try.prog) (w.alloc (.cells #[.int .i64 op, .int .i64 i, .slice p l.length c] 33)) w.heap.size 31 5 i0 (.int .u8 0) 1 Try.underlying31 hi hz0 hz1 .i64 .i64 64 hby (by unfold maxLen; omega) (Nat.le_of_lt hsz)
  rw [World.size_alloc] at hrun how
  have hrun' : (Instr.makeSlice 31 (.int .i64 64) (.int .i64 64)).run Try.prog (w.alloc (.cells #[.int .i64 op, .int .i64 i, .slice p l.length c] 33)) = .ok (.slice (some ⟨w.heap.size + 1, 0, none⟩) 64 64) w1 := hrun
  have how2 : w1.ownsRow w.heap.size 5 1 (.slice (some ⟨w.heap.size + 1, 0, none⟩) 64 64) 64 (bcs nulls) := by
    rw [← hm]; exact how
  obtain ⟨hb1, c21, hs1⟩ := hbx w1 hgr
  have hu1 := hu.later hb1
  have hfin : ∀ w2, w2.ownsRow w.heap.size 5 1 (.slice (some ⟨w.heap.size + 1, 0, none⟩) 64 64) 64 (bcs (l.take 64 ++ nulls.drop l.length)) → w1.grownBy w2 (some (w.heap.size + 1)) → ∃ g, Ending.returned (.slice (some ⟨w.heap.size + 1, 0, none⟩) 64 64) = .returned (.slice (some ⟨g, 0, none⟩) 64 64) ∧ HB w2 (.slice (some ⟨g, 0, none⟩) 64 64) (fullL l) ∧ w.heap.size ≤ g ∧ Below w.heap.size w w2 := by
    intro w2 ho hg
    exact ⟨w.heap.size + 1, rfl, HB.of_owns ho, by omega, hb1.grown hg (Nat.le_of_lt hs1) (fun j e => by cases e; omega)⟩
  clear hrun how hm hbx hgr hb0 hsz hu hby hi hz0 hz1 hz2 hb1
  have hs8 := s_u8
  go_enter Try.func22, Try.ntmps22
  go_wp2_with (first
    | (refine wpList_copy_into rfl _ _ 31 31 rfl 5 Try.underlying31 hs8 (w.heap.size + 1) 64 p l.length c rfl rfl w.heap.size nulls how2 l hu1 ?_; intro w2 k ho hg))
  go_ret
  exact hfin w2 ho hg

end Go.Proofs.Ytmikhebbcmniaaa
