/- What this text proves: the walks of an arena's methods, of an arena that no call made, over this program. What this text holds: plain facts: worlds that part in one block alone (no program). What this text proves: the walks of an arena's calls over this program, of an arena with no free places: new, what it has, how many there are. -/
import Derived.Test.YtcgpgnajmfemhaaGreatDoorJOw
import Derived.Deep.RegionHeld3
namespace Go.Proofs.YtcgpgnajmfemhaaGreatDoor.Vf
open Go.RowKit

/-- In this world no call made the arena. -/
def Gone (q : Option Addr) (W : World) : Prop := Calls Tryz.prog 63 #[.pointer q] W fun e w' => e = .returned (.bool true) ∧ w' = W

/-- The node that is none. -/
def zNode : Value := .agg #[.bool false, .slice none 0 0, .slice none 0 0, .int .i64 0, .int .i64 0, .slice none 0 0, .int .i64 0, .int .i64 0, .int .i64 0, .slice none 0 0]

set_option maxRecDepth 100000 in
set_option maxHeartbeats 400000 in
theorem miss_nil (W : World) : Gone none W := by
  unfold Gone
  go_enter Tryz.func63, Tryz.ntmps63
  go_wp2
  go_ret
  exact ⟨rfl, rfl⟩

set_option maxRecDepth 100000 in
set_option maxHeartbeats 400000 in
theorem miss_raw (g : Nat) (W : World) (c0 : W.cell? ⟨g, 0, none⟩ = some (.int .i64 0)) : Gone (some ⟨g, 0, none⟩) W := by
  unfold Gone
  go_enter Tryz.func63, Tryz.ntmps63
  go_wp2
  go_ret
  exact ⟨rfl, rfl⟩

set_option maxRecDepth 100000 in
set_option maxHeartbeats 400000 in
theorem miss_no (g : Nat) (s : Int) (W : World) (c0 : W.cell? ⟨g, 0, none⟩ = some (.int .i64 s)) (hs : s ≠ 0) : Calls Tryz.prog 63 #[.pointer (some ⟨g, 0, none⟩)] W fun e w' => e = .returned (.bool false) ∧ w' = W := by
  have hb : (s == 0) = false := by simpa using hs
  go_enter Tryz.func63, Tryz.ntmps63
  go_wp2
  go_ret
  exact ⟨rfl, rfl⟩

set_option maxRecDepth 100000 in
set_option maxHeartbeats 400000 in
theorem leaf_gone (q : Option Addr) (p : Option Addr) (n c : Nat) (p' : Option Addr) (n' c' : Nat) (since : Int) (W : World) (h : Gone q W) : Calls Tryz.prog 205 #[.pointer q, .slice p n c, .slice p' n' c', .int .i64 since] W fun e w' => e = .returned (.tuple #[.int .i64 0, .int .i64 2]) ∧ w' = W := by
  unfold Gone at h
  go_enter Tryz.func205, Tryz.ntmps205
  go_wp2_with (go_at_call 63; refine h.mono ?_; rintro e w1 ⟨rfl, rfl⟩)
  go_ret2
  exact ⟨rfl, rfl⟩

set_option maxRecDepth 100000 in
set_option maxHeartbeats 400000 in
theorem fork_gone (q : Option Addr) (depth : Int) (p : Option Addr) (n c : Nat) (l r : Int) (W : World) (h : Gone q W) : Calls Tryz.prog 230 #[.pointer q, .int .i64 depth, .slice p n c, .int .i64 l, .int .i64 r] W fun e w' => e = .returned (.tuple #[.int .i64 0, .int .i64 2]) ∧ w' = W := by
  unfold Gone at h
  go_enter Tryz.func230, Tryz.ntmps230
  go_wp2_with (go_at_call 63; refine h.mono ?_; rintro e w1 ⟨rfl, rfl⟩)
  go_ret2
  exact ⟨rfl, rfl⟩

set_option maxRecDepth 100000 in
set_option maxHeartbeats 400000 in
theorem node_gone (q : Option Addr) (i : Int) (W : World) (h : ∀ W', Below W.heap.size W W' → Gone q W') : Calls Tryz.prog 224 #[.pointer q, .int .i64 i] W fun e w' => e = .returned (.tuple #[zNode, .bool false]) ∧ Below W.heap.size W w' := by
  have bA := (Below.refl _ W).alloc (Nat.le_refl _) (.cells #[.bool false, .slice none 0 0, .slice none 0 0, .int .i64 0, .int .i64 0, .slice none 0 0, .int .i64 0, .int .i64 0, .int .i64 0, .slice none 0 0] 228)
  have hG := h _ bA
  unfold Gone at hG
  clear h
  go_enter Tryz.func224, Tryz.ntmps224
  go_wp2_with (go_at_call 63; refine hG.mono ?_; rintro e w1 ⟨rfl, hw⟩; subst hw)
  refine bodyPost_ret (v := .tuple #[zNode, .bool false]) ?_ rfl ?_
  · simp only [results, Tryz.results224]
    go_simp
    rfl
  · exact ⟨rfl, bA⟩

set_option maxRecDepth 100000 in
set_option maxHeartbeats 400000 in
theorem hash_gone (q : Option Addr) (i : Int) (W : World) (h : Gone q W) : Calls Tryz.prog 136 #[.pointer q, .int .i64 i] W fun e w' => e = .returned (.slice none 0 0) ∧ w' = W := by
  unfold Gone at h
  go_enter Tryz.func136, Tryz.ntmps136
  go_wp2_with (go_at_call 63; refine h.mono ?_; rintro e w1 ⟨rfl, rfl⟩)
  go_ret
  exact ⟨rfl, rfl⟩

set_option maxRecDepth 100000 in
set_option maxHeartbeats 400000 in
theorem sweep_gone (q : Option Addr) (p : Option Addr) (n c : Nat) (W : World) (h : Gone q W) : Calls Tryz.prog 167 #[.pointer q, .slice p n c] W fun e w' => e = .returned (.int .i64 0) ∧ w' = W := by
  unfold Gone at h
  go_enter Tryz.func167, Tryz.ntmps167
  go_wp2_with (go_at_call 63; refine h.mono ?_; rintro e w1 ⟨rfl, rfl⟩)
  go_ret
  exact ⟨rfl, rfl⟩

set_option maxRecDepth 100000 in
set_option maxHeartbeats 400000 in
theorem used_gone (q : Option Addr) (W : World) (h : Gone q W) : Calls Tryz.prog 33 #[.pointer q] W fun e w' => e = .returned (.int .i64 0) ∧ w' = W := by
  unfold Gone at h
  go_enter Tryz.func33, Tryz.ntmps33
  go_wp2_with (go_at_call 63; refine h.mono ?_; rintro e w1 ⟨rfl, rfl⟩)
  go_ret
  exact ⟨rfl, rfl⟩

set_option maxRecDepth 100000 in
set_option maxHeartbeats 400000 in
theorem room_gone (q : Option Addr) (W : World) (h : Gone q W) : Calls Tryz.prog 203 #[.pointer q] W fun e w' => e = .returned (.int .i64 0) ∧ w' = W := by
  unfold Gone at h
  go_enter Tryz.func203, Tryz.ntmps203
  go_wp2_with (go_at_call 63; refine h.mono ?_; rintro e w1 ⟨rfl, rfl⟩)
  go_ret
  exact ⟨rfl, rfl⟩

set_option maxRecDepth 100000 in
set_option maxHeartbeats 400000 in
theorem size_gone (q : Option Addr) (W : World) (h : Gone q W) : Calls Tryz.prog 223 #[.pointer q] W fun e w' => e = .returned (.int .i64 0) ∧ w' = W := by
  unfold Gone at h
  go_enter Tryz.func223, Tryz.ntmps223
  go_wp2_with (go_at_call 63; refine h.mono ?_; rintro e w1 ⟨rfl, rfl⟩)
  go_ret
  exact ⟨rfl, rfl⟩

end Go.Proofs.YtcgpgnajmfemhaaGreatDoor.Vf

namespace Go.Proofs.YtcgpgnajmfemhaaGreatDoor
open Go.RowKit

/-- The second world grew out of the first one, and nothing that was there is changed but block g. -/
def Only (g : Nat) (w w' : World) : Prop := Below g w w' ∧ ∀ k, g < k → k < w.heap.size → w'.heap[k]? = w.heap[k]?

theorem Only.refl (g : Nat) (w : World) : Only g w w := ⟨Below.refl _ _, fun _ _ _ => rfl⟩
theorem Only.trans {g : Nat} {a b c : World} (h1 : Only g a b) (h2 : Only g b c) : Only g a c :=
  ⟨h1.1.trans h2.1, fun k hk hs => (h2.2 k hk (Nat.lt_of_lt_of_le hs h1.1.size)).trans (h1.2 k hk hs)⟩
theorem Only.of_below {g : Nat} {w w' : World} (h : Below w.heap.size w w') (hg : g ≤ w.heap.size) : Only g w w' := ⟨h.mono hg, fun k _ hs => h.block k hs⟩
theorem Only.setCell {g : Nat} {w w' : World} (h : Only g w w') (i : Nat) (u : Value) : Only g w (w'.setCell ⟨g, i, none⟩ u) :=
  ⟨h.1.setCell (Nat.le_refl _) _, fun k hk hs => by rw [heap_setCell_other w' ⟨g, i, none⟩ k u (by simp; omega)]; exact h.2 k hk hs⟩
theorem Only.drewN {g : Nat} {w w' : World} (h : Only g w w') (n : Nat) : Only g w (w'.drewN n) := ⟨below_drewN h.1 n, fun k hk hs => h.2 k hk hs⟩
theorem Only.below {g B : Nat} {w w' : World} (h : Only g w w') (hB : B ≤ g) : Below B w w' := h.1.mono hB
theorem Only.size {g : Nat} {w w' : World} (h : Only g w w') : w.heap.size ≤ w'.heap.size := h.1.size
theorem Only.block {g : Nat} {w w' : World} (h : Only g w w') (k : Nat) (hk : k ≠ g) (hs : k < w.heap.size) : w'.heap[k]? = w.heap[k]? := by
  rcases Nat.lt_or_gt_of_ne hk with h1 | h1
  · exact h.1.block k h1
  · exact h.2 k h1 hs

theorem cell_lt {w : World} {b o : Nat} {v : Value} (h : w.cell? ⟨b, o, none⟩ = some v) : b < w.heap.size := by
  rcases Nat.lt_or_ge b w.heap.size with h1 | h1
  · exact h1
  · exfalso
    have e : w.heap[b]? = none := Array.getElem?_eq_none h1
    simp [World.cell?, e] at h

theorem HB.only {w w' : World} {g : Nat} {v : Value} {l : List UInt8} (h : HB w v l) (hn : ∀ a n c, v = .slice (some a) n c → a.block ≠ g) (ho : Only g w w') : HB w' v l := by
  obtain ⟨p, cap, e, h1, h2, h3, h4⟩ := h
  refine ⟨p, cap, e, h1, h2, h3, fun hne => ?_⟩
  obtain ⟨b, o, e1, e2⟩ := h4 hne
  refine ⟨b, o, e1, fun i x hx => ?_⟩
  have hc := e2 i x hx
  have hb : b ≠ g := hn ⟨b, o, none⟩ l.length cap (by rw [e, e1])
  have hlt : b < w.heap.size := cell_lt hc
  rw [World.cell?_of_block (w := w) (ho.block b hb hlt)]
  exact hc

end Go.Proofs.YtcgpgnajmfemhaaGreatDoor

namespace Go.Proofs.YtcgpgnajmfemhaaGreatDoor.Vf
open Go.RowKit

/-- Block g holds an arena with n nodes and no free places. -/
def AG (w : World) (g : Nat) (s r : Int) (p : Option Addr) (n c : Nat) : Prop := w.heap[g]? = some (.cells #[.int .i64 s, .int .i64 r, .slice p n c, .slice none 0 0] 134 (0, 0))

theorem AG.cells {w : World} {g : Nat} {s r : Int} {p : Option Addr} {n c : Nat} (h : AG w g s r p n c) : w.cell? ⟨g, 0, none⟩ = some (.int .i64 s) ∧ w.cell? ⟨g, 1, none⟩ = some (.int .i64 r) ∧ w.cell? ⟨g, 2, none⟩ = some (.slice p n c) ∧ w.cell? ⟨g, 3, none⟩ = some (.slice none 0 0) := by
  have h' : w.heap[g]? = some (.cells #[.int .i64 s, .int .i64 r, .slice p n c, .slice none 0 0] 134 (0, 0)) := h
  refine ⟨?_, ?_, ?_, ?_⟩
  · rw [cell_of_row _ _ 0 _ _ _ h']; rfl
  · rw [cell_of_row _ _ 1 _ _ _ h']; rfl
  · rw [cell_of_row _ _ 2 _ _ _ h']; rfl
  · rw [cell_of_row _ _ 3 _ _ _ h']; rfl

theorem AG.lt {w : World} {g : Nat} {s r : Int} {p : Option Addr} {n c : Nat} (h : AG w g s r p n c) : g < w.heap.size := (Array.getElem?_eq_some_iff.1 h).1
theorem AG.later {w w' : World} {g : Nat} {s r : Int} {p : Option Addr} {n c : Nat} (h : AG w g s r p n c) (hb : Below w.heap.size w w') : AG w' g s r p n c := (hb.block g h.lt).trans h
theorem AG.free {w : World} {g : Nat} {s r : Int} {p : Option Addr} {n c : Nat} (h : AG w g s r p n c) (i : Nat) : w.frozen? ⟨g, i, none⟩ = false := by
  unfold AG at h
  simp [World.frozen?, h]

set_option maxRecDepth 100000 in
set_option maxHeartbeats 400000 in
theorem anew_ok (s r : Int) (w : World) (h1 : 1 ≤ s) (h2 : s ≤ 32) (h3 : 1 ≤ r) (h4 : r ≤ 4194304) : Calls Tryz.prog 74 #[.int .i64 s, .int .i64 r] w fun e w' => e = .returned (.tuple #[.pointer (some ⟨w.heap.size, 0, none⟩), .int .i64 0]) ∧ AG w' w.heap.size s r none 0 0 ∧ Below w.heap.size w w' := by
  have a1 : ¬ s < 1 := by omega
  have a2 : ¬ 32 < s := by omega
  have a3 : ¬ r < 1 := by omega
  have a4 : ¬ 4194304 < r := by omega
  go_enter Tryz.func74, Tryz.ntmps74
  go_wp2
  go_ret2
  exact ⟨rfl, heap_alloc_new w _, (Below.refl _ w).alloc (Nat.le_refl _) _⟩

set_option maxRecDepth 100000 in
set_option maxHeartbeats 400000 in
theorem has_out (g : Nat) (s r i : Int) (p : Option Addr) (n c : Nat) (w : World) (h : AG w g s r p n c) (hi : i < 0 ∨ (n : Int) ≤ i) : Calls Tryz.prog 169 #[.pointer (some ⟨g, 0, none⟩), .int .i64 i] w fun e w' => e = .returned (.bool false) ∧ w' = w := by
  obtain ⟨c0, c1, c2, c3⟩ := h.cells
  clear h
  go_enter Tryz.func169, Tryz.ntmps169
  by_cases hi2 : i < 0
  · have hi3 : ¬ 0 ≤ i := by omega
    go_wp2
    go_ret
    exact ⟨rfl, rfl⟩
  · have hi3 : 0 ≤ i := by omega
    have hi4 : ¬ i < (n : Int) := by omega
    clear hi
    go_wp2
    go_ret
    exact ⟨rfl, rfl⟩

set_option maxRecDepth 100000 in
set_option maxHeartbeats 400000 in
theorem has_in (g : Nat) (s r : Int) (i b n c : Nat) (ad : Addr) (w : World) (h : AG w g s r (some ⟨b, 0, none⟩) n c) (hi : i < n) (hc : w.cell? ⟨b, i, none⟩ = some (.pointer (some ad))) : Calls Tryz.prog 169 #[.pointer (some ⟨g, 0, none⟩), .int .i64 (i : Int)] w fun e w' => e = .returned (.bool true) ∧ w' = w := by
  obtain ⟨c0, c1, c2, c3⟩ := h.cells
  clear h
  have hi2 : ¬ (i : Int) < 0 := by omega
  have hi3 : (0 : Int) ≤ (i : Int) := by omega
  have hi4 : (i : Int) < (n : Int) := by omega
  go_enter Tryz.func169, Tryz.ntmps169
  go_wp2
  go_ret
  exact ⟨rfl, rfl⟩

set_option maxRecDepth 100000 in
set_option maxHeartbeats 400000 in
theorem node_out (g : Nat) (s r i : Int) (p : Option Addr) (n c : Nat) (w : World) (h : AG w g s r p n c) (hs : s ≠ 0) (hi : i < 0 ∨ (n : Int) ≤ i) : Calls Tryz.prog 224 #[.pointer (some ⟨g, 0, none⟩), .int .i64 i] w fun e w' => e = .returned (.tuple #[zNode, .bool false]) ∧ Below w.heap.size w w' := by
  have bA := (Below.refl _ w).alloc (Nat.le_refl _) (.cells #[.bool false, .slice none 0 0, .slice none 0 0, .int .i64 0, .int .i64 0, .slice none 0 0, .int .i64 0, .int .i64 0, .int .i64 0, .slice none 0 0] 228)
  have hM := miss_no g s _ (h.later bA).cells.1 hs
  have hH := has_out g s r i p n c _ (h.later bA) hi
  clear h
  go_enter Tryz.func224, Tryz.ntmps224
  go_wp2_with (first | (go_at_call 63; refine hM.mono ?_; rintro e w1 ⟨rfl, hw⟩; subst hw) | (go_at_call 169; refine hH.mono ?_; rintro e w1 ⟨rfl, hw⟩; subst hw))
  refine bodyPost_ret (v := .tuple #[zNode, .bool false]) ?_ rfl ?_
  · simp only [results, Tryz.results224]
    go_simp
    rfl
  · exact ⟨rfl, bA⟩

set_option maxRecDepth 100000 in
set_option maxHeartbeats 400000 in
theorem isLen_any (p : Option Addr) (n c : Nat) (w : World) : Calls Tryz.prog 64 #[.slice p n c] w fun e w' => e = .returned (.int .i64 (n : Int)) ∧ w' = w := by
  go_enter Tryz.func64, Tryz.ntmps64
  go_wp2
  go_ret
  exact ⟨rfl, rfl⟩

set_option maxRecDepth 100000 in
set_option maxHeartbeats 400000 in
theorem used_any (g : Nat) (s r : Int) (p : Option Addr) (n c : Nat) (w : World) (h : AG w g s r p n c) (hs : s ≠ 0) (hn : n ≤ 4194304) : Calls Tryz.prog 33 #[.pointer (some ⟨g, 0, none⟩)] w fun e w' => e = .returned (.int .i64 (n : Int)) ∧ Below w.heap.size w w' := by
  have hM := miss_no g s w h.cells.1 hs
  obtain ⟨c0, c1, c2, c3⟩ := h.cells
  have hw : IntKind.i64.wrap (n : Int) = (n : Int) := by simp [IntKind.wrap, IntKind.bits, IntKind.signed]; omega
  clear h
  go_enter Tryz.func33, Tryz.ntmps33
  go_wp2_with (first | (go_at_call 63; refine hM.mono ?_; rintro e w1 ⟨rfl, hw⟩; subst hw))
  go_region_held3 (fun w' => w'.cell? ⟨g, 2, none⟩ = some (.slice p n c) ∧ w'.cell? ⟨g, 3, none⟩ = some (.slice none 0 0)) (first | exact ⟨c2, c3⟩ | exact ⟨by simpa using c2, by simpa using c3⟩) (first
    | (go_at_call 64; refine (isLen_any _ _ _ _).mono ?_; rintro e w2 ⟨rfl, hw⟩; subst hw))
  go_wp2
  go_ret
  exact ⟨by simp, (Below.refl _ _).drew⟩

set_option maxRecDepth 100000 in
set_option maxHeartbeats 400000 in
theorem room_any (g : Nat) (s r : Int) (p : Option Addr) (n c : Nat) (w : World) (h : AG w g s r p n c) (hs : s ≠ 0) (hn : n ≤ 4194304) (hr : (n : Int) ≤ r) (hr2 : r ≤ 4194304) : Calls Tryz.prog 203 #[.pointer (some ⟨g, 0, none⟩)] w fun e w' => e = .returned (.int .i64 (r - (n : Int))) ∧ Below w.heap.size w w' := by
  have hM := miss_no g s w h.cells.1 hs
  have hU := fun w' h' => used_any g s r p n c w' h' hs hn
  obtain ⟨c0, c1, c2, c3⟩ := h.cells
  have hw : IntKind.i64.wrap (r - (n : Int)) = r - (n : Int) := by simp [IntKind.wrap, IntKind.bits, IntKind.signed]; omega
  go_enter Tryz.func203, Tryz.ntmps203
  go_wp2_with (first | (go_at_call 63; refine hM.mono ?_; rintro e w1 ⟨rfl, hw⟩; subst hw))
  have hbd : Below w1.heap.size w1 w1.drew := (Below.refl _ _).drew
  have hUd := hU _ (h.later hbd)
  clear hU h
  go_region_held3 (fun w' => w'.cell? ⟨g, 1, none⟩ = some (.int .i64 r)) (first | exact c1 | simpa using c1 | exact d1) (first
    | (go_at_call 33; refine hUd.mono ?_; rintro e w2 ⟨rfl, hb2⟩; have hb02 : Below w1.heap.size w1 w2 := hbd.trans (hb2.mono (by simp)); have d1 := cell_later hb02 c1))
  go_wp2
  go_ret
  exact ⟨by simp, hb02⟩

end Go.Proofs.YtcgpgnajmfemhaaGreatDoor.Vf
