/- What this text proves: the walk of an arena's put over this program, of an arena with no free places and with room: behind the last node. What this text holds: plain facts: a node in memory, and what stays of it where an arena is changed (no walk). What this text proves: the walk of bytes.Clone over this program: the same bytes in a row that the call owns (nil stays nil). What this text proves: the walk of an arena's Hash over this program, at a place where a node stands. What this text proves: the walk of an arena's Size over this program. -/
import Derived.Test.YtcgpgnajmfemhaaGreatDoorJQ2
import Derived.Test.YtcgpgnajmfemhaaGreatDoorJOw
import Derived.Deep.AppendLies
import Derived.Test.YtcgpgnajmfemhaaGreatDoorJQ6
import Derived.Test.YtcgpgnajmfemhaaGreatDoorJQ4
namespace Go.Proofs.YtcgpgnajmfemhaaGreatDoor.Vf
open Go.RowKit

theorem i_pnode : (Tryz.prog.info? 229).map (fun i => (i.zero, i.size, i.bytes)) = some (some (.pointer none), 1, 8) := by kernel_rfl

/-- Nothing that was there is changed but block g and perhaps one more. -/
def Fr (g : Nat) (o : Option Nat) (w w' : World) : Prop := (∀ B, B ≤ g → (∀ k, o = some k → B ≤ k) → B ≤ w.heap.size → Below B w w') ∧ ∀ k, k < w.heap.size → k ≠ g → some k ≠ o → w'.heap[k]? = w.heap[k]?

set_option maxRecDepth 100000 in
set_option maxHeartbeats 1000000 in
theorem put_new (g n c base : Nat) (s r : Int) (p : Option Addr) (xs : List Value) (ad : Addr) (w : World) (h : AG w g s r p n c) (ho : w.ownsRow base 229 1 (.slice p n c) n xs) (hbase : base ≤ w.heap.size) (hs : s ≠ 0) (hr : (n : Int) < r) (hr2 : r ≤ 4194304) :
    Calls Tryz.prog 228 #[.pointer (some ⟨g, 0, none⟩), .pointer (some ad)] w fun e w' => ∃ p' c', e = .returned (.tuple #[.int .i64 (n : Int), .int .i64 0]) ∧ AG w' g s r p' (n + 1) c' ∧ w'.ownsRow base 229 1 (.slice p' (n + 1) c') (n + 1) (xs ++ [.pointer (some ad)]) ∧ Fr g (Value.slice p n c).ownBlock w w' := by
  have hn : n ≤ 4194304 := by omega
  have hR := room_any g s r p n c w h hs hn (by omega) hr2
  have hrn : ¬ (r - (n : Int)) = 0 := by omega
  go_enter Tryz.func228, Tryz.ntmps228
  go_wp2_with fail
  refine hR.mono ?_
  rintro e w1 ⟨rfl, hb1⟩
  have h1 := h.later hb1
  obtain ⟨c0, c1, c2, c3⟩ := h1.cells
  obtain ⟨i0, hi, hz0, hz1, hz2⟩ := info_parts i_pnode
  have bA := (Below.refl _ w1).alloc (Nat.le_refl _) (.cells #[.pointer (some ad)] 229)
  have o1 := owns_later (owns_later ho hb1) bA
  have hsz := hb1.size
  go_wp2_with (first | (go_at_call 64; refine (isLen_any _ _ _ _).mono ?_; rintro e w2 ⟨rfl, hw⟩; have hw2 := hw.symm; clear hw; subst hw2) | (at_builtin; go_loud (refine wpList_append_own _ rfl (.tmp 35) (.tmp 37) 129 rfl base 229 i0 (.pointer none) 1 8 Tryz.underlying129 hi hz0 hz1 hz2 rfl (by decide) _ _ _ rfl o1 ⟨w1.heap.size, 0, none⟩ 1 1 [.pointer (some ad)] rfl rfl (World.news_of_block (cs := #[.pointer (some ad)]) (t := 229) (fr := (0, 0)) (heap_alloc_new w1 _)) (by simp [Value.oneCell']) ?sa ?sb ?sc ?_)))
  case sa => unfold maxLen; omega
  case sb => omega
  case sc => simp; omega
  intro v2 w2 o2 hg2 _
  have hgo : some g ≠ (Value.slice p n c).ownBlock := by
    intro e
    rcases (owns_later ho hb1).2 with ⟨e1, _⟩ | ⟨g', cap, cur, e1, _, e2, _⟩
    · rw [e1] at e; cases e
    · rw [e1] at e
      have e3 : g = g' := by simpa [Value.ownBlock] using e
      subst e3
      have h2 : w1.heap[g]? = some (.cells #[.int .i64 s, .int .i64 r, .slice p n c, .slice none 0 0] 134 (0, 0)) := h1
      rw [h2] at e2
      simp at e2
  have h1A : AG (w1.alloc (.cells #[.pointer (some ad)] 229)) g s r p n c := h1.later bA
  have h2 : AG w2 g s r p n c := (hg2.block g h1A.lt hgo).trans h1A
  obtain ⟨d0, d1, d2, d3⟩ := h2.cells
  have f2 := h2.free 2
  obtain ⟨p2, q2, rfl⟩ := owns_shape o2
  have h3 : AG (w2.setCell ⟨g, 2, none⟩ (.slice p2 (n + 1) q2)) g s r p2 (n + 1) q2 := by
    show _ = _
    rw [heap_setCell_same w2 g 2 _ _ _ h2]
    rfl
  have hA0 : w1.heap.size ≤ (w1.alloc (.cells #[.pointer (some ad)] 229)).heap.size := bA.size
  have o3 : (w2.setCell ⟨g, 2, none⟩ (.slice p2 (n + 1) q2)).ownsRow base 229 1 (.slice p2 (n + 1) q2) (n + 1) (xs ++ [.pointer (some ad)]) := by
    refine ⟨o2.1, ?_⟩
    rcases o2.2 with hn | ⟨g', cap, cur, e1, hbg, e2, rest⟩
    · exact .inl hn
    · refine .inr ⟨g', cap, cur, e1, hbg, ?_, rest⟩
      have hne : g' ≠ g := by
        rintro rfl
        have h2' : w2.heap[g']? = some (.cells #[.int .i64 s, .int .i64 r, .slice p n c, .slice none 0 0] 134 (0, 0)) := h2
        rw [h2'] at e2
        simp at e2
      rw [heap_setCell_other w2 ⟨g, 2, none⟩ g' _ hne]
      exact e2
  have fr : Fr g (Value.slice p n c).ownBlock w (w2.setCell ⟨g, 2, none⟩ (.slice p2 (n + 1) q2)) := by
    refine ⟨fun B hBg hBo hBw => ?_, fun k hk hkg hko => ?_⟩
    · exact ((((hb1.mono hBw).trans ((Below.refl B w1).alloc (by omega) (.cells #[.pointer (some ad)] 229))).grown hg2 (by omega) hBo).setCell (p := ⟨g, 2, none⟩) hBg _)
    · rw [heap_setCell_other w2 ⟨g, 2, none⟩ k _ hkg, hg2.block k (by omega) hko, bA.block k (by omega), hb1.block k hk]
  clear h h1 h1A h2 hg2 o2 o1 ho hgo hA0 c0 c1 c2 c3 hR
  go_wp2
  go_ret2
  exact ⟨_, _, rfl, h3, o3, fr⟩

end Go.Proofs.YtcgpgnajmfemhaaGreatDoor.Vf

namespace Go.Proofs.YtcgpgnajmfemhaaGreatDoor.Vf
open Go.RowKit

/-- A node. -/
structure NodeS where
  leaf : Bool
  id : List UInt8
  key : List UInt8
  since : Int
  depth : Int
  pre : List UInt8
  newest : Int
  left : Int
  right : Int
  hash : List UInt8

/-- Bytes in a block of bytes. -/
def HT (w : World) (v : Value) (l : List UInt8) : Prop := HB w v l ∧ TB w v

/-- Block b holds a node. -/
def NB (w : World) (b : Nat) (x : NodeS) : Prop := ∃ vi vk vp vh, w.heap[b]? = some (.cells #[.bool x.leaf, vi, vk, .int .i64 x.since, .int .i64 x.depth, vp, .int .i64 x.newest, .int .i64 x.left, .int .i64 x.right, vh] 228 (0, 0)) ∧ HT w vi x.id ∧ HT w vk x.key ∧ HT w vp x.pre ∧ HT w vh x.hash

theorem HT.later {w w' : World} {v : Value} {l : List UInt8} (h : HT w v l) (hb : Below w.heap.size w w') : HT w' v l := ⟨h.1.later hb, h.2.later hb⟩
theorem HT.nil (w : World) : HT w (.slice none 0 0) [] := ⟨HB.nil w, TB.nil _ _ _⟩
theorem NB.lt {w : World} {b : Nat} {x : NodeS} (h : NB w b x) : b < w.heap.size := by
  obtain ⟨vi, vk, vp, vh, h0, _⟩ := h
  exact (Array.getElem?_eq_some_iff.1 h0).1
theorem NB.later {w w' : World} {b : Nat} {x : NodeS} (h : NB w b x) (hb : Below w.heap.size w w') : NB w' b x := by
  have hl := h.lt
  obtain ⟨vi, vk, vp, vh, h0, h1, h2, h3, h4⟩ := h
  exact ⟨vi, vk, vp, vh, (hb.block b hl).trans h0, h1.later hb, h2.later hb, h3.later hb, h4.later hb⟩

/-- Bytes stay where an arena gets a node. -/
theorem HT.fr {w w' : World} {g : Nat} {s r : Int} {p : Option Addr} {n c base : Nat} {xs : List Value} {v : Value} {l : List UInt8} (h : HT w v l) (ha : AG w g s r p n c) (ho : w.ownsRow base 229 1 (.slice p n c) n xs) (hf : Fr g (Value.slice p n c).ownBlock w w') : HT w' v l := by
  have key : ∀ b o m d, v = .slice (some ⟨b, o, none⟩) m d → w'.heap[b]? = w.heap[b]? := by
    intro b o m d e
    obtain ⟨cur, fr, hb⟩ := h.2 b o m d e
    refine hf.2 b (Array.getElem?_eq_some_iff.1 hb).1 ?_ ?_
    · rintro rfl
      have ha' : w.heap[b]? = some (.cells #[.int .i64 s, .int .i64 r, .slice p n c, .slice none 0 0] 134 (0, 0)) := ha
      rw [hb] at ha'
      simp at ha'
    · intro e2
      rcases ho.2 with ⟨e1, _⟩ | ⟨g', cap, cur', e1, _, e3, _⟩
      · rw [e1] at e2; cases e2
      · rw [e1] at e2
        have e4 : b = g' := by simpa [Value.ownBlock] using e2
        subst e4
        rw [hb] at e3
        simp at e3
  refine ⟨?_, ?_⟩
  · obtain ⟨p', cap, e0, h1, h2, h3, h4⟩ := h.1
    refine ⟨p', cap, e0, h1, h2, h3, fun hne => ?_⟩
    obtain ⟨b, o, hp, hc⟩ := h4 hne
    subst hp
    refine ⟨b, o, rfl, fun i x hx => ?_⟩
    rw [World.cell?_of_block (w := w) (key _ _ _ _ e0)]
    exact hc i x hx
  · intro b o m d e
    obtain ⟨cur, fr, hb⟩ := h.2 b o m d e
    exact ⟨cur, fr, (key _ _ _ _ e).trans hb⟩

theorem NB.fr {w w' : World} {g b : Nat} {s r : Int} {p : Option Addr} {n c base : Nat} {xs : List Value} {x : NodeS} (h : NB w b x) (ha : AG w g s r p n c) (ho : w.ownsRow base 229 1 (.slice p n c) n xs) (hf : Fr g (Value.slice p n c).ownBlock w w') : NB w' b x := by
  have hl := h.lt
  obtain ⟨vi, vk, vp, vh, h0, h1, h2, h3, h4⟩ := h
  refine ⟨vi, vk, vp, vh, (hf.2 b hl ?_ ?_).trans h0, h1.fr ha ho hf, h2.fr ha ho hf, h3.fr ha ho hf, h4.fr ha ho hf⟩
  · rintro rfl
    have ha' : w.heap[b]? = some (.cells #[.int .i64 s, .int .i64 r, .slice p n c, .slice none 0 0] 134 (0, 0)) := ha
    rw [h0] at ha'
    simp at ha'
  · intro e2
    rcases ho.2 with ⟨e1, _⟩ | ⟨g', cap, cur', e1, _, e3, _⟩
    · rw [e1] at e2; cases e2
    · rw [e1] at e2
      have e4 : b = g' := by simpa [Value.ownBlock] using e2
      subst e4
      rw [h0] at e3
      simp at e3

end Go.Proofs.YtcgpgnajmfemhaaGreatDoor.Vf

namespace Go.Proofs.YtcgpgnajmfemhaaGreatDoor
open Go.RowKit

/-- bytes.Clone: a row that the call owns. -/
theorem clone_own (v : Value) (l : List UInt8) (w : World) (h : HB w v l) (hbig : l.length ≤ 140737488355328) :
    Calls Tryz.prog 44 #[v] w fun e w' => ∃ p c, e = .returned (.slice p l.length c) ∧ w'.ownsRow w.heap.size 5 1 (.slice p l.length c) l.length (bcs l) ∧ Below w.heap.size w w' := by
  have q22 : ∀ (w : World) (a : Option Addr) (n c n' c' : Nat), (binOp .eql 37 (.slice a n c) (.slice none n' c')).run Tryz.prog w = .ok (.bool a.isNone) w := fun w a n c n' c' => Lib.run_eql_slice_nil w _ _ a n c n' c' Tryz.underlying37
  obtain ⟨p, c, rfl⟩ := h.shape
  cases p with
  | none =>
    have hc := h.len.2.2.2 rfl
    have hl := h.len.2.1
    subst hc
    have e : l = [] := List.eq_nil_of_length_eq_zero (by omega)
    subst e
    clear h hl hbig
    go_enter Tryz.func44, Tryz.ntmps44
    go_wp2
    go_ret
    exact ⟨none, 0, rfl, World.ownsRow_nil _ _ _ _, Below.refl _ _⟩
  | some a =>
    have h2 : HB (w.alloc (.cells #[] 5)) (.slice (some a) l.length c) l := h.later ((Below.refl _ w).alloc (Nat.le_refl _) _)
    clear h
    go_enter Tryz.func44, Tryz.ntmps44
    go_wp2_with (at_builtin; refine wpList_append_hb rfl (.tmp 5) (.tmp 6) 37 rfl w.heap.size 5 Tryz.underlying37 i_u8 _ 0 [] rfl (World.ownsRow_made w #[] 0 (Nat.le_refl _) (Nat.zero_le _) rfl) _ _ _ l rfl h2 ?qa ?qb ?_)
    case qa => omega
    case qb => simp
    intro v1 w1 hown1 hgrow1
    have hb1 : Below w.heap.size w w1 := ((Below.refl _ w).alloc (Nat.le_refl _) _).grown hgrow1 (by simp) (by intro k hk; cases hk; exact Nat.le_refl _)
    have hown2 : w1.ownsRow w.heap.size 5 1 v1 l.length (bcs l) := by simpa using hown1
    obtain ⟨p1, c1, rfl⟩ := owns_shape hown2
    clear hown1 hgrow1 h2
    go_wp2
    go_ret
    exact ⟨_, _, rfl, hown2, hb1⟩

end Go.Proofs.YtcgpgnajmfemhaaGreatDoor

namespace Go.Proofs.YtcgpgnajmfemhaaGreatDoor.Vf
open Go.RowKit

theorem owns_get {w : World} {base n c : Nat} {e : TypeId} {p : Option Addr} {xs : List Value} (h : w.ownsRow base e 1 (.slice p n c) n xs) {i : Nat} {u : Value} (hu : xs[i]? = some u) : ∃ b, p = some ⟨b, 0, none⟩ ∧ w.cell? ⟨b, i, none⟩ = some u := by
  have hlen := h.1
  have hi : i < xs.length := (List.getElem?_eq_some_iff.1 hu).1
  rcases h.2 with ⟨_, e2⟩ | ⟨g, cap, cur, e1, _, e2, e3, _, _, e4⟩
  · omega
  · simp only [Value.slice.injEq] at e1
    refine ⟨g, e1.1, ?_⟩
    rw [cell_of_row w g i cur e _ e2]
    have : cur.toList[i]? = some u := by
      rw [← e4, List.getElem?_take] at hu
      split at hu
      · exact hu
      · cases hu
    simpa using this

theorem NB.cells {w : World} {b : Nat} {x : NodeS} (h : NB w b x) : ∃ vi vk vp vh, w.cell? ⟨b, 0, none⟩ = some (.bool x.leaf) ∧ w.cell? ⟨b, 1, none⟩ = some vi ∧ w.cell? ⟨b, 2, none⟩ = some vk ∧ w.cell? ⟨b, 3, none⟩ = some (.int .i64 x.since) ∧ w.cell? ⟨b, 4, none⟩ = some (.int .i64 x.depth) ∧ w.cell? ⟨b, 5, none⟩ = some vp ∧ w.cell? ⟨b, 6, none⟩ = some (.int .i64 x.newest) ∧ w.cell? ⟨b, 7, none⟩ = some (.int .i64 x.left) ∧ w.cell? ⟨b, 8, none⟩ = some (.int .i64 x.right) ∧ w.cell? ⟨b, 9, none⟩ = some vh ∧ HT w vi x.id ∧ HT w vk x.key ∧ HT w vp x.pre ∧ HT w vh x.hash := by
  obtain ⟨vi, vk, vp, vh, h0, h1, h2, h3, h4⟩ := h
  refine ⟨vi, vk, vp, vh, ?_, ?_, ?_, ?_, ?_, ?_, ?_, ?_, ?_, ?_, h1, h2, h3, h4⟩ <;> (rw [cell_of_row _ _ _ _ _ _ h0]; rfl)

set_option maxRecDepth 100000 in
set_option maxHeartbeats 1000000 in
theorem hash_at (g n c base i nb : Nat) (s r : Int) (p : Option Addr) (xs : List Value) (x : NodeS) (w : World) (h : AG w g s r p n c) (ho : w.ownsRow base 229 1 (.slice p n c) n xs) (hs : s ≠ 0) (hx : xs[i]? = some (.pointer (some ⟨nb, 0, none⟩))) (hX : NB w nb x) (hl : x.hash.length ≤ 32) :
    Calls Tryz.prog 136 #[.pointer (some ⟨g, 0, none⟩), .int .i64 (i : Int)] w fun e w' => ∃ p' c', e = .returned (.slice p' x.hash.length c') ∧ HB w' (.slice p' x.hash.length c') x.hash ∧ Below w.heap.size w w' := by
  have hM := miss_no g s w h.cells.1 hs
  have hi : i < n := by
    have := ho.1
    have := (List.getElem?_eq_some_iff.1 hx).1
    omega
  obtain ⟨b, rfl, hc⟩ := owns_get ho hx
  have hH := has_in g s r i b n c ⟨nb, 0, none⟩ w h hi hc
  obtain ⟨c0, c1, c2, c3⟩ := h.cells
  obtain ⟨vi, vk, vp, vh, _, _, _, _, _, _, _, _, _, n9, _, _, _, h4⟩ := hX.cells
  obtain ⟨ph, ch, rfl⟩ := h4.1.shape
  have hC := clone_own _ x.hash _ h4.1 (by omega)
  have hi0 : ¬ (i : Int) = -1 := by omega
  have hi3 : (0 : Int) ≤ (i : Int) := by omega
  have hi4 : (i : Int) < (n : Int) := by omega
  generalize x.hash = F at *
  clear h ho hX h4
  go_enter Tryz.func136, Tryz.ntmps136
  go_wp2_with (first | (go_at_call 63; refine hM.mono ?_; rintro e w1 ⟨rfl, hw⟩; have hw2 := hw.symm; clear hw; subst hw2) | (go_at_call 169; refine hH.mono ?_; rintro e w1 ⟨rfl, hw⟩; have hw2 := hw.symm; clear hw; subst hw2) | (go_at_call 44; refine hC.mono ?_; rintro e w2 ⟨p2, d2, rfl, o2, hb2⟩; have k2 := HB.of_owns o2; clear o2))
  go_ret
  exact ⟨_, _, rfl, k2, hb2⟩

end Go.Proofs.YtcgpgnajmfemhaaGreatDoor.Vf

namespace Go.Proofs.YtcgpgnajmfemhaaGreatDoor.Vf
open Go.RowKit

set_option maxRecDepth 100000 in
set_option maxHeartbeats 400000 in
theorem size_any (g : Nat) (s r : Int) (p : Option Addr) (n c : Nat) (w : World) (h : AG w g s r p n c) (hs : s ≠ 0) : Calls Tryz.prog 223 #[.pointer (some ⟨g, 0, none⟩)] w fun e w' => e = .returned (.int .i64 s) ∧ w' = w := by
  have hM := miss_no g s w h.cells.1 hs
  obtain ⟨c0, c1, c2, c3⟩ := h.cells
  clear h
  go_enter Tryz.func223, Tryz.ntmps223
  go_wp2_with (first | (go_at_call 63; refine hM.mono ?_; rintro e w1 ⟨rfl, hw⟩; have hw2 := hw.symm; clear hw; subst hw2))
  go_ret
  exact ⟨rfl, rfl⟩

end Go.Proofs.YtcgpgnajmfemhaaGreatDoor.Vf
