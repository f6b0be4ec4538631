/- What this text proves: the walk of an arena's Leaf over this program, of an arena with no free places. -/
import Derived.Test.YtofchcheoanmdaaDoorANodeV
import Derived.Test.YtofchcheoanmdaaDoorAHashC
import Derived.Test.YtofchcheoanmdaaDoorCloneO
namespace Go.Proofs.YtofchcheoanmdaaDoor
open Go.RowKit

/-- A leaf. -/
def leafS (s : Int) (id key : List UInt8) (since : Int) : NodeS := ⟨true, id, key, since, 0, [], since, 0, 0, leafF s id key since⟩

set_option maxRecDepth 100000 in
set_option maxHeartbeats 2000000 in
theorem leaf_ok (g n c base : Nat) (s r since : Int) (p : Option Addr) (xs : List Value) (vi vk : Value) (id key : List UInt8) (w : World) (h : AG w g s r p n c) (ho : w.ownsRow base 91 1 (.slice p n c) n xs) (hbase : base ≤ w.heap.size) (hs : s ≠ 0) (hr : (n : Int) < r) (hr2 : r ≤ 4194304)
    (hi : HB w vi id) (hk : HB w vk key) (hT : Tabs w) (hs0 : 0 ≤ since) (hid : id.length ≤ 65535) (hkey : key.length ≤ 65535) :
    Calls Tryd.prog 26 #[.pointer (some ⟨g, 0, none⟩), vi, vk, .int .i64 since] w fun e w' => ∃ p' c' nb, e = .returned (.tuple #[.int .i64 (n : Int), .int .i64 0]) ∧ AG w' g s r p' (n + 1) c' ∧ w'.ownsRow base 91 1 (.slice p' (n + 1) c') (n + 1) (xs ++ [.pointer (some ⟨nb, 0, none⟩)]) ∧ NB w' nb (leafS s id key since) ∧ w.heap.size ≤ nb ∧ Fr g (Value.slice p n c).ownBlock w w' := by
  obtain ⟨pi, ci, rfl⟩ := hi.shape
  obtain ⟨pk, ck, rfl⟩ := hk.shape
  have hM := miss_no g s w h.cells.1 hs
  have a1 : ¬ since < 0 := by omega
  have a2 : ¬ (65535 : Int) < (id.length : Int) := by omega
  have a3 : ¬ (65535 : Int) < (key.length : Int) := by omega
  have c0 := h.cells.1
  have hd : Below w.heap.size w w.drew := (Below.refl _ w).drew
  have hC1 := clone_own _ id _ (hi.later hd) (by omega)
  have HF : Hid (leafS s id key since = ⟨true, id, key, since, 0, [], since, 0, 0, leafF s id key since⟩) := rfl
  have hL := fun w' h1 h2 h3 => leafHash_any s since (.slice pi id.length ci) (.slice pk key.length ck) id key w' h1 h2 h3
  generalize leafS s id key since = X at *
  generalize leafF s id key since = F at *
  go_enter Tryd.func26, Tryd.ntmps26
  go_wp2_with (first | (go_at_call 55; refine hM.mono ?_; rintro e w1 ⟨rfl, hw⟩; have hw2 := hw.symm; clear hw; subst hw2))
  clear hM
  go_region_held3 (fun w' => w'.cell? ⟨g, 0, none⟩ = some (.int .i64 s)) (first | exact c0 | exact d1 | exact d2 | exact d3 | exact d4 | exact cell_later ((Below.refl _ w3).alloc (Nat.le_refl _) _) d3 | simpa using c0) (first
    | (go_at_call 60; refine hC1.mono ?_; rintro e w1 ⟨p1, c1, rfl, o1, hb1'⟩; have hb1 : Below w.heap.size w w1 := hd.trans (hb1'.mono (by simp)); have d1 := cell_later hb1 c0)
    | (go_at_call 60; refine (clone_own _ key _ (hk.later hb1) (by omega)).mono ?_; rintro e w2 ⟨p2, c2, rfl, o2, hb2'⟩; have hb2 : Below w.heap.size w w2 := hb1.trans (hb2'.mono hb1.size); have d2 := cell_later hb2 c0)
    | (go_at_call 15; refine (hL _ (hi.later hb2) (hk.later hb2) (hT.later hb2)).mono ?_; rintro e w3 ⟨p3, c3, rfl, k3, hb3', t3⟩; have hb3 : Below w.heap.size w w3 := hb2.trans (hb3'.mono hb2.size); have d3 := cell_later hb3 c0)
    | (go_at_call 61; have bN := (Below.refl _ w3).alloc (Nat.le_refl _) (.cells #[.bool true, .slice p1 id.length c1, .slice p2 key.length c2, .int .i64 since, .int .i64 0, .slice none 0 0, .int .i64 since, .int .i64 0, .int .i64 0, .slice p3 F.length c3] 43); have hb4 : Below w.heap.size w (w3.alloc (.cells #[.bool true, .slice p1 id.length c1, .slice p2 key.length c2, .int .i64 since, .int .i64 0, .slice none 0 0, .int .i64 since, .int .i64 0, .int .i64 0, .slice p3 F.length c3] 43)) := hb3.trans (bN.mono hb3.size); have h4 := h.later hb4; have o4 := owns_later ho hb4; refine (put_new g n c base s r p xs ⟨w3.heap.size, 0, none⟩ _ h4 o4 (Nat.le_trans hbase hb4.size) hs hr hr2).mono ?_; rintro e w5 ⟨p5, c5, rfl, h5, o5, f5⟩; have d4 := h5.cells.1))
  have hX : NB (w3.alloc (.cells #[.bool true, .slice p1 id.length c1, .slice p2 key.length c2, .int .i64 since, .int .i64 0, .slice none 0 0, .int .i64 since, .int .i64 0, .int .i64 0, .slice p3 F.length c3] 43)) w3.heap.size X := by
    rw [HF.out]
    exact ⟨_, _, _, _, heap_alloc_new w3 _, ⟨(((HB.of_owns o1).later hb2').later hb3').later bN, (((TB.of_owns o1).later hb2').later hb3').later bN⟩, ⟨((HB.of_owns o2).later hb3').later bN, ((TB.of_owns o2).later hb3').later bN⟩, HT.nil _, ⟨k3.later bN, t3.later bN⟩⟩
  have hX5 := hX.fr h4 o4 f5
  have hF : Fr g (Value.slice p n c).ownBlock w w5 := by
    refine ⟨fun B h1 h2 h3 => (hb4.mono h3).trans (f5.1 B h1 h2 (Nat.le_trans h3 hb4.size)), fun k hk1 hk2 hk3 => (f5.2 k (Nat.lt_of_lt_of_le hk1 hb4.size) hk2 hk3).trans (hb4.block k hk1)⟩
  have hs3 := hb3.size
  clear hX h4 o4 f5 bN hb4 o1 o2 k3 t3 hb1 hb1' hb2 hb2' hb3 hb3' d1 d2 d3 d4 hC1 hL ho h c0 hi hk
  go_wp2
  go_ret2
  exact ⟨_, _, _, rfl, h5, o5, hX5, hs3, hF⟩

end Go.Proofs.YtofchcheoanmdaaDoor
