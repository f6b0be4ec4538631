/- What this text proves: the walks of a way's parts and needs, and of ptree.Insert over this program: the errors, and a first leaf. What this text proves: the walk of annalslaw09.awake over this program: it answers true. What this text proves: the walk of annalslaw10.awake over this program: it answers true. What this text proves: the walks of ptree.Get and ptree.Items over this program, at a place where no node stands: none. -/
import Derived.Test.YtofchcheoanmdaaDoorJA
import Derived.Test.YtofchcheoanmdaaDoorALeafW
import Derived.Test.YtofchcheoanmdaaDoorAHashW
import Derived.Lib.SlBytesConst
namespace Go.Proofs.YtofchcheoanmdaaDoor
open Go.RowKit

theorem Fr.only {g : Nat} {w w' : World} (f : Fr g (Value.slice none 0 0).ownBlock w w') (hg : g < w.heap.size) : Only g w w' :=
  ⟨f.1 g (Nat.le_refl _) (fun k hk => by cases hk) (by omega), fun k h1 h2 => f.2 k h2 (by omega) (fun e => by cases e)⟩

set_option maxRecDepth 100000 in
set_option maxHeartbeats 400000 in
theorem wparts_none (p : Option Addr) (n c : Nat) (w : World) : Calls Tryd.prog 68 #[.agg #[.slice p n c, .slice none 0 0, .int .i64 (-1), .int .i64 0, .bool false]] w fun e w' => e = .returned (.bool false) ∧ Below w.heap.size w w' := by
  have bA := (Below.refl _ w).alloc (Nat.le_refl _) (.cells #[.slice p n c, .slice none 0 0, .int .i64 (-1), .int .i64 0, .bool false] 99)
  go_enter Tryd.func68, Tryd.ntmps68
  go_wp2
  go_ret
  exact ⟨rfl, bA⟩

set_option maxRecDepth 100000 in
set_option maxHeartbeats 400000 in
theorem wneeds_none (p : Option Addr) (n c : Nat) (w : World) : Calls Tryd.prog 65 #[.agg #[.slice p n c, .slice none 0 0, .int .i64 (-1), .int .i64 0, .bool false]] w fun e w' => e = .returned (.int .i64 1) ∧ Below w.heap.size w w' := by
  have bA := (Below.refl _ w).alloc (Nat.le_refl _) (.cells #[.slice p n c, .slice none 0 0, .int .i64 (-1), .int .i64 0, .bool false] 99)
  go_enter Tryd.func65, Tryd.ntmps65
  have gA := heap_alloc_new w (.cells #[.slice p n c, .slice none 0 0, .int .i64 (-1), .int .i64 0, .bool false] 99)
  go_wp2_with (first | (go_at_call 68; refine (wparts_none _ _ _ _).mono ?_; rintro e w1 ⟨rfl, hb1⟩; have g1 := (hb1.block _ (Array.getElem?_eq_some_iff.1 gA).1).trans gA; have c1 : w1.cell? ⟨w.heap.size, 1, none⟩ = some (.slice none 0 0) := (by rw [cell_of_row _ _ 1 _ _ _ g1]; rfl)))
  go_ret
  exact ⟨rfl, bA.trans (hb1.mono bA.size)⟩

set_option maxRecDepth 100000 in
set_option maxHeartbeats 1000000 in
theorem insert_arg (g : Nat) (s r i since : Int) (p : Option Addr) (n c : Nat) (vi vk : Value) (id key : List UInt8) (w : World) (h : AG w g s r p n c) (hs : s ≠ 0) (hi : i < 0 ∨ (n : Int) ≤ i) (hid : HB w vi id) (hkey : HB w vk key) (hbad : i ≠ -1 ∨ 255 < id.length ∨ 65535 < key.length ∨ since < 0) :
    Calls Tryd.prog 33 #[.pointer (some ⟨g, 0, none⟩), .int .i64 i, vi, vk, .int .i64 since] w fun e w' => e = .returned (.tuple #[.int .i64 0, .int .i64 1]) ∧ Below w.heap.size w w' := by
  obtain ⟨pi, ci, rfl⟩ := hid.shape
  obtain ⟨pk, ck, rfl⟩ := hkey.shape
  have hM := pmissing_no g s r p n c w h hs
  have hR := isRoot_out g s r i p n c w h hs hi
  clear h hi
  have hc : i ≠ -1 ∨ (i = -1 ∧ 255 < id.length) ∨ (i = -1 ∧ id.length ≤ 255 ∧ 65535 < key.length) ∨ (i = -1 ∧ id.length ≤ 255 ∧ key.length ≤ 65535 ∧ since < 0) := by omega
  clear hbad
  go_enter Tryd.func33, Tryd.ntmps33
  rcases hc with h1 | ⟨h1, h2⟩ | ⟨h1, h2, h3⟩ | ⟨h1, h2, h3, h4⟩
  · have e1 : (i == -1) = false := by simpa using h1
    rw [e1] at hR
    go_wp2_with (first | (go_at_call 62; refine hM.mono ?_; rintro e w1 ⟨rfl, hw⟩; have hw2 := hw.symm; clear hw; subst hw2) | (go_at_call 63; refine hR.mono ?_; rintro e w1 ⟨rfl, hb1⟩))
    go_ret2
    exact ⟨rfl, hb1⟩
  · subst h1
    have e1 : ((-1 : Int) == -1) = true := rfl
    rw [e1] at hR
    have e2 : (255 : Int) < (id.length : Int) := by omega
    go_wp2_with (first | (go_at_call 62; refine hM.mono ?_; rintro e w1 ⟨rfl, hw⟩; have hw2 := hw.symm; clear hw; subst hw2) | (go_at_call 63; refine hR.mono ?_; rintro e w1 ⟨rfl, hb1⟩))
    go_ret2
    exact ⟨rfl, hb1⟩
  · subst h1
    have e1 : ((-1 : Int) == -1) = true := rfl
    rw [e1] at hR
    have e2 : ¬ (255 : Int) < (id.length : Int) := by omega
    have e3 : (65535 : Int) < (key.length : Int) := by omega
    go_wp2_with (first | (go_at_call 62; refine hM.mono ?_; rintro e w1 ⟨rfl, hw⟩; have hw2 := hw.symm; clear hw; subst hw2) | (go_at_call 63; refine hR.mono ?_; rintro e w1 ⟨rfl, hb1⟩))
    go_ret2
    exact ⟨rfl, hb1⟩
  · subst h1
    have e1 : ((-1 : Int) == -1) = true := rfl
    rw [e1] at hR
    have e2 : ¬ (255 : Int) < (id.length : Int) := by omega
    have e3 : ¬ (65535 : Int) < (key.length : Int) := by omega
    go_wp2_with (first | (go_at_call 62; refine hM.mono ?_; rintro e w1 ⟨rfl, hw⟩; have hw2 := hw.symm; clear hw; subst hw2) | (go_at_call 63; refine hR.mono ?_; rintro e w1 ⟨rfl, hb1⟩))
    go_ret2
    exact ⟨rfl, hb1⟩

set_option maxRecDepth 100000 in
set_option maxHeartbeats 1000000 in
theorem insert_first (g base : Nat) (s r since : Int) (vi vk : Value) (id key : List UInt8) (w : World) (h : AG w g s r none 0 0) (hbase : base ≤ w.heap.size) (hs : s ≠ 0) (hr : 1 ≤ r) (hr2 : r ≤ 4194304) (hid : HB w vi id) (hkey : HB w vk key) (hT : Tabs w) (h255 : id.length ≤ 255) (hk : key.length ≤ 65535) (hs0 : 0 ≤ since) :
    Calls Tryd.prog 33 #[.pointer (some ⟨g, 0, none⟩), .int .i64 (-1), vi, vk, .int .i64 since] w fun e w' => ∃ p' c' nb, e = .returned (.tuple #[.int .i64 0, .int .i64 0]) ∧ AG w' g s r p' 1 c' ∧ w'.ownsRow base 91 1 (.slice p' 1 c') 1 [.pointer (some ⟨nb, 0, none⟩)] ∧ NB w' nb (leafS s id key since) ∧ w.heap.size ≤ nb ∧ Only g w w' := by
  obtain ⟨pi, ci, rfl⟩ := hid.shape
  obtain ⟨pk, ck, rfl⟩ := hkey.shape
  have hM := pmissing_no g s r none 0 0 w h hs
  have hR := isRoot_out g s r (-1) none 0 0 w h hs (Or.inl (by decide))
  have e1 : ((-1 : Int) == -1) = true := rfl
  rw [e1] at hR
  have e2 : ¬ (255 : Int) < (id.length : Int) := by omega
  have e3 : ¬ (65535 : Int) < (key.length : Int) := by omega
  have e4 : ¬ since < 0 := by omega
  go_enter Tryd.func33, Tryd.ntmps33
  go_wp2_with (first | (go_at_call 62; refine hM.mono ?_; rintro e w1 ⟨rfl, hw⟩; have hw2 := hw.symm; clear hw; subst hw2) | (go_at_call 63; refine hR.mono ?_; rintro e w1 ⟨rfl, hb1⟩))
  have hb1' := hb1
  refine (down_out g s r (-1) none 0 0 _ id _ (h.later hb1) hs (Or.inl (by decide)) (hid.later hb1)).mono ?_
  rintro e w2 ⟨p2, c2, rfl, k2, hb2⟩
  have b2 := hb1.trans (hb2.mono hb1.size)
  generalize (keyF id).length = KL at *
  have hrn : r - ((0 : Nat) : Int) = r := by omega
  have hRm := fun w' h' => room_any g s r none 0 0 w' h' hs (by decide) (by simp; omega) hr2
  simp only [hrn] at hRm
  clear hM hR hb1 hb2 hb1'
  go_wp2_with fail
  obtain ⟨V, hV⟩ : ∃ V, V = w2.alloc (.cells #[.slice p2 KL c2, .slice none 0 0, .int .i64 (-1), .int .i64 0, .bool false] 99) := ⟨_, rfl⟩
  have bV : Below w2.heap.size w2 V := by rw [hV]; exact (Below.refl _ w2).alloc (Nat.le_refl _) _
  have gV : V.heap[w2.heap.size]? = some (.cells #[.slice p2 KL c2, .slice none 0 0, .int .i64 (-1), .int .i64 0, .bool false] 99 (0, 0)) := by rw [hV]; exact heap_alloc_new w2 _
  rw [← hV]
  clear hV
  have b0V := b2.trans (bV.mono b2.size)
  have hcell : ∀ W', Below V.heap.size V W' → W'.cell? ⟨w2.heap.size, 0, none⟩ = some (.slice p2 KL c2) ∧ W'.cell? ⟨w2.heap.size, 1, none⟩ = some (.slice none 0 0) ∧ W'.cell? ⟨w2.heap.size, 2, none⟩ = some (.int .i64 (-1)) ∧ W'.cell? ⟨w2.heap.size, 3, none⟩ = some (.int .i64 0) ∧ W'.cell? ⟨w2.heap.size, 4, none⟩ = some (.bool false) := by
    intro W' hb
    refine ⟨cell_later hb ?_, cell_later hb ?_, cell_later hb ?_, cell_later hb ?_, cell_later hb ?_⟩
    · rw [cell_of_row _ _ 0 _ _ _ gV]; rfl
    · rw [cell_of_row _ _ 1 _ _ _ gV]; rfl
    · rw [cell_of_row _ _ 2 _ _ _ gV]; rfl
    · rw [cell_of_row _ _ 3 _ _ _ gV]; rfl
    · rw [cell_of_row _ _ 4 _ _ _ gV]; rfl
  have hd : Below V.heap.size V V.drew := (Below.refl _ V).drew
  have hRV := hRm _ ((h.later b0V).later hd)
  have k0 := hcell V (Below.refl _ _)
  have hr3 : ¬ r < 1 := by omega
  go_region_held3 (fun W' => W'.cell? ⟨w2.heap.size, 0, none⟩ = some (.slice p2 KL c2) ∧ W'.cell? ⟨w2.heap.size, 1, none⟩ = some (.slice none 0 0) ∧ W'.cell? ⟨w2.heap.size, 2, none⟩ = some (.int .i64 (-1)) ∧ W'.cell? ⟨w2.heap.size, 3, none⟩ = some (.int .i64 0) ∧ W'.cell? ⟨w2.heap.size, 4, none⟩ = some (.bool false)) (first | exact k0 | exact hcell _ hd | exact hcell _ h3 | exact hcell _ h4) (first
    | (go_at_call 25; refine hRV.mono ?_; rintro e w3 ⟨rfl, hb3⟩; have h3 : Below V.heap.size V w3 := hd.trans (hb3.mono (by simp)))
    | (go_at_call 65; refine (wneeds_none _ _ _ _).mono ?_; rintro e w4 ⟨rfl, hb4⟩; have h4 : Below V.heap.size V w4 := h3.trans (hb4.mono h3.size)))
  have b4 := b0V.trans (h4.mono b0V.size)
  have hLf := leaf_ok g 0 0 base s r since none [] _ _ id key w4 (h.later b4) (World.ownsRow_nil _ _ _ _) (Nat.le_trans hbase b4.size) hs (by simp; omega) hr2 (hid.later b4) (hkey.later b4) (hT.later b4) hs0 (by omega) hk
  have g4 := (h4.block _ (Array.getElem?_eq_some_iff.1 gV).1).trans gV
  clear hRm hRV k0 hcell gV h3 hb3 hb4 hd
  have hgl := h.lt
  have sz2 := b2.size
  go_wp2_with fail
  refine hLf.mono ?_
  rintro e w5 ⟨p5, c5, nb, rfl, h5, o5, n5, hnb, f5⟩
  have on5 := f5.only (h.later b4).lt
  have g5 := (on5.block w2.heap.size (by omega) (Array.getElem?_eq_some_iff.1 g4).1).trans g4
  have d0 : w5.cell? ⟨w2.heap.size, 0, none⟩ = some (.slice p2 KL c2) := by rw [cell_of_row _ _ 0 _ _ _ g5]; rfl
  have d1 : w5.cell? ⟨w2.heap.size, 1, none⟩ = some (.slice none 0 0) := by rw [cell_of_row _ _ 1 _ _ _ g5]; rfl
  have d2 : w5.cell? ⟨w2.heap.size, 2, none⟩ = some (.int .i64 (-1)) := by rw [cell_of_row _ _ 2 _ _ _ g5]; rfl
  have d3 : w5.cell? ⟨w2.heap.size, 3, none⟩ = some (.int .i64 0) := by rw [cell_of_row _ _ 3 _ _ _ g5]; rfl
  have d4 : w5.cell? ⟨w2.heap.size, 4, none⟩ = some (.bool false) := by rw [cell_of_row _ _ 4 _ _ _ g5]; rfl
  have on05 : Only g w w5 := (Only.of_below b4 (by omega)).trans on5
  clear hLf f5 on5 g4 h4 hid hkey hT h
  go_wp2_with (first | (go_at_call 68; refine (wparts_none _ _ _ _).mono ?_; rintro e w6 ⟨rfl, hb6⟩; have x1 := cell_later hb6 d1))
  have h6 := h5.later hb6
  have o6 := owns_later o5 hb6
  have n6 := n5.later hb6
  have on6 : Only g w w6 := on05.trans (Only.of_below hb6 (by have := on05.size; omega))
  have hnb6 : w.heap.size ≤ nb := Nat.le_trans b4.size hnb
  clear d0 d1 d2 d3 d4 g5 x1 on05 h5 o5 n5 hnb
  go_loopw [13, 15] (fun t i wr => t = .int .i64 0 ∧ i = .int .i64 (-1) ∧ wr = w6) (fun _ _ _ => 0)
  case atStart => exact ⟨rfl, rfl, rfl⟩
  case round =>
    obtain ⟨rfl, rfl, rfl⟩ := hrel
    go_wp2
    go_ret2
    exact ⟨_, _, _, rfl, h6, by simpa using o6, n6, hnb6, on6⟩

end Go.Proofs.YtofchcheoanmdaaDoor

namespace Go.Proofs.YtofchcheoanmdaaDoor
open Go.RowKit

theorem leaf_four : (leafS 4 [97] [] 1).hash.length = 4 := by
  have h8 : (numB 1).length = 8 := be64_length _
  show (hashF 4 1 [[97], [], numB 1]).length = 4
  unfold hashF
  rw [if_pos]
  · rw [List.length_take, sha_length]
    decide
  · intro p hp
    simp only [List.mem_cons, List.not_mem_nil, or_false] at hp
    rcases hp with rfl | rfl | rfl
    · decide
    · decide
    · omega

set_option maxRecDepth 100000 in
set_option maxHeartbeats 1000000 in
theorem arenaAwake_any (w : World) (hT : Tabs w) : Calls Tryd.prog 11 #[] w fun e w' => e = .returned (.bool true) ∧ Below w.heap.size w w' := by
  have hN := anew_ok 4 5 w (by decide) (by decide) (by decide) (by decide)
  have kc := fun (w : World) (C : Array Value) (n c : Nat) => Lib.run_convert_bytes_const (P := Tryd.prog) w 31 5 C n c Tryd.underlying31 Tryd.underlying5
  go_enter Tryd.func11, Tryd.ntmps11
  go_wp2_with (first | (go_at_call 9; refine hN.mono ?_; rintro e w1 ⟨rfl, h1, hb1⟩))
  have bL := (Below.refl _ w1).alloc (Nat.le_refl _) (.cells #[.int .u8 97] 5 (1, 2))
  have hb2 := hb1.trans (bL.mono hb1.size)
  refine (leaf_ok w.heap.size 0 0 w.heap.size 4 5 1 none [] _ _ [97] [] _ (h1.later bL) (World.ownsRow_nil _ _ _ _) hb2.size (by decide) (by decide) (by decide) (HB.litF w1 5 _ _ 1 _ rfl rfl (by unfold maxLen; omega)) (HB.nil _) (hT.later hb2) (by decide) (by decide) (by decide)).mono ?_
  rintro e w3 ⟨p3, c3, nb, rfl, h3, o3, n3, _, f3⟩
  have hb3 : Below w.heap.size w w3 := hb2.trans (f3.1 _ (Nat.le_refl _) (fun k hk => by cases hk) hb2.size)
  have hU := used_any w.heap.size 4 5 p3 1 c3 w3 h3 (by decide) (by decide)
  clear f3 h1 bL hb1 hb2
  go_wp2_with (first | (go_at_call 21; refine hU.mono ?_; rintro e w4 ⟨rfl, hb4⟩))
  have hl : (leafS 4 [97] [] 1).hash.length = 4 := leaf_four
  refine (hash_at w.heap.size 1 c3 w.heap.size 0 nb 4 5 p3 _ _ w4 (h3.later hb4) (owns_later o3 hb4) (by decide) rfl (n3.later hb4) (by rw [hl]; decide)).mono ?_
  rintro e w5 ⟨p5, c5, rfl, k5, hb5⟩
  rw [hl]
  have hb04 := hb3.trans (hb4.mono hb3.size)
  have hb05 := hb04.trans (hb5.mono hb04.size)
  clear k5 o3 n3 h3 hU hl
  go_wp2
  go_ret
  exact ⟨rfl, hb05⟩

end Go.Proofs.YtofchcheoanmdaaDoor

namespace Go.Proofs.YtofchcheoanmdaaDoor
open Go.RowKit

theorem leaf_four_k : (leafS 4 [97] [107] 1).hash.length = 4 := by
  have h8 : (numB 1).length = 8 := be64_length _
  show (hashF 4 1 [[97], [107], numB 1]).length = 4
  unfold hashF
  rw [if_pos]
  · rw [List.length_take, sha_length]
    decide
  · intro p hp
    simp only [List.mem_cons, List.not_mem_nil, or_false] at hp
    rcases hp with rfl | rfl | rfl
    · decide
    · decide
    · omega

set_option maxRecDepth 100000 in
set_option maxHeartbeats 2000000 in
theorem ptreeAwake_any (w : World) (hT : Tabs w) : Calls Tryd.prog 40 #[] w fun e w' => e = .returned (.bool true) ∧ Below w.heap.size w w' := by
  have hN := anew_ok 4 9 w (by decide) (by decide) (by decide) (by decide)
  have kc := fun (w : World) (C : Array Value) (n c : Nat) => Lib.run_convert_bytes_const (P := Tryd.prog) w 31 5 C n c Tryd.underlying31 Tryd.underlying5
  have kc2 : ∀ (w1 : World), (convert 31 31 (.slice (some ⟨w1.heap.size + 1, 0, none⟩) 1 1)).run Tryd.prog ((w1.alloc (.cells #[.int .u8 97] 5 (1, 2))).alloc (.cells #[.int .u8 107] 5)) = .ok (.slice (some ⟨w1.heap.size + 1, 0, none⟩) 1 1) ((w1.alloc (.cells #[.int .u8 97] 5 (1, 2))).alloc (.cells #[.int .u8 107] 5 (1, 2))) := fun w1 => by
    simpa using kc (w1.alloc (.cells #[.int .u8 97] 5 (1, 2))) #[.int .u8 107] 1 1
  have hlen := leaf_four_k
  go_enter Tryd.func40, Tryd.ntmps40
  go_wp2_with (first | (go_at_call 9; refine hN.mono ?_; rintro e w1 ⟨rfl, h1, hb1⟩))
  have bL := (Below.refl _ w1).alloc (Nat.le_refl _) (.cells #[.int .u8 97] 5 (1, 2))
  have bLL := bL.alloc bL.size (.cells #[.int .u8 107] 5 (1, 2))
  have hb2 := hb1.trans (bLL.mono hb1.size)
  have bL2 : Below (w1.alloc (.cells #[.int .u8 97] 5 (1, 2))).heap.size (w1.alloc (.cells #[.int .u8 97] 5 (1, 2))) ((w1.alloc (.cells #[.int .u8 97] 5 (1, 2))).alloc (.cells #[.int .u8 107] 5 (1, 2))) := (Below.refl _ _).alloc (Nat.le_refl _) _
  have ha : HB ((w1.alloc (.cells #[.int .u8 97] 5 (1, 2))).alloc (.cells #[.int .u8 107] 5 (1, 2))) (.slice (some ⟨w1.heap.size, 0, none⟩) 1 1) [97] := (HB.litF w1 5 _ _ 1 _ rfl rfl (by unfold maxLen; omega)).later bL2
  have hk : HB ((w1.alloc (.cells #[.int .u8 97] 5 (1, 2))).alloc (.cells #[.int .u8 107] 5 (1, 2))) (.slice (some ⟨w1.heap.size + 1, 0, none⟩) 1 1) [107] := by
    have := HB.litF (w1.alloc (.cells #[.int .u8 97] 5 (1, 2))) 5 [107] #[.int .u8 107] 1 (1, 2) rfl rfl (by unfold maxLen; omega)
    simpa using this
  refine (insert_first w.heap.size w.heap.size 4 9 1 _ _ [97] [107] _ (h1.later bLL) hb2.size (by decide) (by decide) (by decide) ha hk (hT.later hb2) (by decide) (by decide) (by decide)).mono ?_
  rintro e w3 ⟨p3, c3, nb, rfl, h3, o3, n3, _, on3⟩
  have hb3 : Below w.heap.size w w3 := hb2.trans (on3.below (Nat.le_refl _))
  clear on3 ha hk bL bLL bL2 h1 hb1 hb2 hN
  have bK := (Below.refl _ w3).alloc (Nat.le_refl _) (.cells #[.int .u8 97] 5 (1, 2))
  have hb4 := hb3.trans (bK.mono hb3.size)
  have hl : (leafS 4 [97] [107] 1).id.length ≤ 65535 ∧ (leafS 4 [97] [107] 1).key.length ≤ 65535 ∧ (leafS 4 [97] [107] 1).pre.length ≤ 65535 ∧ (leafS 4 [97] [107] 1).hash.length ≤ 65535 := ⟨by decide, by decide, by decide, by omega⟩
  go_wp2_with fail
  have hG := get_leaf w.heap.size 1 c3 w.heap.size 0 nb 4 9 p3 _ (leafS 4 [97] [107] 1) _ [97] _ (h3.later bK) (owns_later o3 bK) (by decide) rfl (n3.later bK) hl rfl rfl (HB.litF w3 5 _ _ 1 _ rfl rfl (by unfold maxLen; omega))
  rw [show (leafS 4 [97] [107] 1).key = [107] from rfl, show (leafS 4 [97] [107] 1).since = 1 from rfl] at hG
  refine hG.mono ?_
  rintro e w5 ⟨q1, d1, q2, d2, rfl, k5, hb5'⟩
  have hb35 : Below w3.heap.size w3 w5 := bK.trans (hb5'.mono bK.size)
  have hb5 := hb3.trans (hb35.mono hb3.size)
  have bI := (Below.refl _ w5).alloc (Nat.le_refl _) (.cells #[.slice q1 1 d1, .slice q2 1 d2, .int .i64 1] 71)
  have hb3I := hb35.trans (bI.mono hb35.size)
  have hb0I := hb5.trans (bI.mono hb5.size)
  have kI := k5.later bI
  have hst : (convert 31 9 (.slice q2 1 d2)).run Tryd.prog _ = _ := HB.str (P := Tryd.prog) kI 31 5 9 Tryd.underlying31 Tryd.underlying5 Tryd.underlying9
  have hDp := deep_leaf w.heap.size 1 c3 w.heap.size 0 nb 4 9 p3 _ (leafS 4 [97] [107] 1) _ (h3.later hb3I) (owns_later o3 hb3I) (by decide) rfl (n3.later hb3I) hl rfl
  clear hG k5 kI h3 o3 n3 hl bK hb4 hb35 hb5' hb3
  go_wp2_with (first | (go_at_call 77; refine hDp.mono ?_; rintro e w6 ⟨rfl, hb6⟩))
  go_ret
  exact ⟨rfl, hb0I.trans (hb6.mono hb0I.size)⟩

end Go.Proofs.YtofchcheoanmdaaDoor

namespace Go.Proofs.YtofchcheoanmdaaDoor
open Go.RowKit

set_option maxRecDepth 100000 in
set_option maxHeartbeats 1000000 in
theorem get_out (g : Nat) (s r i : Int) (p : Option Addr) (n c : Nat) (vi : Value) (id : List UInt8) (w : World) (h : AG w g s r p n c) (hs : s ≠ 0) (hi : i < 0 ∨ (n : Int) ≤ i) (hid : HB w vi id) : Calls Tryd.prog 35 #[.pointer (some ⟨g, 0, none⟩), .int .i64 i, vi] w fun e w' => e = .returned (.tuple #[.agg #[.slice none 0 0, .slice none 0 0, .int .i64 0], .bool false]) ∧ Below w.heap.size w w' := by
  obtain ⟨pi, ci, rfl⟩ := hid.shape
  have bA := (Below.refl _ w).alloc (Nat.le_refl _) (.cells #[.slice none 0 0, .slice none 0 0, .int .i64 0] 71)
  have gA := heap_alloc_new w (.cells #[.slice none 0 0, .slice none 0 0, .int .i64 0] 71)
  have hD := down_out g s r i p n c (.slice pi id.length ci) id _ (h.later bA) hs hi (hid.later bA)
  generalize keyF id = KF at *
  clear h hi hid
  go_enter Tryd.func35, Tryd.ntmps35
  go_wp2_with fail
  refine hD.mono ?_
  rintro e w1 ⟨p1, c1, rfl, k1, hb1⟩
  have b1 := bA.trans (hb1.mono bA.size)
  have g1 := (hb1.block _ (Array.getElem?_eq_some_iff.1 gA).1).trans gA
  have bV := (Below.refl _ w1).alloc (Nat.le_refl _) (.cells #[.slice p1 KF.length c1, .slice none 0 0, .int .i64 i, .int .i64 0, .bool false] 99)
  have b1V := b1.trans (bV.mono b1.size)
  have gV := (bV.block _ (Array.getElem?_eq_some_iff.1 g1).1).trans g1
  have x0 : (w1.alloc (.cells #[.slice p1 KF.length c1, .slice none 0 0, .int .i64 i, .int .i64 0, .bool false] 99)).cell? ⟨w.heap.size, 0, none⟩ = some (.slice none 0 0) := by rw [cell_of_row _ _ 0 _ _ _ gV]; rfl
  have x1 : (w1.alloc (.cells #[.slice p1 KF.length c1, .slice none 0 0, .int .i64 i, .int .i64 0, .bool false] 99)).cell? ⟨w.heap.size, 1, none⟩ = some (.slice none 0 0) := by rw [cell_of_row _ _ 1 _ _ _ gV]; rfl
  have x2 : (w1.alloc (.cells #[.slice p1 KF.length c1, .slice none 0 0, .int .i64 i, .int .i64 0, .bool false] 99)).cell? ⟨w.heap.size, 2, none⟩ = some (.int .i64 0) := by rw [cell_of_row _ _ 2 _ _ _ gV]; rfl
  have y0 : (w1.alloc (.cells #[.slice p1 KF.length c1, .slice none 0 0, .int .i64 i, .int .i64 0, .bool false] 99)).frozen? ⟨w.heap.size, 0, none⟩ = false := by simp only [World.frozen?, gV]; rfl
  have y1 : (w1.alloc (.cells #[.slice p1 KF.length c1, .slice none 0 0, .int .i64 i, .int .i64 0, .bool false] 99)).frozen? ⟨w.heap.size, 1, none⟩ = false := by simp only [World.frozen?, gV]; rfl
  have y2 : (w1.alloc (.cells #[.slice p1 KF.length c1, .slice none 0 0, .int .i64 i, .int .i64 0, .bool false] 99)).frozen? ⟨w.heap.size, 2, none⟩ = false := by simp only [World.frozen?, gV]; rfl
  have hon : Only w.heap.size (w1.alloc (.cells #[.slice p1 KF.length c1, .slice none 0 0, .int .i64 i, .int .i64 0, .bool false] 99)) ((((w1.alloc (.cells #[.slice p1 KF.length c1, .slice none 0 0, .int .i64 i, .int .i64 0, .bool false] 99)).setCell ⟨w.heap.size, 0, none⟩ (.slice none 0 0)).setCell ⟨w.heap.size, 1, none⟩ (.slice none 0 0)).setCell ⟨w.heap.size, 2, none⟩ (.int .i64 0)) := ((((Only.refl _ _).setCell 0 _).setCell 1 _).setCell 2 _)
  have bf := b1V.trans (hon.below (Nat.le_refl _))
  clear hD gA k1 hb1 bA bV b1V gV g1 hon b1
  go_wp2
  refine bodyPost_ret (v := .tuple #[.agg #[.slice none 0 0, .slice none 0 0, .int .i64 0], .bool false]) ?_ rfl ?_
  · simp only [results, Tryd.results35]
    go_simp
  · exact ⟨rfl, bf⟩

def lenP : Value → Nat | .slice _ n _ => n | _ => 0

set_option maxRecDepth 100000 in
set_option maxHeartbeats 1000000 in
theorem walk_out (g : Nat) (s r i : Int) (p : Option Addr) (n c : Nat) (f : Value) (w : World) (h : AG w g s r p n c) (hs : s ≠ 0) (hi : i < 0 ∨ (n : Int) ≤ i) : Calls Tryd.prog 79 #[.pointer (some ⟨g, 0, none⟩), .int .i64 i, f] w fun e w' => ∃ v, e = .returned v ∧ Below w.heap.size w w' := by
  have hN := fun w' h' => node_out g s r i p n c w' h' hs hi
  unfold zNode at hN
  have bA := (Below.refl _ w).alloc (Nat.le_refl _) (.cells #[.int .i64 i] 3)
  have gA := heap_alloc_new w (.cells #[.int .i64 i] 3)
  go_enter Tryd.func79, Tryd.ntmps79
  go_wp2_with fail
  obtain ⟨V, hV⟩ : ∃ V, V = w.alloc (.cells #[.int .i64 i] 3) := ⟨_, rfl⟩
  rw [← hV] at bA gA ⊢
  clear hV
  have hV0 := h.later bA
  clear h hi
  go_loopw [6] (fun v wr => ∃ m : Nat, m ≤ 1 ∧ v = .slice (some ⟨w.heap.size, 0, none⟩) m 1 ∧ Below V.heap.size V wr) (fun v _ => lenP v)
  case atStart => exact ⟨1, Nat.le_refl _, rfl, Below.refl _ _⟩
  case round =>
    obtain ⟨m, hm, rfl, hb⟩ := hrel
    have hm2 : m = 1 ∨ m = 0 := by omega
    rcases hm2 with rfl | rfl
    · have c0 : wr.cell? ⟨w.heap.size, 0, none⟩ = some (.int .i64 i) := cell_later hb (by rw [cell_of_row _ _ 0 _ _ _ gA]; rfl)
      have hNw := hN wr (hV0.later hb)
      go_wp2_with (first | (go_at_call 23; refine hNw.mono ?_; rintro e w1 ⟨rfl, hb1⟩; have h1 : Below V.heap.size V w1 := hb.trans (hb1.mono hb.size); have h2 := h1.alloc h1.size (.cells #[.bool false, .slice none 0 0, .slice none 0 0, .int .i64 0, .int .i64 0, .slice none 0 0, .int .i64 0, .int .i64 0, .int .i64 0, .slice none 0 0] 43)))
      go_roundw
      case rel => first | exact ⟨0, by omega, rfl, h2⟩ | ((repeat apply Exists.intro); exact ⟨⟨0, by omega, rfl, h2⟩, rfl⟩)
      case measure => simp [lenP]
    · go_wp2
      go_end0
      exact ⟨_, rfl, bA.trans (hb.mono bA.size)⟩

set_option maxRecDepth 100000 in
set_option maxHeartbeats 1000000 in
theorem items_out (g : Nat) (s r i : Int) (p : Option Addr) (n c : Nat) (w : World) (h : AG w g s r p n c) (hs : s ≠ 0) (hi : i < 0 ∨ (n : Int) ≤ i) : Calls Tryd.prog 41 #[.pointer (some ⟨g, 0, none⟩), .int .i64 i] w fun e w' => e = .returned (.slice none 0 0) ∧ Below w.heap.size w w' := by
  go_enter Tryd.func41, Tryd.ntmps41
  have bA := (Below.refl _ w).alloc (Nat.le_refl _) (.cells #[.slice none 0 0] 78)
  have gA := heap_alloc_new w (.cells #[.slice none 0 0] 78)
  have hW := fun f => walk_out g s r i p n c f _ (h.later bA) hs hi
  clear h hi
  go_wp2_with (first | (go_at_call 79; refine (hW _).mono ?_; rintro e w1 ⟨v1, rfl, hb1⟩; have g1 := (hb1.block _ (Array.getElem?_eq_some_iff.1 gA).1).trans gA; have c1 : w1.cell? ⟨w.heap.size, 0, none⟩ = some (.slice none 0 0) := (by rw [cell_of_row _ _ 0 _ _ _ g1]; rfl)))
  go_ret
  exact ⟨rfl, bA.trans (hb1.mono bA.size)⟩

end Go.Proofs.YtofchcheoanmdaaDoor
