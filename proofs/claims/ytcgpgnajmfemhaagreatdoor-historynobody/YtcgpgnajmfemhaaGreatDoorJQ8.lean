/- What this text proves: the walks of bits.Key and of the document's Key over this program: a byte that tells the length, and the bytes, 255 at most. What this text proves: the walks of ptree.missing, isRoot, down, needs and parts over this program, at a place where no node stands. -/
import Derived.Test.YtcgpgnajmfemhaaGreatDoorJOw
import Derived.Test.YtcgpgnajmfemhaaGreatDoorBitsPlain
import Derived.Lib.MinMax
import Derived.Test.YtcgpgnajmfemhaaGreatDoorJQ7
namespace Go.Proofs.YtcgpgnajmfemhaaGreatDoor.Vf
open Go.RowKit

theorem keyF_eq (l : List UInt8) (n : Nat) (hn : n = min l.length 255) : keyF l = UInt8.ofNat n :: l.take n := by
  unfold keyF
  rw [← hn]
  congr 1
  by_cases h : l.length ≤ 255
  · rw [List.take_of_length_le h, List.take_of_length_le (by omega)]
  · rw [show n = 255 by omega]

set_option maxRecDepth 100000 in
set_option maxHeartbeats 1000000 in
theorem key_any (v : Value) (l : List UInt8) (w : World) (h : HB w v l) :
    Calls Tryz.prog 225 #[v] w fun e w' => ∃ p c, e = .returned (.slice p (keyF l).length c) ∧ HB w' (.slice p (keyF l).length c) (keyF l) ∧ Below w.heap.size w w' := by
  obtain ⟨p, c, rfl⟩ := h.shape
  obtain ⟨n, hn⟩ : ∃ n, n = min l.length 255 := ⟨_, rfl⟩
  have hl := h.len.2
  unfold maxLen at hl
  have k1 := fun w => run_upto (P := Tryz.prog) Tryz.underlying37 s_u8 p l.length c n (n : Int) rfl (by omega) w
  have hf := h.front n (by omega)
  have hmin : min (l.length : Int) 255 = (n : Int) := by omega
  have hn255 : n ≤ 255 := by omega
  have HK : Hid (keyF l = UInt8.ofNat n :: l.take n) := keyF_eq l n hn
  have HL : Hid ((l.take n).length = n) := by show (l.take n).length = n; rw [List.length_take]; omega
  obtain ⟨i0, hi, hz0, hz1, hz2⟩ := info_parts i_u8
  have k2 : ∀ w' : World, (Instr.slice 37 (.slice (some ⟨w.heap.size, 0, none⟩) (1 + n) (1 + n)) (some (.int .i64 1)) none none).run Tryz.prog w' = .ok (.slice (cutP (some ⟨w.heap.size, 0, none⟩) (1 + n) 1) n n) w' := by
    intro w'
    have := run_cut (P := Tryz.prog) Tryz.underlying37 s_u8 (some ⟨w.heap.size, 0, none⟩) (1 + n) (1 + n) 1 1 rfl (by omega) w'
    simpa using this
  clear hn h hl
  go_enter Tryz.func225, Tryz.ntmps225
  go_wp2_with (at_make; refine wpList_make_full _ rfl _ _ 37 rfl w.heap.size 5 i0 (.int .u8 0) 1 Tryz.underlying37 hi hz0 hz1 .i64 .i64 _ _ (1 + n) rfl rfl ?qa ?qb ?qc ?qd ?qe ?_)
  all_goals (try (first | omega | (unfold maxLen; omega) | (rw [hz2]; omega)))
  intro w1 hown1 hgrow1
  have hb1 : Below w.heap.size w w1 := (Below.refl _ w).grown hgrow1 (Nat.le_refl _) (by intro k hk; cases hk)
  have hown1' : w1.ownsRow w.heap.size 5 1 (.slice (some ⟨w.heap.size, 0, none⟩) (1 + n) (1 + n)) (1 + n) (bcs (List.replicate (1 + n) 0)) := by
    rw [← made_bcs]
    simpa using hown1
  have q1 : w1.cell? ⟨w.heap.size, 0, none⟩ = some (.int .u8 0) := by
    rw [hown1'.cellAt 0 (by omega), bcs_get, Nat.add_comm 1 n, List.replicate_succ]
    rfl
  have qf := hown1'.frozenAt 0
  have hs1 := hf.later hb1
  have hownS := owns_put hown1' 0 (UInt8.ofNat n) (.int .u8 (n : Int)) (by simp [bc]; omega)
  have hbS : Below w.heap.size w (w1.setCell ⟨w.heap.size, 0, none⟩ (.int .u8 (n : Int))) := hb1.setCell (Nat.le_refl _) _
  have hsS := hf.later hbS
  clear hown1 hgrow1 hs1 hown1'
  go_wp2_with (refine wpList_copy_at rfl (.tmp 19) (.tmp 20) 37 37 rfl 5 Tryz.underlying37 s_u8 w.heap.size (1 + n) 1 _ _ n n _ rfl ?ra rfl w.heap.size _ hownS _ hsS rfl ?_)
  case ra => intro h0; unfold cutP; rw [if_neg (by omega)]; simp [Addr.add_lit]
  intro w2 hown2 hgrow2
  have hb2 : Below w.heap.size w w2 := hbS.grown hgrow2 hbS.size (by intro k hk; cases hk; exact Nat.le_refl _)
  clear hownS hgrow2 hsS hbS hb1 q1 qf
  have hh : HB w2 (.slice (some ⟨w.heap.size, 0, none⟩) (1 + n) (1 + n)) (keyF l) := by
    have := HB.of_owns hown2
    rw [HK.out]
    rw [Nat.add_comm 1 n, List.replicate_succ, List.set_cons_zero] at this
    rw [Nat.add_comm 1 n]
    simpa using this
  have HLK : Hid (1 + n = (keyF l).length) := hh.len.1
  clear hown2
  go_wp2
  go_ret
  refine ⟨some ⟨w.heap.size, 0, none⟩, 1 + n, ?_, ?_, hb2⟩
  · rw [← HLK.out]; rfl
  · rw [← HLK.out]; exact hh

end Go.Proofs.YtcgpgnajmfemhaaGreatDoor.Vf

namespace Go.Proofs.YtcgpgnajmfemhaaGreatDoor.Vf
open Go.RowKit

/-- Bytes stay where a block that holds none changes. -/
theorem _root_.Go.Proofs.YtcgpgnajmfemhaaGreatDoor.HB.onlyC {w w' : World} {g : Nat} {v : Value} {l : List UInt8} {cs : Array Value} {t : TypeId} {fr : Nat × Nat} (h : HB w v l) (hg : w.heap[g]? = some (.cells cs t fr)) (hc : ∀ x ∈ cs.toList, ∀ y : UInt8, x ≠ bc y) (ho : Only g w w') : HB w' v l := by
  obtain ⟨p, cap, e, h1, h2, h3, h4⟩ := h
  refine ⟨p, cap, e, h1, h2, h3, fun hne => ?_⟩
  obtain ⟨b, o, e1, e2⟩ := h4 hne
  refine ⟨b, o, e1, fun i x hx => ?_⟩
  have hcx := e2 i x hx
  have hb : b ≠ g := by
    rintro rfl
    rw [cell_of_row w b (o + i) cs t fr hg] at hcx
    exact hc _ (Array.mem_toList_iff.2 (Array.mem_of_getElem? hcx)) x rfl
  rw [World.cell?_of_block (w := w) (ho.block b hb (cell_lt hcx))]
  exact hcx

set_option maxRecDepth 100000 in
set_option maxHeartbeats 400000 in
theorem pmissing_no (g : Nat) (s r : Int) (p : Option Addr) (n c : Nat) (w : World) (h : AG w g s r p n c) (hs : s ≠ 0) : Calls Tryz.prog 200 #[.pointer (some ⟨g, 0, none⟩)] w fun e w' => e = .returned (.bool false) ∧ w' = w := by
  have hS := size_any g s r p n c w h hs
  have hb : (s == 0) = false := by simpa using hs
  clear h
  go_enter Tryz.func200, Tryz.ntmps200
  go_wp2_with (first | (go_at_call 223; refine hS.mono ?_; rintro e w1 ⟨rfl, hw⟩; have hw2 := hw.symm; clear hw; subst hw2))
  go_ret
  exact ⟨rfl, rfl⟩

set_option maxRecDepth 100000 in
set_option maxHeartbeats 400000 in
theorem isRoot_out (g : Nat) (s r i : Int) (p : Option Addr) (n c : Nat) (w : World) (h : AG w g s r p n c) (hs : s ≠ 0) (hi : i < 0 ∨ (n : Int) ≤ i) : Calls Tryz.prog 201 #[.pointer (some ⟨g, 0, none⟩), .int .i64 i] w fun e w' => e = .returned (.bool (i == -1)) ∧ Below w.heap.size w w' := by
  have hN := node_out g s r i p n c w h hs hi
  unfold zNode at hN
  clear h hi
  go_enter Tryz.func201, Tryz.ntmps201
  go_wp2_with fail
  refine hN.mono ?_
  rintro e w1 ⟨rfl, hb1⟩
  clear hN
  go_wp2
  go_ret
  exact ⟨rfl, hb1.alloc hb1.size _⟩

set_option maxRecDepth 100000 in
set_option maxHeartbeats 1000000 in
theorem down_out (g : Nat) (s r i : Int) (p : Option Addr) (n c : Nat) (vi : Value) (id : List UInt8) (w : World) (h : AG w g s r p n c) (hs : s ≠ 0) (hi : i < 0 ∨ (n : Int) ≤ i) (hid : HB w vi id) : Calls Tryz.prog 202 #[.pointer (some ⟨g, 0, none⟩), .int .i64 i, vi] w fun e w' => ∃ p1 c1, e = .returned (.agg #[.slice p1 (keyF id).length c1, .slice none 0 0, .int .i64 i, .int .i64 0, .bool false]) ∧ HB w' (.slice p1 (keyF id).length c1) (keyF id) ∧ Below w.heap.size w w' := by
  obtain ⟨pi, ci, rfl⟩ := hid.shape
  have hN := fun w' h' => node_out g s r i p n c w' h' hs hi
  unfold zNode at hN
  have hK := fun w' h' => key_any (.slice pi id.length ci) id w' h'
  generalize keyF id = KF at *
  go_enter Tryz.func202, Tryz.ntmps202
  have bA := (Below.refl _ w).alloc (Nat.le_refl _) (.cells #[.slice none 0 0, .slice none 0 0, .int .i64 0, .int .i64 0, .bool false] 259)
  go_wp2_with fail
  refine (hK _ (hid.later bA)).mono ?_
  rintro e w1 ⟨p1, c1, rfl, k1, hb1⟩
  have b1 := bA.trans (hb1.mono bA.size)
  obtain ⟨V, hV⟩ : ∃ V, V = w1.alloc (.cells #[.slice p1 KF.length c1, .slice none 0 0, .int .i64 i, .int .i64 0, .bool false] 259) := ⟨_, rfl⟩
  have bV : Below w1.heap.size w1 V := by rw [hV]; exact (Below.refl _ w1).alloc (Nat.le_refl _) _
  have gV : V.heap[w1.heap.size]? = some (.cells #[.slice p1 KF.length c1, .slice none 0 0, .int .i64 i, .int .i64 0, .bool false] 259 (0, 0)) := by rw [hV]; exact heap_alloc_new w1 _
  have gA := heap_alloc_new w (.cells #[.slice none 0 0, .slice none 0 0, .int .i64 0, .int .i64 0, .bool false] 259)
  have gA1 := (hb1.block _ (Array.getElem?_eq_some_iff.1 gA).1).trans gA
  have gAV := (bV.block _ (Array.getElem?_eq_some_iff.1 gA1).1).trans gA1
  have b0V := b1.trans (bV.mono b1.size)
  have hNV := hN V (h.later b0V)
  have kV := k1.later bV
  go_wp2_with fail
  rw [← hV]
  clear hV hN hK gA gA1 k1 bV hb1 bA h
  go_loopw [9] (fun _ wr => wr = V) (fun _ _ => 0)
  case atStart => rfl
  case round =>
    subst hrel
    have c2 : wr.cell? ⟨w1.heap.size, 2, none⟩ = some (.int .i64 i) := by rw [cell_of_row _ _ 2 _ _ _ gV]; rfl
    go_wp2_with fail
    refine hNV.mono ?_
    rintro e w2 ⟨rfl, hb2⟩
    have bZ := (Below.refl _ w2).alloc (Nat.le_refl _) (.cells #[.bool false, .slice none 0 0, .slice none 0 0, .int .i64 0, .int .i64 0, .slice none 0 0, .int .i64 0, .int .i64 0, .int .i64 0, .slice none 0 0] 228)
    have b2Z := hb2.trans (bZ.mono hb2.size)
    have gw2 := (b2Z.block _ (Array.getElem?_eq_some_iff.1 gV).1).trans gV
    have gA2 := (b2Z.block _ (Array.getElem?_eq_some_iff.1 gAV).1).trans gAV
    have d0 : (w2.alloc (.cells #[.bool false, .slice none 0 0, .slice none 0 0, .int .i64 0, .int .i64 0, .slice none 0 0, .int .i64 0, .int .i64 0, .int .i64 0, .slice none 0 0] 228)).cell? ⟨w1.heap.size, 0, none⟩ = some (.slice p1 KF.length c1) := by rw [cell_of_row _ _ 0 _ _ _ gw2]; rfl
    have d1 : (w2.alloc (.cells #[.bool false, .slice none 0 0, .slice none 0 0, .int .i64 0, .int .i64 0, .slice none 0 0, .int .i64 0, .int .i64 0, .int .i64 0, .slice none 0 0] 228)).cell? ⟨w1.heap.size, 1, none⟩ = some (.slice none 0 0) := by rw [cell_of_row _ _ 1 _ _ _ gw2]; rfl
    have d2 : (w2.alloc (.cells #[.bool false, .slice none 0 0, .slice none 0 0, .int .i64 0, .int .i64 0, .slice none 0 0, .int .i64 0, .int .i64 0, .int .i64 0, .slice none 0 0] 228)).cell? ⟨w1.heap.size, 2, none⟩ = some (.int .i64 i) := by rw [cell_of_row _ _ 2 _ _ _ gw2]; rfl
    have d3 : (w2.alloc (.cells #[.bool false, .slice none 0 0, .slice none 0 0, .int .i64 0, .int .i64 0, .slice none 0 0, .int .i64 0, .int .i64 0, .int .i64 0, .slice none 0 0] 228)).cell? ⟨w1.heap.size, 3, none⟩ = some (.int .i64 0) := by rw [cell_of_row _ _ 3 _ _ _ gw2]; rfl
    have d4 : (w2.alloc (.cells #[.bool false, .slice none 0 0, .slice none 0 0, .int .i64 0, .int .i64 0, .slice none 0 0, .int .i64 0, .int .i64 0, .int .i64 0, .slice none 0 0] 228)).cell? ⟨w1.heap.size, 4, none⟩ = some (.bool false) := by rw [cell_of_row _ _ 4 _ _ _ gw2]; rfl
    have r0 : (w2.alloc (.cells #[.bool false, .slice none 0 0, .slice none 0 0, .int .i64 0, .int .i64 0, .slice none 0 0, .int .i64 0, .int .i64 0, .int .i64 0, .slice none 0 0] 228)).cell? ⟨w.heap.size, 0, none⟩ = some (.slice none 0 0) := by rw [cell_of_row _ _ 0 _ _ _ gA2]; rfl
    have q0 : (w2.alloc (.cells #[.bool false, .slice none 0 0, .slice none 0 0, .int .i64 0, .int .i64 0, .slice none 0 0, .int .i64 0, .int .i64 0, .int .i64 0, .slice none 0 0] 228)).frozen? ⟨w.heap.size, 0, none⟩ = false := by simp only [World.frozen?, gA2]; rfl
    have r1 : (w2.alloc (.cells #[.bool false, .slice none 0 0, .slice none 0 0, .int .i64 0, .int .i64 0, .slice none 0 0, .int .i64 0, .int .i64 0, .int .i64 0, .slice none 0 0] 228)).cell? ⟨w.heap.size, 1, none⟩ = some (.slice none 0 0) := by rw [cell_of_row _ _ 1 _ _ _ gA2]; rfl
    have q1 : (w2.alloc (.cells #[.bool false, .slice none 0 0, .slice none 0 0, .int .i64 0, .int .i64 0, .slice none 0 0, .int .i64 0, .int .i64 0, .int .i64 0, .slice none 0 0] 228)).frozen? ⟨w.heap.size, 1, none⟩ = false := by simp only [World.frozen?, gA2]; rfl
    have r2 : (w2.alloc (.cells #[.bool false, .slice none 0 0, .slice none 0 0, .int .i64 0, .int .i64 0, .slice none 0 0, .int .i64 0, .int .i64 0, .int .i64 0, .slice none 0 0] 228)).cell? ⟨w.heap.size, 2, none⟩ = some (.int .i64 0) := by rw [cell_of_row _ _ 2 _ _ _ gA2]; rfl
    have q2 : (w2.alloc (.cells #[.bool false, .slice none 0 0, .slice none 0 0, .int .i64 0, .int .i64 0, .slice none 0 0, .int .i64 0, .int .i64 0, .int .i64 0, .slice none 0 0] 228)).frozen? ⟨w.heap.size, 2, none⟩ = false := by simp only [World.frozen?, gA2]; rfl
    have r3 : (w2.alloc (.cells #[.bool false, .slice none 0 0, .slice none 0 0, .int .i64 0, .int .i64 0, .slice none 0 0, .int .i64 0, .int .i64 0, .int .i64 0, .slice none 0 0] 228)).cell? ⟨w.heap.size, 3, none⟩ = some (.int .i64 0) := by rw [cell_of_row _ _ 3 _ _ _ gA2]; rfl
    have q3 : (w2.alloc (.cells #[.bool false, .slice none 0 0, .slice none 0 0, .int .i64 0, .int .i64 0, .slice none 0 0, .int .i64 0, .int .i64 0, .int .i64 0, .slice none 0 0] 228)).frozen? ⟨w.heap.size, 3, none⟩ = false := by simp only [World.frozen?, gA2]; rfl
    have r4 : (w2.alloc (.cells #[.bool false, .slice none 0 0, .slice none 0 0, .int .i64 0, .int .i64 0, .slice none 0 0, .int .i64 0, .int .i64 0, .int .i64 0, .slice none 0 0] 228)).cell? ⟨w.heap.size, 4, none⟩ = some (.bool false) := by rw [cell_of_row _ _ 4 _ _ _ gA2]; rfl
    have q4 : (w2.alloc (.cells #[.bool false, .slice none 0 0, .slice none 0 0, .int .i64 0, .int .i64 0, .slice none 0 0, .int .i64 0, .int .i64 0, .int .i64 0, .slice none 0 0] 228)).frozen? ⟨w.heap.size, 4, none⟩ = false := by simp only [World.frozen?, gA2]; rfl
    have hon : Only w.heap.size (w2.alloc (.cells #[.bool false, .slice none 0 0, .slice none 0 0, .int .i64 0, .int .i64 0, .slice none 0 0, .int .i64 0, .int .i64 0, .int .i64 0, .slice none 0 0] 228)) ((((((w2.alloc (.cells #[.bool false, .slice none 0 0, .slice none 0 0, .int .i64 0, .int .i64 0, .slice none 0 0, .int .i64 0, .int .i64 0, .int .i64 0, .slice none 0 0] 228)).setCell ⟨w.heap.size, 0, none⟩ (.slice p1 KF.length c1)).setCell ⟨w.heap.size, 1, none⟩ (.slice none 0 0)).setCell ⟨w.heap.size, 2, none⟩ (.int .i64 i)).setCell ⟨w.heap.size, 3, none⟩ (.int .i64 0)).setCell ⟨w.heap.size, 4, none⟩ (.bool false)) := (((((Only.refl _ _).setCell 0 _).setCell 1 _).setCell 2 _).setCell 3 _).setCell 4 _
    have kf := (kV.later b2Z).onlyC gA2 (by intro x hx y; simp at hx; rcases hx with rfl | rfl | rfl <;> simp [bc]) hon
    have bf := (b0V.trans (b2Z.mono b0V.size)).trans (hon.below (Nat.le_refl _))
    clear hNV c2 gA2 gw2 hon kV bZ b2Z gV gAV
    go_wp2
    refine bodyPost_ret (v := .agg #[.slice p1 KF.length c1, .slice none 0 0, .int .i64 i, .int .i64 0, .bool false]) ?_ rfl ?_
    · simp only [results, Tryz.results202]
      go_simp
    · exact ⟨_, _, rfl, kf, bf⟩

end Go.Proofs.YtcgpgnajmfemhaaGreatDoor.Vf
