/- What this text proves: the walks of bits.Key and of the document's Key over this program: a byte that tells the length, and the bytes, 255 at most. -/
import Derived.Test.YtofchcheoanmdaaDoorOwn
import Derived.Test.YtofchcheoanmdaaDoorBitsPlain
import Derived.Lib.MinMax
namespace Go.Proofs.YtofchcheoanmdaaDoor
open Go.RowKit

theorem keyF_eq (l : List UInt8) (n : Nat) (hn : n = min l.length 255) : keyF l = UInt8.ofNat n :: l.take n := by
  unfold keyF
  rw [← hn]
  congr 1
  by_cases h : l.length ≤ 255
  · rw [List.take_of_length_le h, List.take_of_length_le (by omega)]
  · rw [show n = 255 by omega]

set_option maxRecDepth 100000 in
set_option maxHeartbeats 1000000 in
theorem key_any (v : Value) (l : List UInt8) (w : World) (h : HB w v l) :
    Calls Tryd.prog 90 #[v] w fun e w' => ∃ p c, e = .returned (.slice p (keyF l).length c) ∧ HB w' (.slice p (keyF l).length c) (keyF l) ∧ Below w.heap.size w w' := by
  obtain ⟨p, c, rfl⟩ := h.shape
  obtain ⟨n, hn⟩ : ∃ n, n = min l.length 255 := ⟨_, rfl⟩
  have hl := h.len.2
  unfold maxLen at hl
  have k1 := fun w => run_upto (P := Tryd.prog) Tryd.underlying31 s_u8 p l.length c n (n : Int) rfl (by omega) w
  have hf := h.front n (by omega)
  have hmin : min (l.length : Int) 255 = (n : Int) := by omega
  have hn255 : n ≤ 255 := by omega
  have HK : Hid (keyF l = UInt8.ofNat n :: l.take n) := keyF_eq l n hn
  have HL : Hid ((l.take n).length = n) := by show (l.take n).length = n; rw [List.length_take]; omega
  obtain ⟨i0, hi, hz0, hz1, hz2⟩ := info_parts i_u8
  have k2 : ∀ w' : World, (Instr.slice 31 (.slice (some ⟨w.heap.size, 0, none⟩) (1 + n) (1 + n)) (some (.int .i64 1)) none none).run Tryd.prog w' = .ok (.slice (cutP (some ⟨w.heap.size, 0, none⟩) (1 + n) 1) n n) w' := by
    intro w'
    have := run_cut (P := Tryd.prog) Tryd.underlying31 s_u8 (some ⟨w.heap.size, 0, none⟩) (1 + n) (1 + n) 1 1 rfl (by omega) w'
    simpa using this
  clear hn h hl
  go_enter Tryd.func90, Tryd.ntmps90
  go_wp2_with (at_make; refine wpList_make_full _ rfl _ _ 31 rfl w.heap.size 5 i0 (.int .u8 0) 1 Tryd.underlying31 hi hz0 hz1 .i64 .i64 _ _ (1 + n) rfl rfl ?qa ?qb ?qc ?qd ?qe ?_)
  all_goals (try (first | omega | (unfold maxLen; omega) | (rw [hz2]; omega)))
  intro w1 hown1 hgrow1
  have hb1 : Below w.heap.size w w1 := (Below.refl _ w).grown hgrow1 (Nat.le_refl _) (by intro k hk; cases hk)
  have hown1' : w1.ownsRow w.heap.size 5 1 (.slice (some ⟨w.heap.size, 0, none⟩) (1 + n) (1 + n)) (1 + n) (bcs (List.replicate (1 + n) 0)) := by
    rw [← made_bcs]
    simpa using hown1
  have q1 : w1.cell? ⟨w.heap.size, 0, none⟩ = some (.int .u8 0) := by
    rw [hown1'.cellAt 0 (by omega), bcs_get, Nat.add_comm 1 n, List.replicate_succ]
    rfl
  have qf := hown1'.frozenAt 0
  have hs1 := hf.later hb1
  have hownS := owns_put hown1' 0 (UInt8.ofNat n) (.int .u8 (n : Int)) (by simp [bc]; omega)
  have hbS : Below w.heap.size w (w1.setCell ⟨w.heap.size, 0, none⟩ (.int .u8 (n : Int))) := hb1.setCell (Nat.le_refl _) _
  have hsS := hf.later hbS
  clear hown1 hgrow1 hs1 hown1'
  go_wp2_with (refine wpList_copy_at rfl (.tmp 19) (.tmp 20) 31 31 rfl 5 Tryd.underlying31 s_u8 w.heap.size (1 + n) 1 _ _ n n _ rfl ?ra rfl w.heap.size _ hownS _ hsS rfl ?_)
  case ra => intro h0; unfold cutP; rw [if_neg (by omega)]; simp [Addr.add_lit]
  intro w2 hown2 hgrow2
  have hb2 : Below w.heap.size w w2 := hbS.grown hgrow2 hbS.size (by intro k hk; cases hk; exact Nat.le_refl _)
  clear hownS hgrow2 hsS hbS hb1 q1 qf
  have hh : HB w2 (.slice (some ⟨w.heap.size, 0, none⟩) (1 + n) (1 + n)) (keyF l) := by
    have := HB.of_owns hown2
    rw [HK.out]
    rw [Nat.add_comm 1 n, List.replicate_succ, List.set_cons_zero] at this
    rw [Nat.add_comm 1 n]
    simpa using this
  have HLK : Hid (1 + n = (keyF l).length) := hh.len.1
  clear hown2
  go_wp2
  go_ret
  refine ⟨some ⟨w.heap.size, 0, none⟩, 1 + n, ?_, ?_, hb2⟩
  · rw [← HLK.out]; rfl
  · rw [← HLK.out]; exact hh

set_option maxRecDepth 100000 in
set_option maxHeartbeats 1000000 in
theorem rkey_any (v : Value) (l : List UInt8) (w : World) (h : HB w v l) :
    Calls Tryd.prog 67 #[v] w fun e w' => ∃ p c, e = .returned (.slice p (keyF l).length c) ∧ HB w' (.slice p (keyF l).length c) (keyF l) ∧ Below w.heap.size w w' := by
  obtain ⟨p, c, rfl⟩ := h.shape
  obtain ⟨n, hn⟩ : ∃ n, n = min l.length 255 := ⟨_, rfl⟩
  have hl := h.len.2
  unfold maxLen at hl
  have k1 := fun w => run_upto (P := Tryd.prog) Tryd.underlying31 s_u8 p l.length c n (n : Int) rfl (by omega) w
  have hf := h.front n (by omega)
  have hmin : min (l.length : Int) 255 = (n : Int) := by omega
  have hn255 : n ≤ 255 := by omega
  have HK : Hid (keyF l = UInt8.ofNat n :: l.take n) := keyF_eq l n hn
  have hown0 : (w.alloc (.cells #[.int .u8 (n : Int)] 5)).ownsRow w.heap.size 5 1 (.slice (some ⟨w.heap.size, 0, none⟩) 1 1) 1 (bcs [UInt8.ofNat n]) := by
    have e : bcs [UInt8.ofNat n] = [.int .u8 (n : Int)] := by simp [bcs, bc]; omega
    rw [e]
    exact ⟨rfl, .inr ⟨w.heap.size, 1, #[.int .u8 (n : Int)], rfl, Nat.le_refl _, heap_alloc_new w _, Nat.le_refl _, by unfold maxLen; omega, rfl, rfl⟩⟩
  have hb0 : Below w.heap.size w (w.alloc (.cells #[.int .u8 (n : Int)] 5)) := (Below.refl _ w).alloc (Nat.le_refl _) _
  have hf0 := hf.later hb0
  clear hn h hl
  go_enter Tryd.func67, Tryd.ntmps67
  go_wp2_with (at_builtin; refine wpList_append_hb rfl (.tmp 9) (.tmp 12) 31 rfl w.heap.size 5 Tryd.underlying31 i_u8 _ _ _ rfl hown0 _ _ _ _ rfl hf0 ?sa ?sb ?_)
  case sa => omega
  case sb => simp
  intro w2v w2 hown2 hgrow2
  have hb2 : Below w.heap.size w w2 := hb0.grown hgrow2 hb0.size (by intro k hk; cases hk; exact Nat.le_refl _)
  have hh : HB w2 w2v (keyF l) := by
    rw [← bcs_append] at hown2
    have := HB.of_owns hown2
    rw [HK.out]
    exact this
  obtain ⟨p2, c2, rfl⟩ := hh.shape
  clear hown2 hgrow2 hf0 hown0
  go_wp2
  go_ret
  exact ⟨p2, c2, rfl, hh, hb2⟩

end Go.Proofs.YtofchcheoanmdaaDoor
