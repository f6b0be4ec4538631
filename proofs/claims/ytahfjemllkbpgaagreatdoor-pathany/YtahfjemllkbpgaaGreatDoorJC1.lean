/- What this text proves: the walk of bits.copied over this program: the same bytes in new memory. What this text proves: the walk of bits.First over this program: the first n bits of bytes, in new memory. -/
import Derived.Test.YtahfjemllkbpgaaGreatDoorEqual
import Derived.Test.YtahfjemllkbpgaaGreatDoorOwn
import Derived.Test.YtahfjemllkbpgaaGreatDoorBitsPlain
import Derived.BigQuiet
namespace Go.Proofs.YtahfjemllkbpgaaGreatDoor
open Go.RowKit

set_option maxRecDepth 100000 in
set_option maxHeartbeats 1000000 in
theorem copied_any (v : Value) (l : List UInt8) (w : World) (h : HB w v l) (hbig : l.length ≤ 140737488355328) :
    Calls Tryz.prog 93 #[v] w fun e w' => e = .returned (.slice (some ⟨w.heap.size, 0, none⟩) l.length l.length) ∧ w'.ownsRow w.heap.size 5 1 (.slice (some ⟨w.heap.size, 0, none⟩) l.length l.length) l.length (bcs l) ∧ Below w.heap.size w w' := by
  obtain ⟨p, c, rfl⟩ := h.shape
  obtain ⟨i0, hi, hz0, hz1, hz2⟩ := info_parts i_u8
  go_enter Tryz.func93, Tryz.ntmps93
  go_wp2_with (first | (at_make; refine wpList_make_full _ rfl _ _ 22 rfl w.heap.size 5 i0 (.int .u8 0) 1 Tryz.underlying22 hi hz0 hz1 .i64 .i64 _ _ l.length rfl rfl ?qa ?qb ?qc ?qd ?qe ?_))
  case qa => rfl
  case qb => rfl
  case qc => rw [hz2]; omega
  case qd => unfold maxLen; omega
  case qe => exact Nat.le_refl _
  intro w1 hown1 hgrow1
  have hb1 : Below w.heap.size w w1 := (Below.refl _ w).grown hgrow1 (Nat.le_refl _) (by intro k hk; cases hk)
  have hs1 := h.later hb1
  clear h hgrow1
  go_wp2_with (refine wpList_copy_hb rfl (.tmp 7) (.tmp 8) 22 22 rfl 5 Tryz.underlying22 s_u8 w.heap.size l.length _ _ _ rfl rfl w.heap.size _ hown1 l hs1 rfl ?_)
  intro w2 hown2 hgrow2
  have hb2 : Below w.heap.size w w2 := hb1.grown hgrow2 hb1.size (by intro k hk; cases hk; exact Nat.le_refl _)
  clear hs1 hown1 hgrow2 hb1
  go_wp2
  go_ret
  exact ⟨rfl, hown2, hb2⟩

end Go.Proofs.YtahfjemllkbpgaaGreatDoor

namespace Go.Proofs.YtahfjemllkbpgaaGreatDoor
open Go.RowKit

theorem cut_calc : ∀ n : Fin 256, ∀ k : Fin 8, bits BinOp.and IntKind.u8 (n.val : Int) (255 * 2 ^ (8 - k.val) % 256) = ((n.val / 2 ^ (8 - k.val) * 2 ^ (8 - k.val) : Nat) : Int) := by decide +kernel

set_option maxRecDepth 100000 in
set_option maxHeartbeats 1000000 in
theorem first_any (v : Value) (l : List UInt8) (i : Int) (w : World) (h : HB w v l) (h0 : -9223372036854775808 ≤ i) (h1 : i ≤ 9223372036854775807) (hbig : l.length ≤ 140737488355328) :
    Calls Tryz.prog 55 #[v, .int .i64 i] w fun e w' => ∃ p c, e = .returned (.slice p (firstF l i).length c) ∧ HB w' (.slice p (firstF l i).length c) (firstF l i) ∧ Below w.heap.size w w' := by
  obtain ⟨p, c, rfl⟩ := h.shape
  by_cases hneg : i < 1
  · have e : firstF l i = [] := by unfold firstF; rw [show i.toNat = 0 by omega, firstN_zero]
    rw [e]
    clear e
    go_enter Tryz.func55, Tryz.ntmps55
    go_wp2
    go_ret
    exact ⟨none, 0, rfl, HB.nil _, Below.refl _ _⟩
  · obtain ⟨n, rfl⟩ : ∃ n : Nat, i = n := ⟨i.toNat, by omega⟩
    have ht : (n : Int).tdiv 8 = (n : Int) / 8 := Int.tdiv_eq_ediv_of_nonneg (by omega)
    have hm : (n : Int).tmod 8 = (n : Int) % 8 := Int.tmod_eq_emod_of_nonneg (by omega)
    have hF : firstF l (n : Int) = firstN l n := by unfold firstF; simp
    have hlc := h.len.2
    unfold maxLen at hlc
    rw [hF]
    clear hF
    by_cases hge : l.length ≤ n / 8
    · rw [firstN_all l n hge]
      have k1 := fun w => run_upto (P := Tryz.prog) Tryz.underlying22 s_u8 p l.length c l.length (l.length : Int) rfl (by omega) w
      go_enter Tryz.func55, Tryz.ntmps55
      go_wp2_with (first | (go_at_call 93; refine (copied_any _ l _ h hbig).mono ?_; rintro e w1 ⟨rfl, hown, hb1⟩))
      go_ret
      exact ⟨_, _, rfl, HB.of_owns hown, hb1⟩
    · by_cases hpart : n % 8 = 0
      · have HF : Hid (firstN l n = l.take (n / 8)) := firstN_whole l n hpart
        have k1 := fun w => run_upto (P := Tryz.prog) Tryz.underlying22 s_u8 p l.length c (n / 8) ((n : Int) / 8) (by omega) (by omega) w
        have hf := h.front (n / 8) (by omega)
        have hlt : (l.take (n / 8)).length = n / 8 := by rw [List.length_take]; omega
        have hcp := copied_any _ _ w hf (by omega)
        rw [hlt] at hcp
        have hp8 : (n : Int) % 8 = 0 := by omega
        have HL : Hid ((firstN l n).length = n / 8) := by show (firstN l n).length = n / 8; rw [HF.out, hlt]
        clear h hlt
        go_enter Tryz.func55, Tryz.ntmps55
        go_wp2_with (first | (go_at_call 93; refine hcp.mono ?_; rintro e w1 ⟨rfl, hown, hb1⟩))
        go_ret
        have hh := HB.of_owns hown
        rw [HL.out, HF.out]
        exact ⟨_, _, rfl, hh, hb1⟩
      · have hg : l[n / 8]? = some l[n / 8] := List.getElem?_eq_getElem (by omega)
        generalize l[n / 8]'(by omega) = x at hg
        have HF : Hid (firstN l n = l.take (n / 8) ++ [cutB x (n % 8)]) := firstN_part l n x hpart hg
        have k1 := fun w => run_upto (P := Tryz.prog) Tryz.underlying22 s_u8 p l.length c (n / 8 + 1) ((n : Int) / 8 + 1) (by omega) (by omega) w
        have hf := h.front (n / 8 + 1) (by omega)
        have hlt : (l.take (n / 8 + 1)).length = n / 8 + 1 := by rw [List.length_take]; omega
        have htk : l.take (n / 8 + 1) = l.take (n / 8) ++ [x] := by rw [List.take_add_one, hg]; rfl
        have hcp := copied_any _ _ w hf (by omega)
        rw [hlt] at hcp
        have hp8 : ¬ (n : Int) % 8 = 0 := by omega
        have hl8 : (l.take (n / 8)).length = n / 8 := by rw [List.length_take]; omega
        have HL : Hid ((firstN l n).length = n / 8 + 1) := by show (firstN l n).length = n / 8 + 1; rw [HF.out, List.length_append, hl8]; rfl
        have hx := x.toNat_lt
        have HX : Hid (bits BinOp.and IntKind.u8 (x.toNat : Int) (255 * 2 ^ (8 - n % 8) % 256) = ((cutB x (n % 8)).toNat : Int)) := by
          show bits BinOp.and IntKind.u8 (x.toNat : Int) (255 * 2 ^ (8 - n % 8) % 256) = ((cutB x (n % 8)).toNat : Int)
          rw [cutB_toNat]
          exact cut_calc ⟨x.toNat, hx⟩ ⟨n % 8, by omega⟩
        have HT : Hid (l.take (n / 8 + 1) = l.take (n / 8) ++ [x]) := htk
        have HL8 : Hid ((l.take (n / 8)).length = n / 8) := hl8
        clear h hlt hg htk hl8 hf
        go_enter Tryz.func55, Tryz.ntmps55
        go_wp2_with (first | (go_at_call 93; refine hcp.mono ?_; rintro e w1 ⟨rfl, hown, hb1⟩; rw [HT.out] at hown; have q1 : w1.cell? ⟨w.heap.size, n / 8, none⟩ = some (.int .u8 (x.toNat : Int)) := (by rw [hown.cellAt (n / 8) (by omega), bcs_get, List.getElem?_append_right (by rw [HL8.out]; exact Nat.le_refl _), HL8.out, Nat.sub_self]; rfl); have qf := hown.frozenAt (n / 8); clear hcp))
        go_region
        go_wp2
        go_ret
        rw [HX.out]
        have hown2 := owns_put hown (n / 8) (cutB x (n % 8)) (.int .u8 ((cutB x (n % 8)).toNat : Int)) rfl
        rw [List.set_append_right _ _ (by rw [HL8.out]; exact Nat.le_refl _), HL8.out, Nat.sub_self, List.set_cons_zero] at hown2
        have hb2 : Below w.heap.size w (w1.setCell ⟨w.heap.size, n / 8, none⟩ (.int .u8 ((cutB x (n % 8)).toNat : Int))) := hb1.setCell (Nat.le_refl _) _
        have hh := (HB.of_owns hown2).later (Below.refl _ _).drew
        rw [HL.out, HF.out]
        exact ⟨_, _, rfl, hh, hb2.drew⟩

end Go.Proofs.YtahfjemllkbpgaaGreatDoor
