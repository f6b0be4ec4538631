/- What this text proves: the walk of texts.Text over this program: the text of a tag and parts in new memory, or the error of a tag that is not 0 to 255, or of a part that is too long; for 1048576 parts at most. -/
import Derived.Test.YtgfddabccjfhiaaDoorEqual
import Derived.Test.YtgfddabccjfhiaaDoorPlain
import Derived.Test.YtgfddabccjfhiaaDoorLaws
namespace Go.Proofs.YtgfddabccjfhiaaDoor
open Go.RowKit

set_option maxRecDepth 100000 in
set_option maxHeartbeats 400000 in
theorem text_arg (tag : Int) (v : Value) (w : World) (p : Option Addr) (n c : Nat) (hv : v = .slice p n c) (h : tag < 0 ∨ 255 < tag) :
    Calls Tryd.prog 73 #[.int .i64 tag, v] w fun e w' => e = .returned (.tuple #[.slice none 0 0, .int .i64 1]) ∧ w' = w := by
  subst hv
  rcases h with h | h
  · have hd : decide (tag < 0) = true := by simpa using h
    go_enter Tryd.func73, Tryd.ntmps73
    go_wp2
    go_ret2
    exact ⟨rfl, rfl⟩
  · have hd : decide (tag < 0) = false := by simp; omega
    go_enter Tryd.func73, Tryd.ntmps73
    go_wp2
    go_ret2
    exact ⟨rfl, rfl⟩

set_option maxRecDepth 100000 in
set_option maxHeartbeats 2000000 in
theorem text_full (tag : Int) (v : Value) (ls : List (List UInt8)) (w : World) (h0 : 0 ≤ tag) (h1 : tag ≤ 255) (h : PA w v ls) (hn : ls.length ≤ 1048576) (hf : ¬ fits ls) :
    Calls Tryd.prog 73 #[.int .i64 tag, v] w fun e w' => e = .returned (.tuple #[.slice none 0 0, .int .i64 4]) ∧ w' = w := by
  obtain ⟨p, c, rfl⟩ := h.shape
  have hlen := h.len.2
  unfold maxLen at hlen
  have hne : ls ≠ [] := by
    intro e
    subst e
    exact hf (fun p hp => by cases hp)
  obtain ⟨b, o, rfl⟩ := h.addr (List.length_pos_iff.2 hne)
  have hd : decide (tag < 0) = false := by simp; omega
  have HF : Hid (¬ fits ls) := hf
  clear hf hne
  go_enter Tryd.func73, Tryd.ntmps73
  go_wp2
  go_loop [6, 20] (fun r i => ∃ k : Nat, k ≤ ls.length ∧ i = .int .i64 k ∧ fits (ls.take k) ∧ r = .int .i64 (1 + ((body (ls.take k)).length : Int))) (fun _ i => ls.length - (intOf i).toNat)
  case atStart => exact ⟨0, Nat.zero_le _, rfl, (fun p hp => by simp at hp), by simp [body]⟩
  case round =>
    obtain ⟨k, hk, rfl, hfk, rfl⟩ := hrel
    have hbl := body_take_le ls k hk hfk
    by_cases hlt : k < ls.length
    · obtain ⟨q1, k1, l1, g1, hc1, hb1⟩ := h.get k hlt
      have hl1 := hb1.len.2
      unfold maxLen at hl1
      generalize hL : (body (ls.take k)).length = L at *
      have HL : Hid ((body (ls.take k)).length = L) := hL
      clear hL
      by_cases hbig : l1.length ≤ 65535
      · have hsn := body_snoc ls k l1 g1.out
        have HS : Hid ((body (ls.take (k + 1))).length = L + (l1.length + 2)) := by
          show (body (ls.take (k + 1))).length = L + (l1.length + 2)
          rw [hsn, List.length_append, part_length, HL.out]
        have hfs := fits_snoc hfk g1.out hbig
        clear hsn hfk
        go_wp2
        go_round
        case rel => exact ⟨k + 1, by omega, by go_num, hfs, by rw [HS.out]; go_num⟩
        case measure => simp [intOf]; omega
      · clear hfk
        go_wp2
        go_ret2
        exact ⟨rfl, rfl⟩
    · exact absurd (by rw [List.take_of_length_le (by omega)] at hfk; exact hfk) HF.out

theorem text_step (ls : List (List UInt8)) (k : Nat) (l : List UInt8) (t : UInt8) (h : ls[k]? = some l) (hl : l.length ≤ 65535) :
    bcs (t :: body (ls.take k)) ++ [.int .u8 ((l.length : Int) / 256), .int .u8 ((l.length : Int) % 256)] ++ bcs l = bcs (t :: body (ls.take (k + 1))) := by
  rw [body_snoc ls k l h]
  have e1 : bc (UInt8.ofNat (l.length / 256)) = .int .u8 ((l.length : Int) / 256) := by simp [bc]; omega
  have e2 : bc (UInt8.ofNat l.length) = .int .u8 ((l.length : Int) % 256) := by simp [bc]
  rw [← e1, ← e2]
  simp [bcs, part]

set_option maxRecDepth 100000 in
set_option maxHeartbeats 4000000 in
theorem text_ok (tag : Int) (v : Value) (ls : List (List UInt8)) (w : World) (h0 : 0 ≤ tag) (h1 : tag ≤ 255) (h : PA w v ls) (hn : ls.length ≤ 1048576) (hf : fits ls) :
    Calls Tryd.prog 73 #[.int .i64 tag, v] w fun e w' => ∃ v', e = .returned (.tuple #[v', .int .i64 0]) ∧ w'.ownsRow w.heap.size 5 1 v' ((body ls).length + 1) (bcs (UInt8.ofNat tag.toNat :: body ls)) ∧ Below w.heap.size w w' := by
  obtain ⟨p, c, rfl⟩ := h.shape
  have hlen := h.len.2
  unfold maxLen at hlen
  have hd : decide (tag < 0) = false := by simp; omega
  have htot := body_le ls hf
  obtain ⟨i0, hi, hz0, hz1, hz2⟩ := info_parts i_u8
  go_enter Tryd.func73, Tryd.ntmps73
  go_wp2
  go_loop [6, 20] (fun r i => ∃ k : Nat, k ≤ ls.length ∧ i = .int .i64 k ∧ r = .int .i64 (1 + ((body (ls.take k)).length : Int))) (fun _ i => ls.length - (intOf i).toNat)
  case atStart => exact ⟨0, Nat.zero_le _, rfl, by simp [body]⟩
  case round =>
    obtain ⟨k, hk, rfl, rfl⟩ := hrel
    have hbl := body_mono ls k
    by_cases hlt : k < ls.length
    · obtain ⟨b, o, rfl⟩ := h.addr (by omega)
      obtain ⟨q1, k1, l1, g1, hc1, hb1⟩ := h.get k hlt
      have hbig : l1.length ≤ 65535 := hf l1 (List.mem_of_getElem? g1.out)
      generalize hL : (body (ls.take k)).length = L at *
      have HL : Hid ((body (ls.take k)).length = L) := hL
      clear hL
      have hsn := body_snoc ls k l1 g1.out
      have HS : Hid ((body (ls.take (k + 1))).length = L + (l1.length + 2)) := by
        show (body (ls.take (k + 1))).length = L + (l1.length + 2)
        rw [hsn, List.length_append, part_length, HL.out]
      clear hsn
      go_wp2
      go_round
      case rel => exact ⟨k + 1, by omega, by go_num, by rw [HS.out]; go_num⟩
      case measure => simp [intOf]; omega
    · have hkl : k = ls.length := by omega
      subst hkl
      rw [List.take_of_length_le (Nat.le_refl _)] at hbl ⊢
      clear hbl hlt hk
      generalize hT : (body ls).length = T at *
      have HT : Hid ((body ls).length = T) := hT
      clear hT
      go_wp2_with (first | (at_make; refine wpList_make_own _ rfl _ _ 22 rfl w.heap.size 5 i0 (.int .u8 0) 1 Tryd.underlying22 hi hz0 hz1 .i64 .i64 _ (1 + T) rfl rfl ?qa ?qb ?qc ?qd ?_))
      case qb => omega
      case qc => unfold maxLen; omega
      intro w1 hown1 hgrow1
      have hb1 : Below w.heap.size w w1 := (Below.refl _ w).grown hgrow1 (Nat.le_refl _) (by intro k hk; cases hk)
      go_wp2_with (first | (at_builtin; refine wpList_append_fits _ rfl _ _ 22 rfl w.heap.size 5 i0 1 Tryd.underlying22 hi hz1 w.heap.size 0 (1 + T) _ rfl (hown1.alloc _) ⟨w1.heap.size, 0, none⟩ 1 1 [.int .u8 tag] rfl rfl ?qe ?qf ?qg ?_))
      case qe => exact cell_one_new _ _ _
      case qf => intro u hu; simp at hu; subst hu; rfl
      case qg => omega
      intro w2 hown2 hgrow2
      have hb2 : Below w.heap.size w w2 := (hb1.alloc hb1.size _).grown hgrow2 (by have := hb1.size; simp; omega) (by intro k hk; cases hk; exact Nat.le_refl _)
      have htg : bcs [UInt8.ofNat tag.toNat] = [.int .u8 tag] := by simp [bcs, bc]; omega
      clear hown1 hgrow1 hgrow2 hb1
      go_wp2
      go_loopw [9, 42] (fun v i wr => ∃ k : Nat, k ≤ ls.length ∧ i = .int .i64 k ∧ wr.ownsRow w.heap.size 5 1 v (1 + (body (ls.take k)).length) (bcs (UInt8.ofNat tag.toNat :: body (ls.take k))) ∧ Below w.heap.size w wr)
        (fun _ i _ => ls.length - (intOf i).toNat)
      case atStart => exact ⟨0, Nat.zero_le _, rfl, by simpa [body, htg] using hown2, hb2⟩
      case round =>
        obtain ⟨k, hk, rfl, hown, hbe⟩ := hrel
        clear hown2 hb2
        by_cases hlt : k < ls.length
        · obtain ⟨b, o, rfl⟩ := h.addr (by omega)
          obtain ⟨q1, k1, l1, g1, hc1, hb1⟩ := h.get k hlt
          have hbig : l1.length ≤ 65535 := hf l1 (List.mem_of_getElem? g1.out)
          have hcr := cell_later hbe hc1
          have hbr := hb1.later hbe
          have hszr := hbe.size
          have hbk := body_mono ls k
          rw [HT.out] at hbk
          have HS := text_step ls k l1 (UInt8.ofNat tag.toNat) g1.out hbig
          have HL : Hid ((body (ls.take (k + 1))).length = (body (ls.take k)).length + (l1.length + 2)) := by
            show (body (ls.take (k + 1))).length = (body (ls.take k)).length + (l1.length + 2)
            rw [body_snoc ls k l1 g1.out, List.length_append, part_length]
          generalize bcs (UInt8.ofNat tag.toNat :: body (ls.take k)) = X at *
          generalize (body (ls.take k)).length = L at *
          have HS2 : Hid (X ++ [.int .u8 ((l1.length : Int) / 256), .int .u8 ((l1.length : Int) % 256)] ++ bcs l1 = bcs (UInt8.ofNat tag.toNat :: body (ls.take (k + 1)))) := HS
          clear HS hc1
          go_wp2_with (first | (at_builtin; refine wpList_append_own _ rfl (.tmp 46) (.tmp 54) 22 rfl w.heap.size 5 i0 (.int .u8 0) 1 1 Tryd.underlying22 hi hz0 hz1 hz2 rfl (by decide) _ _ _ rfl (hown.alloc _) ⟨wr.heap.size, 0, none⟩ 2 2 [.int .u8 ((l1.length : Int) / 256), .int .u8 ((l1.length : Int) % 256)] rfl rfl ?ra ?rb ?rc ?rd ?re ?_))
          case ra => exact cell_two_new _ _ _ _
          case rb => intro u hu; simp at hu; rcases hu with rfl | rfl <;> rfl
          case rc => unfold maxLen; omega
          case rd => omega
          case re => simp; omega
          intro v3 w3 hown3 hgrow3 _
          have hb3 : Below w.heap.size w w3 := (hbe.alloc hszr _).grown hgrow3 (by simp; omega) (fun k hk => (hown.lt k hk).1)
          have hsz3 := hb3.size
          have hbr3 := hb1.later hb3
          clear hown hgrow3 hbr hcr
          go_wp2_with (first | (at_builtin; refine wpList_append_hb rfl (.tmp 56) (.tmp 57) 22 rfl w.heap.size 5 Tryd.underlying22 i_u8 _ _ _ rfl hown3 _ _ _ l1 rfl hbr3 ?sa ?sb ?_))
          case sa => omega
          case sb => omega
          intro v4 w4 hown4 hgrow4
          have hb4 : Below w.heap.size w w4 := hb3.grown hgrow4 hsz3 (fun k hk => (hown3.lt k hk).1)
          have hown5 : w4.ownsRow w.heap.size 5 1 v4 (1 + (body (ls.take (k + 1))).length) (bcs (UInt8.ofNat tag.toNat :: body (ls.take (k + 1)))) := by
            rw [HL.out, ← HS2.out]
            have e : 1 + (L + (l1.length + 2)) = 1 + L + 2 + l1.length := by omega
            rw [e]
            simpa using hown4
          clear hown4 hown3 hgrow4 hb3 hbr3
          go_wp2
          go_roundw
          case rel => first | exact ⟨k + 1, by omega, by go_num, hown5, hb4⟩ | ((repeat apply Exists.intro); exact ⟨⟨k + 1, by omega, by go_num, hown5, hb4⟩, rfl⟩)
          case measure => simp [intOf]; omega
        · have hkl : k = ls.length := by omega
          subst hkl
          rw [List.take_of_length_le (Nat.le_refl _), HT.out] at hown
          go_wp2
          go_ret2
          refine ⟨_, rfl, ?_, hbe⟩
          rw [HT.out, Nat.add_comm T 1]
          exact hown

end Go.Proofs.YtgfddabccjfhiaaDoor
