/- What this text proves: the walk of the document's Text (annalsref02) over this program: the text of a tag and parts in new memory, or the error. -/
import Derived.Test.YtgfddabccjfhiaaDoorText
import Derived.Test.YtgfddabccjfhiaaDoorRSum
namespace Go.Proofs.YtgfddabccjfhiaaDoor
open Go.RowKit

set_option maxRecDepth 100000 in
set_option maxHeartbeats 400000 in
theorem rtext_arg (tag : Int) (v : Value) (w : World) (p : Option Addr) (n c : Nat) (hv : v = .slice p n c) (h : tag < 0 ∨ 255 < tag) :
    Calls Tryd.prog 75 #[.int .i64 tag, v] w fun e w' => e = .returned (.tuple #[.slice none 0 0, .int .i64 1]) ∧ w' = w := by
  subst hv
  rcases h with h | h
  · have hd : decide (tag < 0) = true := by simpa using h
    go_enter Tryd.func75, Tryd.ntmps75
    go_wp2
    go_ret2
    exact ⟨rfl, rfl⟩
  · have hd : decide (tag < 0) = false := by simp; omega
    go_enter Tryd.func75, Tryd.ntmps75
    go_wp2
    go_ret2
    exact ⟨rfl, rfl⟩

set_option maxRecDepth 100000 in
set_option maxHeartbeats 4000000 in
theorem rtext_in (tag : Int) (v : Value) (ls : List (List UInt8)) (w : World) (h0 : 0 ≤ tag) (h1 : tag ≤ 255) (h : PA w v ls) (hn : ls.length ≤ 1048576) :
    Calls Tryd.prog 75 #[.int .i64 tag, v] w fun e w' => (fits ls → ∃ v', e = .returned (.tuple #[v', .int .i64 0]) ∧ w'.ownsRow w.heap.size 5 1 v' ((body ls).length + 1) (bcs (UInt8.ofNat tag.toNat :: body ls))) ∧ (¬ fits ls → e = .returned (.tuple #[.slice none 0 0, .int .i64 4])) ∧ Below w.heap.size w w' := by
  obtain ⟨p, c, rfl⟩ := h.shape
  have hlen := h.len.2
  unfold maxLen at hlen
  have hd : decide (tag < 0) = false := by simp; omega
  obtain ⟨i0, hi, hz0, hz1, hz2⟩ := info_parts i_u8
  go_enter Tryd.func75, Tryd.ntmps75
  have htg : bcs [UInt8.ofNat tag.toNat] = [.int .u8 tag] := by simp [bcs, bc]; omega
  have hown0 : (w.alloc (.cells #[.int .u8 tag] 5)).ownsRow w.heap.size 5 1 (.slice (some ⟨w.heap.size, 0, none⟩) 1 1) (1 + (body (ls.take 0)).length) (bcs (UInt8.ofNat tag.toNat :: body (ls.take 0))) := by
    have e : bcs (UInt8.ofNat tag.toNat :: body (ls.take 0)) = [.int .u8 tag] := by rw [← htg]; simp [body]
    rw [e]
    exact ⟨rfl, .inr ⟨w.heap.size, 1, #[.int .u8 tag], rfl, Nat.le_refl _, heap_alloc_new w _, Nat.le_refl _, by unfold maxLen; omega, rfl, rfl⟩⟩
  have hbe0 : Below w.heap.size w (w.alloc (.cells #[.int .u8 tag] 5)) := (Below.refl _ w).alloc (Nat.le_refl _) _
  have H0 : Hid ((w.alloc (.cells #[.int .u8 tag] 5)).ownsRow w.heap.size 5 1 (.slice (some ⟨w.heap.size, 0, none⟩) 1 1) (1 + (body (ls.take 0)).length) (bcs (UInt8.ofNat tag.toNat :: body (ls.take 0)))) := hown0
  clear hown0 htg
  go_wp2
  go_loopw [6, 20] (fun v i wr => ∃ k : Nat, k ≤ ls.length ∧ i = .int .i64 k ∧ fits (ls.take k) ∧ wr.ownsRow w.heap.size 5 1 v (1 + (body (ls.take k)).length) (bcs (UInt8.ofNat tag.toNat :: body (ls.take k))) ∧ Below w.heap.size w wr)
    (fun _ i _ => ls.length - (intOf i).toNat)
  case atStart => exact ⟨0, Nat.zero_le _, rfl, (fun p hp => by simp at hp), H0.out, hbe0⟩
  case round =>
    clear H0 hbe0
    obtain ⟨k, hk, rfl, hfk, hown, hbe⟩ := hrel
    have hbk := body_take_le ls k hk hfk
    have hszr := hbe.size
    by_cases hlt : k < ls.length
    · obtain ⟨b, o, rfl⟩ := h.addr (by omega)
      obtain ⟨q1, k1, l1, g1, hc1, hb1⟩ := h.get k hlt
      have hl1 := hb1.len.2
      unfold maxLen at hl1
      have hcr := cell_later hbe hc1
      by_cases hbig : l1.length ≤ 65535
      · have HS := text_step ls k l1 (UInt8.ofNat tag.toNat) g1.out hbig
        have hfs := fits_snoc hfk g1.out hbig
        have HFS : Hid (fits (ls.take (k + 1))) := hfs
        have HL : Hid ((body (ls.take (k + 1))).length = (body (ls.take k)).length + (l1.length + 2)) := by
          show (body (ls.take (k + 1))).length = (body (ls.take k)).length + (l1.length + 2)
          rw [body_snoc ls k l1 g1.out, List.length_append, part_length]
        generalize bcs (UInt8.ofNat tag.toNat :: body (ls.take k)) = X at *
        generalize (body (ls.take k)).length = L at *
        have HS2 : Hid (X ++ [.int .u8 ((l1.length : Int) / 256), .int .u8 ((l1.length : Int) % 256)] ++ bcs l1 = bcs (UInt8.ofNat tag.toNat :: body (ls.take (k + 1)))) := HS
        clear HS hc1 hfk hfs
        go_wp2_with (first | (at_builtin; refine wpList_append_own _ rfl (.tmp 27) (.tmp 35) 22 rfl w.heap.size 5 i0 (.int .u8 0) 1 1 Tryd.underlying22 hi hz0 hz1 hz2 rfl (by decide) _ _ _ rfl (hown.alloc _) ⟨wr.heap.size, 0, none⟩ 2 2 [.int .u8 ((l1.length : Int) / 256), .int .u8 ((l1.length : Int) % 256)] rfl rfl ?ra ?rb ?rc ?rd ?re ?_))
        case ra => exact cell_two_new _ _ _ _
        case rb => intro u hu; simp at hu; rcases hu with rfl | rfl <;> rfl
        case rc => unfold maxLen; omega
        case rd => omega
        case re => simp; omega
        intro v3 w3 hown3 hgrow3 _
        have hb3 : Below w.heap.size w w3 := (hbe.alloc hszr _).grown hgrow3 (by simp; omega) (fun k hk => (hown.lt k hk).1)
        have hsz3 := hb3.size
        have hbr3 := hb1.later hb3
        clear hown hgrow3 hcr
        go_wp2_with (first | (at_builtin; refine wpList_append_hb rfl (.tmp 36) (.tmp 37) 22 rfl w.heap.size 5 Tryd.underlying22 i_u8 _ _ _ rfl hown3 _ _ _ l1 rfl hbr3 ?sa ?sb ?_))
        case sa => omega
        case sb => omega
        intro v4 w4 hown4 hgrow4
        have hb4 : Below w.heap.size w w4 := hb3.grown hgrow4 hsz3 (fun k hk => (hown3.lt k hk).1)
        have hown5 : w4.ownsRow w.heap.size 5 1 v4 (1 + (body (ls.take (k + 1))).length) (bcs (UInt8.ofNat tag.toNat :: body (ls.take (k + 1)))) := by
          rw [HL.out, ← HS2.out]
          have e : 1 + (L + (l1.length + 2)) = 1 + L + 2 + l1.length := by omega
          rw [e]
          simpa using hown4
        clear hown4 hown3 hgrow4 hb3 hbr3
        go_wp2
        go_roundw
        case rel => first | exact ⟨k + 1, by omega, by go_num, HFS.out, hown5, hb4⟩ | ((repeat apply Exists.intro); exact ⟨⟨k + 1, by omega, by go_num, HFS.out, hown5, hb4⟩, rfl⟩)
        case measure => simp [intOf]; omega
      · have HNF : Hid (¬ fits ls) := fun hf => hbig (hf l1 (List.mem_of_getElem? g1.out))
        clear hown hfk hbk
        go_wp2
        go_ret2
        exact ⟨fun hf => absurd hf HNF.out, fun _ => rfl, hbe⟩
    · have hkl : k = ls.length := by omega
      subst hkl
      rw [List.take_of_length_le (Nat.le_refl _)] at hown hfk hbk
      have HF : Hid (fits ls) := hfk
      clear hfk hbk
      go_wp2
      go_ret2
      refine ⟨fun _ => ⟨_, rfl, ?_⟩, fun hf => absurd HF.out hf, hbe⟩
      rw [Nat.add_comm _ 1]
      exact hown

end Go.Proofs.YtgfddabccjfhiaaDoor
