/- What this text proves: the walks of codec.Bytes and codec.Flag over this program. -/
import Derived.Test.YtldmbfemoepfkaaCUintT
namespace Go.Proofs.Ytldmbfemoepfkaa
open Go.RowKit

set_option maxHeartbeats 1000000 in
theorem cbytes_any (v u : Value) (l s : List UInt8) (w : World) (h : HB w v l) (hs : HB w u s) (hbig : l.length + s.length ≤ 140737488355200) :
    Calls Try.prog 73 #[v, u] w fun e w' => ∃ p c, e = .returned (.slice p (l ++ bytesL s).length c) ∧ w'.ownsRow w.heap.size 5 1 (.slice p (l ++ bytesL s).length c) (l ++ bytesL s).length (bcs (l ++ bytesL s)) ∧ Below w.heap.size w w' := by
  obtain ⟨p, c, rfl⟩ := h.shape
  obtain ⟨q, d, rfl⟩ := hs.shape
  have hg := grown_any _ l (9 + s.length) w h (by omega) (by omega)
  rw [show ((9 + s.length : Nat) : Int) = 9 + (s.length : Int) by omega] at hg
  have hc9 := cnt_le8 s.length (by omega)
  have HR : Hid ((l ++ numL s.length) ++ s = l ++ bytesL s) := by show _ = _; unfold bytesL; simp
  have hRl : (l ++ numL s.length).length ≤ l.length + 9 := by rw [List.length_append, numL_length]; omega
  have HRL : Hid ((l ++ numL s.length).length ≤ l.length + 9) := hRl
  have HQ : Hid ((l ++ bytesL s).length = (l ++ numL s.length).length + s.length) := by show _ = _; rw [← HR.out, List.length_append]
  have hcn := clampN_nat s.length (by omega)
  generalize hM : l ++ bytesL s = M at HR HQ ⊢
  clear hM hRl h hc9
  go_enter Try.func73, Try.ntmps73
  go_wp2_with fail
  refine hg.mono ?_
  rintro e w1 ⟨p1, c1, rfl, hown1, hb1⟩
  have hc := cnum_any p1 c1 l w.heap.size (s.length : Int) w1 hown1 hb1.size (by omega)
  rw [hcn] at hc
  clear hg hown1 hcn
  generalize l ++ numL s.length = R at *
  go_wp2_with fail
  refine hc.mono ?_
  rintro e w2 ⟨p2, c2, rfl, hown2, hb2⟩
  have hb02 := hb1.trans hb2
  have hs2 := hs.later hb02
  have hsz := hb02.size
  clear hc hb1 hb2 hs
  go_wp2_with (first | (at_builtin; refine wpList_append_hb rfl (.tmp 12) (.tmp 13) 22 rfl w.heap.size 5 Try.underlying22 i_u8 _ _ _ rfl hown2 _ _ _ s rfl hs2 ?sa ?sb ?_))
  case sa => have := HRL.out; omega
  case sb => exact hsz
  intro v3 w3 hown3 hgrow3
  have hb3 : Below w.heap.size w w3 := hb02.grown hgrow3 hsz (fun k hk => (hown2.lt k hk).1)
  rw [← bcs_append, HR.out, ← HQ.out] at hown3
  obtain ⟨p3, c3, rfl⟩ := owns_shape hown3
  clear hgrow3 hown2 hs2 hb02
  go_wp2
  go_ret
  exact ⟨_, _, rfl, hown3, hb3⟩

set_option maxHeartbeats 1000000 in
theorem cflag_any (v : Value) (l : List UInt8) (b : Bool) (w : World) (h : HB w v l) (hbig : l.length ≤ 140737488355300) :
    Calls Try.prog 71 #[v, .bool b] w fun e w' => ∃ p c, e = .returned (.slice p (l ++ flagL b).length c) ∧ w'.ownsRow w.heap.size 5 1 (.slice p (l ++ flagL b).length c) (l ++ flagL b).length (bcs (l ++ flagL b)) ∧ Below w.heap.size w w' := by
  obtain ⟨p, c, rfl⟩ := h.shape
  obtain ⟨i0, hi, hz0, hz1, hz2⟩ := info_parts i_u8
  have hg := grown_any _ l 1 w h (by omega) (by omega)
  have HQ : Hid ((l ++ flagL b).length = l.length + 1) := by show _ = _; unfold flagL; simp
  clear h
  cases b with
  | true =>
    have HR : Hid (bcs l ++ [.int .u8 1] = bcs (l ++ flagL true)) := by show _ = _; simp [flagL, bcs, bc]
    generalize l ++ flagL true = R at *
    go_enter Try.func71, Try.ntmps71
    go_wp2_with fail
    refine hg.mono ?_
    rintro e w1 ⟨p1, c1, rfl, hown1, hb1⟩
    have hsz := hb1.size
    clear hg
    go_wp2_with (first | (at_builtin; refine wpList_append_own _ rfl (.tmp 7) (.tmp 8) 22 rfl w.heap.size 5 i0 (.int .u8 0) 1 1 Try.underlying22 hi hz0 hz1 hz2 rfl (by decide) _ _ _ rfl (hown1.alloc _) ⟨w1.heap.size, 0, none⟩ 1 1 [.int .u8 1] rfl rfl ?ua ?ub ?uc ?ud ?ue ?_))
    case ua => exact cell_one_new _ _ _
    case ub => intro u hu; simp at hu; subst hu; rfl
    case uc => unfold maxLen; omega
    case ud => omega
    case ue => simp; omega
    intro v2 w2 hown2 hgrow2 _
    have hb2 : Below w.heap.size w w2 := (hb1.alloc hsz _).grown hgrow2 (by simp; omega) (fun k hk => (hown1.lt k hk).1)
    rw [HR.out, ← HQ.out] at hown2
    obtain ⟨p2, c2, rfl⟩ := owns_shape hown2
    clear hgrow2 hown1 hb1
    go_wp2
    go_ret
    exact ⟨_, _, rfl, hown2, hb2⟩
  | false =>
    have HR : Hid (bcs l ++ [.int .u8 0] = bcs (l ++ flagL false)) := by show _ = _; simp [flagL, bcs, bc]
    generalize l ++ flagL false = R at *
    go_enter Try.func71, Try.ntmps71
    go_wp2_with fail
    refine hg.mono ?_
    rintro e w1 ⟨p1, c1, rfl, hown1, hb1⟩
    have hsz := hb1.size
    clear hg
    go_wp2_with (first | (at_builtin; refine wpList_append_own _ rfl (.tmp 11) (.tmp 12) 22 rfl w.heap.size 5 i0 (.int .u8 0) 1 1 Try.underlying22 hi hz0 hz1 hz2 rfl (by decide) _ _ _ rfl (hown1.alloc _) ⟨w1.heap.size, 0, none⟩ 1 1 [.int .u8 0] rfl rfl ?ua ?ub ?uc ?ud ?ue ?_))
    case ua => exact cell_one_new _ _ _
    case ub => intro u hu; simp at hu; subst hu; rfl
    case uc => unfold maxLen; omega
    case ud => omega
    case ue => simp; omega
    intro v2 w2 hown2 hgrow2 _
    have hb2 : Below w.heap.size w w2 := (hb1.alloc hsz _).grown hgrow2 (by simp; omega) (fun k hk => (hown1.lt k hk).1)
    rw [HR.out, ← HQ.out] at hown2
    obtain ⟨p2, c2, rfl⟩ := owns_shape hown2
    clear hgrow2 hown1 hb1
    go_wp2
    go_ret
    exact ⟨_, _, rfl, hown2, hb2⟩

end Go.Proofs.Ytldmbfemoepfkaa
