/- What this text proves: the walk of codec.Uint over this program, and that the statement's own look finds it awake. What this text proves: the walks of codec.Bytes and codec.Flag over this program. -/
import Derived.Test.YtcgpgnajmfemhaaGreatDoorJE2
namespace Go.Proofs.YtcgpgnajmfemhaaGreatDoor
open Go.RowKit

set_option maxRecDepth 100000 in
set_option maxHeartbeats 400000 in
theorem cuint_any (v : Value) (l : List UInt8) (n : Int) (w : World) (h : HB w v l) (hbig : l.length ≤ 140737488355300) :
    Calls Tryz.prog 87 #[v, .int .i64 n] w fun e w' => ∃ p c, e = .returned (.slice p (l ++ numL (clampN n)).length c) ∧ w'.ownsRow w.heap.size 5 1 (.slice p (l ++ numL (clampN n)).length c) (l ++ numL (clampN n)).length (bcs (l ++ numL (clampN n))) ∧ Below w.heap.size w w' := by
  obtain ⟨p, c, rfl⟩ := h.shape
  have hg := grown_any _ l 9 w h (by omega) (by omega)
  generalize hR : l ++ numL (clampN n) = R
  have HR : Hid (l ++ numL (clampN n) = R) := hR
  clear hR h
  go_enter Tryz.func87, Tryz.ntmps87
  go_wp2_with fail
  refine hg.mono ?_
  rintro e w1 ⟨p1, c1, rfl, hown1, hb1⟩
  have hc := cnum_any p1 c1 l w.heap.size n w1 hown1 hb1.size hbig
  rw [HR.out] at hc
  clear hg hown1
  go_wp2_with fail
  refine hc.mono ?_
  rintro e w2 ⟨p2, c2, rfl, hown2, hb2⟩
  have hb02 := hb1.trans hb2
  clear hc hb1 hb2
  go_wp2
  go_ret
  exact ⟨_, _, rfl, hown2, hb02⟩

theorem clampN_nat (n : Nat) (h : n ≤ 4611686018427387904) : clampN (n : Int) = n := by unfold clampN; omega

theorem num258 : ([] : List UInt8) ++ numL (clampN 258) = [2, 1, 2] := by decide +kernel

end Go.Proofs.YtcgpgnajmfemhaaGreatDoor

namespace Go.Proofs.YtcgpgnajmfemhaaGreatDoor
open Go.RowKit

set_option maxRecDepth 100000 in
set_option maxHeartbeats 1000000 in
theorem cbytes_any (v u : Value) (l s : List UInt8) (w : World) (h : HB w v l) (hs : HB w u s) (hbig : l.length + s.length ≤ 140737488355200) :
    Calls Tryz.prog 130 #[v, u] w fun e w' => ∃ p c, e = .returned (.slice p (l ++ bytesL s).length c) ∧ w'.ownsRow w.heap.size 5 1 (.slice p (l ++ bytesL s).length c) (l ++ bytesL s).length (bcs (l ++ bytesL s)) ∧ Below w.heap.size w w' := by
  obtain ⟨p, c, rfl⟩ := h.shape
  obtain ⟨q, d, rfl⟩ := hs.shape
  have hg := grown_any _ l (9 + s.length) w h (by omega) (by omega)
  rw [show ((9 + s.length : Nat) : Int) = 9 + (s.length : Int) by omega] at hg
  have hc9 := cnt_le8 s.length (by omega)
  have HR : Hid ((l ++ numL s.length) ++ s = l ++ bytesL s) := by show _ = _; unfold bytesL; simp
  have hRl : (l ++ numL s.length).length ≤ l.length + 9 := by rw [List.length_append, numL_length]; omega
  have HRL : Hid ((l ++ numL s.length).length ≤ l.length + 9) := hRl
  have HQ : Hid ((l ++ bytesL s).length = (l ++ numL s.length).length + s.length) := by show _ = _; rw [← HR.out, List.length_append]
  have hcn := clampN_nat s.length (by omega)
  generalize hM : l ++ bytesL s = M at HR HQ ⊢
  clear hM hRl h hc9
  go_enter Tryz.func130, Tryz.ntmps130
  go_wp2_with fail
  refine hg.mono ?_
  rintro e w1 ⟨p1, c1, rfl, hown1, hb1⟩
  have hc := cnum_any p1 c1 l w.heap.size (s.length : Int) w1 hown1 hb1.size (by omega)
  rw [hcn] at hc
  clear hg hown1 hcn
  generalize l ++ numL s.length = R at *
  go_wp2_with fail
  refine hc.mono ?_
  rintro e w2 ⟨p2, c2, rfl, hown2, hb2⟩
  have hb02 := hb1.trans hb2
  have hs2 := hs.later hb02
  have hsz := hb02.size
  clear hc hb1 hb2 hs
  go_wp2_with (first | (at_builtin; refine wpList_append_hb rfl (.tmp 12) (.tmp 13) 37 rfl w.heap.size 5 Tryz.underlying37 i_u8 _ _ _ rfl hown2 _ _ _ s rfl hs2 ?sa ?sb ?_))
  case sa => have := HRL.out; omega
  case sb => exact hsz
  intro v3 w3 hown3 hgrow3
  have hb3 : Below w.heap.size w w3 := hb02.grown hgrow3 hsz (fun k hk => (hown2.lt k hk).1)
  rw [← bcs_append, HR.out, ← HQ.out] at hown3
  obtain ⟨p3, c3, rfl⟩ := owns_shape hown3
  clear hgrow3 hown2 hs2 hb02
  go_wp2
  go_ret
  exact ⟨_, _, rfl, hown3, hb3⟩

end Go.Proofs.YtcgpgnajmfemhaaGreatDoor
