/- What this text proves: the walk of ledger's Entries over this program: how many they are. What this text proves: the walk of annalslaw08.awake over this program: it answers true. What this text proves: the walk of annalslaw23.awake over this program: it answers true. -/
import Derived.Test.YtcdikkgkjjopmaaGreatDoorJL2
import Derived.Test.YtcdikkgkjjopmaaGreatDoorJE1
import Derived.Test.YtcdikkgkjjopmaaGreatDoorJSgAppend
import Derived.Test.YtcdikkgkjjopmaaGreatDoorJN1
import Derived.Lib.SlBytesConst
import Derived.Test.YtcdikkgkjjopmaaGreatDoorJH1
import Derived.Test.YtcdikkgkjjopmaaGreatDoorJP2
namespace Go.Proofs.YtcdikkgkjjopmaaGreatDoor
open Go.RowKit

theorem i_ent : (Tryz.prog.info? 26).map (fun i => (i.zero, i.size, i.bytes)) = some (some (.agg #[.int .i64 0, .slice none 0 0]), 2, 32) := by kernel_rfl

set_option maxRecDepth 100000 in
set_option maxHeartbeats 8000000 in
theorem lents_any {B g gl N kk K : Nat} {s h mi mk ch ar ca pg n c t : Int} {ls : List (List UInt8)} {w : World} (H : LS B g gl N kk K s h mi mk ch ar ca pg n c t ls w) (hl1 : 2 ≤ ls.length) (hl2 : ls.length ≤ 1000) (hrow : ∀ l ∈ ls, l.length ≤ 4000) :
    Calls Tryz.prog 30 #[.pointer (some ⟨g, 0, none⟩)] w fun x w' => ∃ p m c, x = .returned (.slice p m c) ∧ m = ls.length - 1 ∧ Below w.heap.size w w' := by
  obtain ⟨bd, bn, bm, base, cc, cr, pr, st, k1, k2, k3, k4, k5, k6, k7, k8, k9, k10, k11⟩ := H
  have a8 := k1.cells.2.1
  have hM := lmiss_no g gl w a8
  have hRc := srecs_any k2 k3 (by omega) (fun l hl => by have := hrow l hl; omega)
  have HR : Hid (∀ l ∈ ls, l.length ≤ 4000) := hrow
  obtain ⟨m, hm⟩ : ∃ m, m = ls.length - 1 := ⟨_, rfl⟩
  rw [← hm]
  have HM : Hid (ls.length = m + 1 ∧ 1 ≤ m ∧ m ≤ 1000) := ⟨by omega, by omega, by omega⟩
  have kc : ∀ (p : Option Addr) (c : Nat) w', (Instr.slice 90 (.slice p ls.length c) (some (.int .i64 1)) none none).run Tryz.prog w' = .ok (.slice (cutP p c 1) m (c - 1)) w' := fun p c w' => by rw [hm]; exact run_cut (P := Tryz.prog) Tryz.underlying90 s_bytes p ls.length c 1 1 rfl (by omega) w'
  obtain ⟨i0, hi, hz0, hz1, hz2⟩ := info_parts i_ent
  clear k2 k3 k4 k5 k6 k7 k8 k9 k10 k11 hm hl1 hl2 hrow
  go_enter Tryz.func30, Tryz.ntmps30
  go_wp2_with (first | (go_at_call 54; refine hM.mono ?_; rintro e wm ⟨rfl, hwm⟩; have hwm2 := hwm.symm; clear hwm; subst hwm2) | fail)
  refine hRc.mono ?_
  rintro e w1 ⟨p1, c1, rfl, o1, b1⟩
  have hp1 := o1.pa
  obtain ⟨hls, hm1, hm2⟩ := HM.out
  obtain ⟨bl, o, rfl⟩ := hp1.addr (by omega)
  have hl := hp1.len
  have hcp : cutP (some ⟨bl, o, none⟩) c1 1 = some ⟨bl, o + 1, none⟩ := by unfold cutP; rw [if_neg (by omega)]; rfl
  have kc2 := kc (some ⟨bl, o, none⟩) c1
  rw [hcp] at kc2
  have hcc : m ≤ c1 - 1 ∧ c1 - 1 ≤ 9223372036854775807 := by have := hl.2.2; unfold maxLen at this; omega
  obtain ⟨c2, hc2⟩ : ∃ c2, c2 = c1 - 1 := ⟨_, rfl⟩
  rw [← hc2] at kc2 hcc
  have HG : Hid (∀ k : Nat, k < m → ∃ (q : Option Addr) (kk : Nat) (l : List UInt8), w1.cell? ⟨bl, o + 1 + k, none⟩ = some (.slice q l.length kk) ∧ HB w1 (.slice q l.length kk) l ∧ l.length ≤ 4000) := by
    intro k hk
    obtain ⟨q, kk, l, hx, hc, hu⟩ := hp1.get (k + 1) (by omega)
    refine ⟨q, kk, l, ?_, hu, HR.out l (List.mem_of_getElem? hx)⟩
    rw [show o + 1 + k = o + (k + 1) by omega]
    exact hc
  have kL := k1.same (b1.block _ k1.lt)
  have hm3 : m ≤ 9223372036854775807 := by omega
  clear hRc o1 hp1 hl hcp kc hc2 hls HR HM
  go_wp2
  go_loopw [3, 17] (fun v i wr => ∃ (k : Nat) (p : Option Addr) (cp : Nat) (xs : List Value), k ≤ m ∧ i = .int .i64 (k : Int) ∧ v = .slice p k cp ∧ wr.ownsRow w1.heap.size 26 2 (.slice p k cp) k xs ∧ Below w1.heap.size w1 wr) (fun _ i _ => m - (Go.RowKit.intOf i).toNat)
  case atStart => exact ⟨0, none, 0, [], Nat.zero_le _, rfl, rfl, World.ownsRow_nil _ _ _ _, Below.refl _ _⟩
  case round =>
    obtain ⟨k, p, cp, xs, hk, rfl, rfl, ow, hb⟩ := hrel
    by_cases hlt : k < m
    · have hlt2 : (k : Int) < (m : Int) := by omega
      obtain ⟨q, kk', l, hc, hu, hl4⟩ := HG.out k hlt
      have e1 := cell_later hb hc
      obtain ⟨⟨a0, a1, a2, a3, a4, a5, a6, a7⟩, _⟩ := (kL.same (hb.block _ kL.lt)).cells
      have hRd := lread_ent s h mi mk ch ar ca pg _ l wr (hu.later hb) (by omega)
      clear HG hc hu
      go_wp2_with fail
      refine hRd.mono ?_
      rintro e w4 ⟨t4, p4, n4, c4, e4, rfl, b4⟩
      have bE := (Below.refl w4.heap.size w4).alloc (Nat.le_refl _) (.cells #[.int .i64 t4, .slice p4 n4 c4] 26)
      have gE := heap_alloc_new w4 (.cells #[.int .i64 t4, .slice p4 n4 c4] 26)
      obtain ⟨WE, hWE⟩ : ∃ WE, w4.alloc (.cells #[.int .i64 t4, .slice p4 n4 c4] 26) = WE := ⟨_, rfl⟩
      rw [hWE] at bE gE
      obtain ⟨z0, z1, _, _⟩ := ent_cells gE
      have bF := (Below.refl WE.heap.size WE).alloc (Nat.le_refl _) (.cells #[.int .i64 t4, .slice p4 n4 c4] 26)
      have gF := heap_alloc_new WE (.cells #[.int .i64 t4, .slice p4 n4 c4] 26)
      have sF : (WE.alloc (.cells #[.int .i64 t4, .slice p4 n4 c4] 26)).heap.size = WE.heap.size + 1 := by simp
      have b4F := b4.trans ((bE.trans (bF.mono bE.size)).mono b4.size)
      have oF := owns_later ow b4F
      have hbs := hb.size
      have hnews : ∀ j u, [Value.int .i64 t4, .slice p4 n4 c4][j]? = some u → (WE.alloc (.cells #[.int .i64 t4, .slice p4 n4 c4] 26)).cell? ((⟨WE.heap.size, 0, none⟩ : Addr).add j) = some u := World.news_of_block (cs := #[.int .i64 t4, .slice p4 n4 c4]) (t := 26) (fr := (0, 0)) gF
      have hFs : w1.heap.size ≤ (WE.alloc (.cells #[.int .i64 t4, .slice p4 n4 c4] 26)).heap.size := Nat.le_trans hbs b4F.size
      clear hRd gE gF e1
      go_wp2_with (first
        | (at_builtin; refine wpList_append_lies _ rfl _ _ 33 rfl w1.heap.size 26 i0 _ 2 32 Tryz.underlying33 hi hz0 hz1 hz2 rfl (by omega) (.slice p k cp) k xs rfl oF ⟨WE.heap.size, 0, none⟩ 1 1 [.int .i64 t4, .slice p4 n4 c4] rfl rfl hnews (by simp [Value.oneCell']) (by omega) (by unfold maxLen; omega) (by omega) hFs (WE.heap.size + 1) sF ?_; intro g5 cap5 w5 ow5 gr5 hat5 hlt5))
      have hbF := hb.trans (b4F.mono hb.size)
      have hb5 : Below w1.heap.size w1 w5 := hbF.grown gr5 hbF.size (by intro q hq; exact (oF.lt q hq).1)
      clear hat5 hlt5 gr5 oF hnews
      go_wp2
      go_roundw
      case rel => first | exact ⟨k + 1, _, _, _, by omega, by go_num, rfl, ow5, hb5⟩ | ((repeat apply Exists.intro); exact ⟨⟨k + 1, _, _, _, by omega, by go_num, rfl, ow5, hb5⟩, rfl⟩)
      case measure => simp [Go.RowKit.intOf]; omega
    · obtain rfl : k = m := by omega
      have hnk : ¬ (k : Int) < (k : Int) := by omega
      go_wp2
      go_ret
      exact ⟨p, k, ⟨cp, rfl⟩, rfl, b1.trans (hb.mono b1.size)⟩

end Go.Proofs.YtcdikkgkjjopmaaGreatDoor

namespace Go.Proofs.YtcdikkgkjjopmaaGreatDoor
open Go.RowKit

theorem new_alive (n : Nat) : Alive (DevS.new n) n 0 := ⟨rfl, rfl, by simp [DevS.new, DevS.made], Nat.le_refl _⟩
theorem new_zero (n : Nat) : ∀ r ∈ (DevS.new n).now, r = nulls := fun _ h => (List.mem_replicate.1 h).2

end Go.Proofs.YtcdikkgkjjopmaaGreatDoor

namespace Go.Proofs.YtcdikkgkjjopmaaGreatDoor
open Go.RowKit

theorem hb_blkL {W : World} {L : Nat} {fr : Nat × Nat} (h : W.heap[L]? = some (.cells #[.int .u8 97] 5 fr)) : HB W (.slice (some ⟨L, 0, none⟩) 1 1) [97] := by
  refine ⟨_, 1, rfl, Nat.le_refl _, by unfold maxLen; omega, (fun h => by cases h), fun _ => ⟨_, 0, rfl, fun i x hx => ?_⟩⟩
  rw [Nat.zero_add, cell_of_row _ _ i _ _ _ h]
  cases i with
  | zero => simp at hx; subst hx; rfl
  | succ i => simp at hx

theorem ba_litL {W : World} {L M : Nat} {fr : Nat × Nat} (h1 : W.heap[L]? = some (.cells #[.int .u8 97] 5 fr)) (h2 : W.heap[M]? = some (.cells #[.slice (some ⟨L, 0, none⟩) 1 1, .slice none 0 0] 62 (0, 0))) : BA W (.slice (some ⟨M, 0, none⟩) 1 1) [([97], [])] := by
  refine ⟨_, 1, rfl, Nat.le_refl _, by unfold maxLen; omega, fun _ => ⟨_, 0, rfl, fun k x hx => ?_⟩⟩
  cases k with
  | zero =>
    simp at hx
    subst hx
    exact ⟨_, _, _, _, by rw [cell_of_row _ _ _ _ _ _ h2]; rfl, by rw [cell_of_row _ _ _ _ _ _ h2]; rfl, hb_blkL h1, HB.nil _⟩
  | succ k => simp at hx

theorem chk_oneL : ChkIs 3 6 [([97], [])] 0 := by
  refine .inr (.inr (.inr (.inr ⟨by simp, by simp, ?_, ?_, rfl⟩)))
  · rintro ⟨x, hx, h⟩
    simp at hx
    subst hx
    simp at h
  · rintro ⟨i, j, x, y, hij, hj, _⟩
    simp at hj
    omega

theorem lep_small : epochsV 4 4 3 6 30 0 3 = 16 := by decide
theorem lent_len : (entL 5 [([97], [])]).length ≤ 40 ∧ 1 ≤ (entL 5 [([97], [])]).length ∧ ([69] ++ numL (clampN 5)).length ≤ 1048576 ∧ bulkB [([97], [])] ≤ 1048576 := by decide +kernel

set_option maxRecDepth 100000 in
set_option maxHeartbeats 4000000 in
theorem lgAwake_any (w : World) (hT : Tabs w) (hs : 3 ≤ w.heap.size) : Calls Tryz.prog 10 #[] w fun e w' => e = .returned (.bool true) ∧ Below w.heap.size w w' := by
  have kc := fun (w : World) (C : Array Value) (n c : Nat) => Lib.run_convert_bytes_const (P := Tryz.prog) w 27 5 C n c Tryz.underlying27 Tryz.underlying5
  have hN := new_any 60 w (by omega) (by omega)
  have hA := new_alive 60
  have hZ := new_zero 60
  generalize DevS.new 60 = S0 at *
  go_enter Tryz.func10, Tryz.ntmps10
  go_wp2_with fail
  refine hN.mono ?_
  rintro e w1 ⟨bd, bn, bm, rfl, hd1, hbd, hbn, hbm, hb1⟩
  have hSm := lgSmall_any w1
  clear hN
  go_wp2_with fail
  refine hSm.mono ?_
  rintro e w2 ⟨rfl, b2⟩
  have bw2 := hb1.trans (b2.mono hb1.size)
  have hO := lopen_new (B := w.heap.size) (hd1.later b2) hA hZ (hT.later bw2) hs ⟨hbd, hbn, hbm⟩ bw2.size
  clear hSm
  go_wp2_with fail
  refine hO.mono ?_
  rintro e w3 ⟨g, gl, l, rfl, H3, ⟨hl1, hl2⟩, b3⟩
  have bw3 := bw2.trans b3
  have bL := (Below.refl w3.heap.size w3).alloc (Nat.le_refl _) (.cells #[.int .u8 97] 5 (1, 2))
  have gL := heap_alloc_new w3 (.cells #[.int .u8 97] 5 (1, 2))
  have sL : (w3.alloc (.cells #[.int .u8 97] 5 (1, 2))).heap.size = w3.heap.size + 1 := by simp
  have bM := (Below.refl _ (w3.alloc (.cells #[.int .u8 97] 5 (1, 2)))).alloc (Nat.le_refl _) (.cells #[.slice (some ⟨w3.heap.size, 0, none⟩) 1 1, .slice none 0 0] 62)
  have gM := heap_alloc_new (w3.alloc (.cells #[.int .u8 97] 5 (1, 2))) (.cells #[.slice (some ⟨w3.heap.size, 0, none⟩) 1 1, .slice none 0 0] 62)
  rw [sL] at gM
  have gL2 := (bM.block _ (Array.getElem?_eq_some_iff.1 gL).1).trans gL
  have bLM := bL.trans (bM.mono bL.size)
  have bwM := bw3.trans (bLM.mono bw3.size)
  obtain ⟨e1, e2, e3, e4⟩ := lent_len
  have ht1 : tsec l.length ≤ 10 := by unfold tsec; omega
  have ht2 : tsec (entL 5 [([97], [])]).length ≤ 10 := by unfold tsec; omega
  have hP := lpub_ok (H3.later bLM) (hT.later bwM) hs bwM.size (ba_litL gL2 gM) (t := 5) (by omega) (by omega) chk_oneL (by omega) (by omega) (by omega) (by rw [lep_small]; omega) (by rw [lep_small]; omega) (by simp) (by omega) e4 (by simp) e3 e2 (by omega) (by omega) (by omega) (by simp) (by omega)
  generalize entL 5 [([97], [])] = EL at *
  clear hO gL gM gL2 bL bM sL
  go_wp2_with fail
  refine hP.mono ?_
  rintro e w4 ⟨rfl, ⟨kk, _, H4⟩, b4⟩
  have bw4 := bwM.trans b4
  have hE := lents_any H4 (by simp) (by simp) (fun x hx => by
    simp at hx
    rcases hx with rfl | rfl <;> omega)
  clear hP kc
  go_wp2_with fail
  refine hE.mono ?_
  rintro e w5 ⟨p5, m5, c5, rfl, rfl, b5⟩
  go_wp2
  go_ret
  exact ⟨by simp, bw4.trans (b5.mono bw4.size)⟩

end Go.Proofs.YtcdikkgkjjopmaaGreatDoor
