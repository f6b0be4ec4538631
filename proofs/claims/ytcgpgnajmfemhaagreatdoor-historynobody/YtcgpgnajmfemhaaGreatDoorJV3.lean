/- What this text proves: the walk of skip.Links over this program: the links of any epoch, in new memory. What this text proves: the walk of the document's Text (annalsref02) over this program: the text of a tag and parts in new memory, or the error. What this text proves: the walk of the document's Hash over this program. What this text proves: the walks of record.Hash and of the document's Hash (annalsref13) over this program. What this text proves: the walk of history.links of epoch 1 over this program. (By program: mkhylinks.py.) -/
import Derived.Test.YtcgpgnajmfemhaaGreatDoorJOp
import Derived.Test.YtcgpgnajmfemhaaGreatDoorJQ4
import Derived.Test.YtcgpgnajmfemhaaGreatDoorJQ9
import Derived.Test.YtcgpgnajmfemhaaGreatDoorJQ6
import Derived.Test.YtcgpgnajmfemhaaGreatDoorJV2
import Derived.Test.YtcgpgnajmfemhaaGreatDoorJV1
import Derived.Test.YtcgpgnajmfemhaaGreatDoorJH1
namespace Go.Proofs.YtcgpgnajmfemhaaGreatDoor
open Go.RowKit

theorem i_intS : (Tryz.prog.info? 3).map (fun i => (i.zero, i.size, i.bytes)) = some (some (.int .i64 0), 1, 8) := by kernel_rfl

theorem shl_one (k : Nat) (h : k < 63) : wrap64 (2 ^ k) = ((2 ^ k : Nat) : Int) := by
  have h1 : 2 ^ k ≤ 2 ^ 62 := Nat.pow_le_pow_right (by decide) (by omega)
  have h2 : (2 : Nat) ^ 62 = 4611686018427387904 := by decide
  have e : ((2 : Int) ^ k) = ((2 ^ k : Nat) : Int) := by simp
  rw [e]
  generalize 2 ^ k = q at *
  unfold wrap64
  omega

theorem links_none (e : Int) (w : World) (h : e < 1) :
    Calls Tryz.prog 92 #[.int .i64 e] w fun x w' => x = .returned (.slice none 0 0) ∧ w' = w := by
  go_enter Tryz.func92, Tryz.ntmps92
  go_wp2
  go_ret
  exact ⟨rfl, rfl⟩

set_option maxRecDepth 100000 in
set_option maxHeartbeats 2000000 in
theorem links_pos (e : Nat) (w : World) (h0 : 0 < e) (he : e < 9223372036854775808) (hT : TD w) :
    Calls Tryz.prog 92 #[.int .i64 (e : Int)] w fun x w' => ∃ v', x = .returned v' ∧ w'.ownsRow w.heap.size 3 1 v' (tz e + 1) (ics (lk e (tz e + 1))) ∧ Below w.heap.size w w' := by
  have hC := tz_any e (by omega) (by omega) w hT
  have ht := (tz_spec e h0 he).choose_spec.2
  have HP : Hid (∀ k, k ≤ tz e → 2 ^ k ≤ e) := fun k hk => tz_pow_le e k h0 he hk
  generalize tz e = T at *
  obtain ⟨i0, hi, hz0, hz1, hz2⟩ := info_parts i_intS
  have hu : IntKind.u64.wrap (e : Int) = (e : Int) := by rw [IntKind.wrap_u64]; omega
  go_enter Tryz.func92, Tryz.ntmps92
  go_wp2_with fail
  refine hC.mono ?_
  rintro x w1 ⟨rfl, hw1⟩
  subst hw1
  clear hC hT hu
  go_wp2_with fail
  go_loopw [3, 11] (fun v i wr => ∃ k : Nat, k ≤ T + 1 ∧ i = .int .i64 (k : Int) ∧ wr.ownsRow w1.heap.size 3 1 v k (ics (lk e k)) ∧ Below w1.heap.size w1 wr) (fun _ i _ => T + 1 - (Go.RowKit.intOf i).toNat)
  case atStart => exact ⟨0, Nat.zero_le _, rfl, World.ownsRow_nil _ _ _ _, Below.refl _ _⟩
  case round =>
    obtain ⟨k, hk, rfl, hown, hbe⟩ := hrel
    have hsz := hbe.size
    by_cases hlt : k < T + 1
    · have hs1 := shl_one k (by omega)
      have hpe := HP.out k (by omega)
      obtain ⟨q, hq⟩ : ∃ q, q = 2 ^ k := ⟨_, rfl⟩
      have HQ : Hid (lk e (k + 1) = lk e k ++ [e - q]) := by rw [hq]; exact lk_succ e k
      rw [← hq] at hs1 hpe
      have hlt2 : (k : Int) < (T : Int) + 1 := by omega
      have hse : (e : Int) - (q : Int) = ((e - q : Nat) : Int) := by omega
      clear hq HP
      go_wp2_with (first | (at_builtin; refine wpList_append_own _ rfl (.tmp 14) (.tmp 19) 50 rfl w1.heap.size 3 i0 (.int .i64 0) 1 8 Tryz.underlying50 hi hz0 hz1 hz2 rfl (by decide) _ _ _ rfl (hown.alloc _) ⟨wr.heap.size, 0, none⟩ 1 1 [.int .i64 ((e - q : Nat) : Int)] rfl rfl ?ra ?rb ?rc ?rd ?re ?_))
      case ra => first | exact cell_one_new _ _ _ | (rw [← hse]; exact cell_one_new _ _ _)
      case rb => intro u hu; simp at hu; subst hu; rfl
      case rc => unfold maxLen; omega
      case rd => omega
      case re => simp; omega
      intro v3 w3 hown3 hgrow3 _
      have hb3 : Below w1.heap.size w1 w3 := (hbe.alloc hsz _).grown hgrow3 (by simp; omega) (fun k hk => (hown.lt k hk).1)
      have hown4 : w3.ownsRow w1.heap.size 3 1 v3 (k + 1) (ics (lk e (k + 1))) := by
        rw [HQ.out]
        have := hown3
        simp only [ics, List.map_append, List.map_cons, List.map_nil, ic] at this ⊢
        exact this
      clear hown hown3 hgrow3 hbe
      go_wp2
      go_roundw
      case rel => first | exact ⟨k + 1, by omega, by go_num, hown4, hb3⟩ | ((repeat apply Exists.intro); exact ⟨⟨k + 1, by omega, by go_num, hown4, hb3⟩, rfl⟩)
      case measure => simp [Go.RowKit.intOf]; omega
    · obtain rfl : k = T + 1 := by omega
      go_wp2
      go_ret
      exact ⟨_, rfl, hown, hbe⟩

theorem links_any (e : Int) (w : World) (he : e < 9223372036854775808) (hT : TD w) :
    Calls Tryz.prog 92 #[.int .i64 e] w fun x w' => ∃ v', x = .returned v' ∧ w'.ownsRow w.heap.size 3 1 v' (linksL e.toNat).length (ics (linksL e.toNat)) ∧ Below w.heap.size w w' := by
  by_cases h : e < 1
  · refine (links_none e w h).mono ?_
    rintro x w' ⟨rfl, rfl⟩
    rw [show e.toNat = 0 by omega]
    exact ⟨_, rfl, World.ownsRow_nil _ _ _ _, Below.refl _ _⟩
  · obtain ⟨n, rfl⟩ : ∃ n : Nat, e = (n : Int) := ⟨e.toNat, by omega⟩
    rw [Int.toNat_natCast, linksL_pos n (by omega), lk_length]
    exact links_pos n w (by omega) (by omega) hT

end Go.Proofs.YtcgpgnajmfemhaaGreatDoor

namespace Go.Proofs.YtcgpgnajmfemhaaGreatDoor
open Go.RowKit

end Go.Proofs.YtcgpgnajmfemhaaGreatDoor

namespace Go.Proofs.YtcgpgnajmfemhaaGreatDoor
open Go.RowKit

end Go.Proofs.YtcgpgnajmfemhaaGreatDoor

namespace Go.Proofs.YtcgpgnajmfemhaaGreatDoor
open Go.RowKit

/-- A record's hash. -/
def hshF (size : Int) (r : Rc) : List UInt8 := if canB size r = true then hashF size 5 [encL r] else []

set_option maxRecDepth 100000 in
set_option maxHeartbeats 4000000 in
theorem hash13_any (size e t c : Int) (tv lv kv : Value) (tr li : List UInt8) (lk : List (List UInt8)) (w : World) (h1 : HB w tv tr) (h2 : HB w lv li) (h3 : PA w kv lk) (hTD : TD w) (hT : Tabs w) :
    Calls Tryz.prog 29 #[.int .i64 size, .agg #[.int .i64 e, .int .i64 t, tv, .int .i64 c, lv, kv]] w fun x w' => ∃ v, x = .returned v ∧ HB w' v (hshF size ⟨e, t, c, tr, li, lk⟩) ∧ Below w.heap.size w w' := by
  have bA := (Below.refl w.heap.size w).alloc (Nat.le_refl _) (.cells #[.int .i64 e, .int .i64 t, tv, .int .i64 c, lv, kv] 40)
  have k1 := h1.later bA
  have k2 := h2.later bA
  have k3 := h3.later bA
  have tA := hTD.later bA
  have sA := hT.later bA
  unfold hshF
  by_cases hcan : canB size ⟨e, t, c, tr, li, lk⟩ = true
  · rw [if_pos hcan]
    have hE := encode_yes size e t c _ _ _ tr li lk _ k1 k2 k3 tA hcan
    obtain ⟨tp, tc, rfl⟩ := h1.shape
    obtain ⟨lp, lc, rfl⟩ := h2.shape
    obtain ⟨kp, kc, rfl⟩ := h3.shape
    have HH : Hid (∀ v w, PA w v [encL ⟨e, t, c, tr, li, lk⟩] → Tabs w → Calls Tryz.prog 59 #[.int .i64 size, .int .i64 5, v] w fun x w' => ∃ v', x = .returned v' ∧ HB w' v' (hashF size 5 [encL ⟨e, t, c, tr, li, lk⟩]) ∧ Below w.heap.size w w') := fun v w h ht => (hash_to size 5 v _ w (by simp) (by omega) h ht).mono fun x w' ⟨p, c, h1, h2, h3⟩ => ⟨_, h1, h2, h3⟩
    generalize hashF size 5 [encL ⟨e, t, c, tr, li, lk⟩] = D at *
    generalize encL ⟨e, t, c, tr, li, lk⟩ = EN at *
    clear k1 k2 k3 tA hcan h1 h2 h3 hTD hT
    go_enter Tryz.func29, Tryz.ntmps29
    go_wp2_with fail
    refine hE.mono ?_
    rintro x w1 ⟨v1, rfl, hh1, hb1⟩
    obtain ⟨p1, c1, rfl⟩ := hh1.shape
    have bB := bA.trans (hb1.mono bA.size)
    have sB := sA.later hb1
    have bC := (Below.refl w1.heap.size w1).alloc (Nat.le_refl _) (.cells #[.slice p1 EN.length c1] 37)
    have hH := HH.out _ _ (PA.one' w1 _ EN hh1) (sB.later bC)
    have bD := bB.trans (bC.mono bB.size)
    clear hE hb1 bA sA hh1 HH bC bB sB
    go_wp2_with fail
    refine hH.mono ?_
    rintro x w2 ⟨v2, rfl, hh2, hb2⟩
    have bE := bD.trans (hb2.mono bD.size)
    clear hH
    go_wp2
    go_ret
    exact ⟨_, rfl, hh2, bE⟩
  · rw [if_neg hcan]
    have hcan' : canB size ⟨e, t, c, tr, li, lk⟩ = false := by simpa using hcan
    have hE := encode_no size e t c _ _ _ tr li lk _ k1 k2 k3 tA hcan'
    obtain ⟨tp, tc, rfl⟩ := h1.shape
    obtain ⟨lp, lc, rfl⟩ := h2.shape
    obtain ⟨kp, kc, rfl⟩ := h3.shape
    clear k1 k2 k3 tA hcan h1 h2 h3 hTD hT sA hcan'
    go_enter Tryz.func29, Tryz.ntmps29
    go_wp2_with fail
    refine hE.mono ?_
    rintro x w1 ⟨rfl, hb1⟩
    have bB := bA.trans (hb1.mono bA.size)
    clear hE
    go_wp2
    go_ret
    exact ⟨_, rfl, HB.nil _, bB⟩

end Go.Proofs.YtcgpgnajmfemhaaGreatDoor

namespace Go.Proofs.YtcgpgnajmfemhaaGreatDoor.Vf
open Go.RowKit

theorem i_bytesH : (Tryz.prog.info? 37).map (fun i => (i.zero, i.size, i.bytes)) = some (some (.slice none 0 0), 1, 24) := by kernel_rfl
theorem links_of_1 : (linksL (1 : Int).toNat).length = 1 ∧ ics (linksL (1 : Int).toNat) = [.int .i64 0] := by
  have h : linksL (1 : Int).toNat = [0] := by decide +kernel
  rw [h]
  exact ⟨rfl, rfl⟩

/-- The record of epoch 0 lies in block br. -/
def R0 (w : World) (br : Nat) (tv lv : Value) : Prop := w.heap[br]? = some (.cells #[.int .i64 0, .int .i64 0, tv, .int .i64 0, lv, .slice none 0 0] 40 (0, 0))
theorem R0.cells {w : World} {br : Nat} {tv lv : Value} (h : R0 w br tv lv) : w.cell? ⟨br, 0, none⟩ = some (.int .i64 0) ∧ w.cell? ⟨br, 1, none⟩ = some (.int .i64 0) ∧ w.cell? ⟨br, 2, none⟩ = some tv ∧ w.cell? ⟨br, 3, none⟩ = some (.int .i64 0) ∧ w.cell? ⟨br, 4, none⟩ = some lv ∧ w.cell? ⟨br, 5, none⟩ = some (.slice none 0 0) := by
  refine ⟨?_, ?_, ?_, ?_, ?_, ?_⟩ <;> rw [cell_of_row _ _ _ _ _ _ h] <;> rfl
theorem R0.lt {w : World} {br : Nat} {tv lv : Value} (h : R0 w br tv lv) : br < w.heap.size := (Array.getElem?_eq_some_iff.1 h).1
theorem R0.later {w w' : World} {br : Nat} {tv lv : Value} (h : R0 w br tv lv) (hb : Below w.heap.size w w') : R0 w' br tv lv := (hb.block _ h.lt).trans h
theorem R0.sty {w w' : World} {br : Nat} {tv lv : Value} (h : R0 w br tv lv) (s : Sty 40 w w') : R0 w' br tv lv := s _ _ _ h

set_option maxRecDepth 100000 in
set_option maxHeartbeats 4000000 in
theorem hlinks_one {w : World} {g gl gk gt br : Nat} {vb tv lv : Value} {t : Int} {tr li : List UInt8} (H : HY w g gl gk gt vb (.slice (some ⟨br, 0, none⟩) 1 1) t) (hR : R0 w br tv lv) (ht : HB w tv tr) (hl : HB w lv li) (hT : Tabs w) (hTD : TD w) :
    Calls Tryz.prog 52 #[.pointer (some ⟨g, 0, none⟩), .int .i64 1] w fun x w' => ∃ p c v, x = .returned (.slice p 1 c) ∧ w'.ownsRow w.heap.size 37 1 (.slice p 1 c) 1 [v] ∧ HB w' v (hshF 3 ⟨0, 0, 0, tr, li, []⟩) ∧ Below w.heap.size w w' := by
  obtain ⟨tp, tc, rfl⟩ := ht.shape
  obtain ⟨lp, lc, rfl⟩ := hl.shape
  have hL := links_any 1 w (by decide) hTD
  rw [links_of_1.1, links_of_1.2] at hL
  have HC : Hid (∀ W, Below w.heap.size w W → W.cell? ⟨g, 0, none⟩ = some (.int .i64 3) ∧ W.cell? ⟨g, 12, none⟩ = some (.slice (some ⟨br, 0, none⟩) 1 1) ∧ W.cell? ⟨br, 0, none⟩ = some (.int .i64 0) ∧ W.cell? ⟨br, 1, none⟩ = some (.int .i64 0) ∧ W.cell? ⟨br, 2, none⟩ = some (.slice tp tr.length tc) ∧ W.cell? ⟨br, 3, none⟩ = some (.int .i64 0) ∧ W.cell? ⟨br, 4, none⟩ = some (.slice lp li.length lc) ∧ W.cell? ⟨br, 5, none⟩ = some (.slice none 0 0)) := by
    intro W hb
    have h1 := H.later hb
    have h2 := (hR.later hb).cells
    exact ⟨h1.par 0 (by decide), h1.cells.2.2.2.2.1, h2.1, h2.2.1, h2.2.2.1, h2.2.2.2.1, h2.2.2.2.2.1, h2.2.2.2.2.2⟩
  obtain ⟨j0, hj, jz0, jz1, jz2⟩ := info_parts i_bytesH
  have hHs := fun W (hb : Below w.heap.size w W) => hash13_any 3 0 0 0 (.slice tp tr.length tc) (.slice lp li.length lc) (.slice none 0 0) tr li [] W (ht.later hb) (hl.later hb) (PA.nil _) (hTD.later hb) (hT.later hb)
  generalize hshF 3 ⟨0, 0, 0, tr, li, []⟩ = HF at *
  have HHs : Hid _ := hHs
  clear hHs ht hl hR H hT hTD
  go_enter Tryz.func52, Tryz.ntmps52
  go_wp2_with fail
  refine hL.mono ?_
  rintro x w1 ⟨v1, rfl, o1, b1⟩
  obtain ⟨p1, c1, rfl⟩ := owns_shape o1
  obtain ⟨q1, hq1, hz1⟩ : ∃ q, p1 = some ⟨q, 0, none⟩ ∧ w1.cell? ⟨q, 0, none⟩ = some (.int .i64 0) := by
    rcases o1.2 with ⟨e, _⟩ | ⟨g', cap, cur, e, _⟩
    · cases e
    · simp only [Value.slice.injEq] at e
      obtain ⟨rfl, _, rfl⟩ := e
      exact ⟨g', rfl, by rw [o1.cellAt 0 (by decide)]; rfl⟩
  subst hq1
  clear hL o1
  go_wp2_with fail
  go_loopw [5, 11] (fun v i wr => ∃ k : Nat, k ≤ 1 ∧ i = .int .i64 (k : Int) ∧ (k = 0 → v = .slice none 0 0 ∧ wr = w1) ∧ (k = 1 → ∃ p c u, v = .slice p 1 c ∧ wr.ownsRow w.heap.size 37 1 (.slice p 1 c) 1 [u] ∧ HB wr u HF ∧ Below w.heap.size w wr)) (fun _ i _ => 1 - (Go.RowKit.intOf i).toNat)
  case atStart => exact ⟨0, by omega, rfl, fun _ => ⟨rfl, rfl⟩, fun h => absurd h (by decide)⟩
  case round =>
    obtain ⟨k, hk, rfl, q0, q1'⟩ := hrel
    rcases (by omega : k = 0 ∨ k = 1) with rfl | rfl
    · obtain ⟨rfl, hw⟩ := q0 rfl
      subst hw
      clear q0 q1'
      go_wp2_with fail
      obtain ⟨X, hX⟩ : ∃ X, X = wr.drew := ⟨_, rfl⟩
      have bwX : Below w.heap.size w X := by rw [hX]; exact b1.drew
      have hH := HHs.out X bwX
      have hHeld := HC.out X bwX
      clear hz1 b1
      refine wp_region_heldN (by kernel_rfl) (fun W => W.cell? ⟨g, 0, none⟩ = some (.int .i64 3) ∧ W.cell? ⟨g, 12, none⟩ = some (.slice (some ⟨br, 0, none⟩) 1 1) ∧ W.cell? ⟨br, 0, none⟩ = some (.int .i64 0) ∧ W.cell? ⟨br, 1, none⟩ = some (.int .i64 0) ∧ W.cell? ⟨br, 2, none⟩ = some (.slice tp tr.length tc) ∧ W.cell? ⟨br, 3, none⟩ = some (.int .i64 0) ∧ W.cell? ⟨br, 4, none⟩ = some (.slice lp li.length lc) ∧ W.cell? ⟨br, 5, none⟩ = some (.slice none 0 0)) 17 rfl ?_
      rw [← hX]
      clear hX
      refine tkY 0 ⟨some 15, .move (.tmp 5), 38, "history.go:89", #[], none⟩ ?v0z1 hHeld ?y0z1 ?r0z1
      case y0z1 => (intro w hSw; (try dsimp only at hSw); go_simp) <;> with_reducible rfl
      try simp only [Act.put, List.setIfInBounds_toArray, List.set_cons_zero, List.set_cons_succ]
      refine tkY 1 ⟨some 16, .move (.tmp 0), 23, "history.go:89", #[], none⟩ ?v1z2 hHeld ?y1z2 ?r1z2
      case y1z2 => (intro w hSw; (try dsimp only at hSw); go_simp) <;> with_reducible rfl
      try simp only [Act.put, List.setIfInBounds_toArray, List.set_cons_zero, List.set_cons_succ]
      refine tkY 2 ⟨some 17, .nilCheck (.tmp 16), 0, "history.go:89", #[⟨1, .data⟩], none⟩ ?v2z3 hHeld ?y2z3 ?r2z3
      case y2z3 => (intro w hSw; (try dsimp only at hSw); go_simp) <;> with_reducible rfl
      try simp only [Act.put, List.setIfInBounds_toArray, List.set_cons_zero, List.set_cons_succ]
      refine tkY 3 ⟨some 18, .fieldAddr 32 (.tmp 17) 0, 0, "history.go:89", #[⟨2, .data⟩], none⟩ ?v3z4 hHeld ?y3z4 ?r3z4
      case y3z4 => (intro w hSw; (try dsimp only at hSw); go_simp) <;> with_reducible rfl
      try simp only [Act.put, List.setIfInBounds_toArray, List.set_cons_zero, List.set_cons_succ]
      refine tkY 4 ⟨some 19, .fieldAddr 25 (.tmp 18) 0, 0, "history.go:89", #[⟨3, .data⟩], none⟩ ?v4z5 hHeld ?y4z5 ?r4z5
      case y4z5 => (intro w hSw; (try dsimp only at hSw); go_simp) <;> with_reducible rfl
      try simp only [Act.put, List.setIfInBounds_toArray, List.set_cons_zero, List.set_cons_succ]
      refine tkY 5 ⟨some 20, .load 3 (.tmp 19), 3, "history.go:89", #[⟨4, .data⟩], none⟩ ?v5z6 hHeld ?y5z6 ?r5z6
      case y5z6 => (intro w hSw; (try dsimp only at hSw); go_simp) <;> with_reducible rfl
      try simp only [Act.put, List.setIfInBounds_toArray, List.set_cons_zero, List.set_cons_succ]
      refine tkY 6 ⟨some 21, .move (.tmp 0), 23, "history.go:89", #[], none⟩ ?v6z7 hHeld ?y6z7 ?r6z7
      case y6z7 => (intro w hSw; (try dsimp only at hSw); go_simp) <;> with_reducible rfl
      try simp only [Act.put, List.setIfInBounds_toArray, List.set_cons_zero, List.set_cons_succ]
      refine tkY 7 ⟨some 22, .nilCheck (.tmp 21), 0, "history.go:89", #[⟨6, .data⟩], none⟩ ?v7z8 hHeld ?y7z8 ?r7z8
      case y7z8 => (intro w hSw; (try dsimp only at hSw); go_simp) <;> with_reducible rfl
      try simp only [Act.put, List.setIfInBounds_toArray, List.set_cons_zero, List.set_cons_succ]
      refine tkY 8 ⟨some 23, .fieldAddr 32 (.tmp 22) 5, 0, "history.go:89", #[⟨7, .data⟩], none⟩ ?v8z9 hHeld ?y8z9 ?r8z9
      case y8z9 => (intro w hSw; (try dsimp only at hSw); go_simp) <;> with_reducible rfl
      try simp only [Act.put, List.setIfInBounds_toArray, List.set_cons_zero, List.set_cons_succ]
      refine tkY 9 ⟨some 24, .load 30 (.tmp 23), 30, "history.go:89", #[⟨8, .data⟩], none⟩ ?v9z10 hHeld ?y9z10 ?r9z10
      case y9z10 => (intro w hSw; (try dsimp only at hSw); go_simp) <;> with_reducible rfl
      try simp only [Act.put, List.setIfInBounds_toArray, List.set_cons_zero, List.set_cons_succ]
      refine tkY 10 ⟨some 25, .move (.tmp 7), 3, "history.go:89", #[], none⟩ ?v10z11 hHeld ?y10z11 ?r10z11
      case y10z11 => (intro w hSw; (try dsimp only at hSw); go_simp) <;> with_reducible rfl
      try simp only [Act.put, List.setIfInBounds_toArray, List.set_cons_zero, List.set_cons_succ]
      refine tkY 11 ⟨some 26, .indexAddr 30 (.tmp 24) (.tmp 25), 0, "history.go:89", #[⟨9, .data⟩, ⟨10, .data⟩], none⟩ ?v11z12 hHeld ?y11z12 ?r11z12
      case y11z12 => (intro w hSw; (try dsimp only at hSw); go_simp) <;> with_reducible rfl
      try simp only [Act.put, List.setIfInBounds_toArray, List.set_cons_zero, List.set_cons_succ]
      refine tkY 12 ⟨some 27, .load 40 (.tmp 26), 40, "history.go:89", #[⟨11, .data⟩], none⟩ ?v12z13 hHeld ?y12z13 ?r12z13
      case y12z13 => (intro w hSw; (try dsimp only at hSw); go_simp) <;> with_reducible rfl
      try simp only [Act.put, List.setIfInBounds_toArray, List.set_cons_zero, List.set_cons_succ]
      refine wpAnyH_ready (rs := [13]) (by kernel_rfl) (by simp) ?_
      refine AllReadyH.cons (o := ⟨some 28, .call { callee := .value (.func 29), args := #[.tmp 20, .tmp 27], argTypes := #[3, 40] }, 37, "history.go:89", #[⟨5, .data⟩, ⟨12, .data⟩], none⟩) rfl (fun K hK => ?_) AllReadyH.nil
      go_simp
      refine hH.mono ?_
      rintro e1 w3 ⟨v3, rfl, h3, b3⟩
      obtain ⟨p3, c3, rfl⟩ := h3.shape
      have bw3 := bwX.trans (b3.mono bwX.size)
      replace hHeld := HC.out w3 bw3
      refine hK.out _ _ ?_ (fun _ => ?_)
      · exact hHeld
      clear hK K
      try simp only [Act.put, List.setIfInBounds_toArray, List.set_cons_zero, List.set_cons_succ]
      refine wpAnyH_ready (rs := [14]) (by kernel_rfl) (by simp) ?_
      refine AllReadyH.cons (o := ⟨some 29, .buildSlice 38 1 #[(0, .tmp 28)], 38, "history.go:89", #[⟨13, .data⟩], none⟩) rfl (fun K hK => ?_) AllReadyH.nil
      go_simp
      have k4 := (Below.refl w3.heap.size w3).alloc (Nat.le_refl _) (.cells #[.slice p3 HF.length c3] 37)
      have g4 := heap_alloc_new w3 (.cells #[.slice p3 HF.length c3] 37)
      have bw4 := bw3.trans (k4.mono bw3.size)
      replace hHeld := HC.out _ bw4
      refine hK.out _ _ ?_ (fun _ => ?_)
      · exact hHeld
      clear hK K
      try simp only [Act.put, List.setIfInBounds_toArray, List.set_cons_zero, List.set_cons_succ]
      refine wpAnyH_ready (rs := [15]) (by kernel_rfl) (by simp) ?_
      refine AllReadyH.cons (o := ⟨some 30, .call { callee := .builtin .append, args := #[.tmp 15, .tmp 29], argTypes := #[38, 38] }, 38, "history.go:89", #[⟨0, .data⟩, ⟨14, .data⟩, ⟨13, .chain⟩], none⟩) rfl (fun K hK => ?_) AllReadyH.nil
      refine step_append_lies _ (by rfl) _ _ _ (by rfl) w.heap.size 37 j0 _ 1 24 Tryz.underlying38 hj jz0 jz1 jz2 rfl (by decide) _ 0 [] (by rfl) (World.ownsRow_nil _ _ _ _) ⟨w3.heap.size, 0, none⟩ 1 1 [.slice p3 HF.length c3] (by rfl) (by rfl) (World.news_of_block (cs := #[.slice p3 HF.length c3]) (t := 37) (fr := (0, 0)) g4) (by simp [Value.oneCell']) (by omega) (by unfold maxLen; omega) (by omega) (by have := bw4.size; omega) _ rfl ?_
      intro g5 cap5 w5 ow5 gr5 hat5 hlt5
      have bw5 : Below w.heap.size w w5 := bw4.grown gr5 bw4.size (fun k hk => by simp [Value.ownBlock] at hk)
      have k5 : Below w3.heap.size w3 w5 := k4.grown gr5 k4.size (fun k hk => by simp [Value.ownBlock] at hk)
      have h5 := h3.later k5
      replace hHeld := HC.out _ bw5
      refine hK.out _ _ ?_ (fun _ => ?_)
      · exact hHeld
      clear hK K
      try simp only [Act.put, List.setIfInBounds_toArray, List.set_cons_zero, List.set_cons_succ]
      refine tkY 16 ⟨some 5, .assign (.tmp 30), 38, "history.go:89", #[⟨15, .data⟩, ⟨15, .chain⟩, ⟨0, .phase⟩, ⟨1, .phase⟩, ⟨2, .phase⟩, ⟨3, .phase⟩, ⟨4, .phase⟩, ⟨5, .phase⟩, ⟨6, .phase⟩, ⟨7, .phase⟩, ⟨8, .phase⟩, ⟨9, .phase⟩, ⟨10, .phase⟩, ⟨11, .phase⟩, ⟨12, .phase⟩, ⟨13, .phase⟩, ⟨14, .phase⟩, ⟨15, .phase⟩], none⟩ ?v16z14 hHeld ?y16z14 ?r16z14
      case y16z14 => (intro w hSw; (try dsimp only at hSw); go_simp) <;> with_reducible rfl
      try simp only [Act.put, List.setIfInBounds_toArray, List.set_cons_zero, List.set_cons_succ]
      refine wpAnyH_done (by kernel_rfl) ?_ _
      clear hHeld hat5 hlt5 gr5
      go_wp2
      go_roundw
      case rel => first | exact ⟨1, by omega, by go_num, fun h => absurd h (by decide), fun _ => ⟨_, _, _, rfl, ow5, h5, bw5⟩⟩ | ((repeat apply Exists.intro); exact ⟨⟨1, by omega, by go_num, fun h => absurd h (by decide), fun _ => ⟨_, _, _, rfl, ow5, h5, bw5⟩⟩, rfl⟩)
      case measure => simp [Go.RowKit.intOf]
    · obtain ⟨p, c, u, rfl, a1, a2, a3⟩ := q1' rfl
      clear q0 q1'
      go_wp2
      go_ret
      exact ⟨p, c, u, rfl, a1, a2, a3⟩

end Go.Proofs.YtcgpgnajmfemhaaGreatDoor.Vf
