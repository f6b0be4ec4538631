/- What this text proves: the walks of the document's Can, Secret, Chain and key (annalsref05) over this program. What this text proves: the walk of the document's Digits (annalsref05) over this program, of 32 bytes at most. -/
import Derived.Test.YtdjaemobfbbkoaaDoorJRHash
import Derived.Test.YtdjaemobfbbkoaaDoorJWKey
import Derived.Test.YtdjaemobfbbkoaaDoorJDig
namespace Go.Proofs.YtdjaemobfbbkoaaDoor
open Go.RowKit

theorem rnumber_to (n : Int) (w : World) :
    Calls Tryd.prog 68 #[.int .i64 n] w fun e w' => ∃ p c, e = .returned (.slice p 8 c) ∧ HB w' (.slice p 8 c) (numB n) ∧ Below w.heap.size w w' := by
  obtain ⟨U, hU, _⟩ := u64_nat n
  have e : numB n = be64 U := by unfold numB; rw [hU]; simp
  rw [e]
  exact rnumber_any n U hU w

def rcanB (size index : Int) (m : Nat) : Bool := canB size index && decide (m ≤ 64)

set_option maxRecDepth 100000 in
set_option maxHeartbeats 400000 in
theorem rcan_any (size index : Int) (p : Option Addr) (m c : Nat) (w : World) (hm : m ≤ 9223372036854775807) :
    Calls Tryd.prog 41 #[.int .i64 size, .slice p m c, .int .i64 index] w fun e w' => e = .returned (.bool (rcanB size index m)) ∧ w' = w := by
  obtain ⟨B, hB⟩ : ∃ B, B = rcanB size index m := ⟨_, rfl⟩
  rw [← hB]
  have h1 : (1 ≤ size ∨ size < 1) := by omega
  have h2 : (size ≤ 32 ∨ 32 < size) := by omega
  have h3 : ((m : Int) ≤ 64 ∨ 64 < (m : Int)) := by omega
  have h4 : (0 ≤ index ∨ index < 0) := by omega
  have h5 : (index < 256 ∨ ¬ index < 256) := by omega
  have hBt : 1 ≤ size → size ≤ 32 → (m : Int) ≤ 64 → 0 ≤ index → index < 256 → B = true := by
    intros; rw [hB]; simp [rcanB, canB]; omega
  have hBf : ¬ (1 ≤ size ∧ size ≤ 32 ∧ (m : Int) ≤ 64 ∧ 0 ≤ index ∧ index < 256) → B = false := by
    intro h; rw [hB]; simp only [rcanB, canB, Bool.and_eq_false_iff, decide_eq_false_iff_not]; omega
  clear hB
  go_enter Tryd.func41, Tryd.ntmps41
  rcases h1 with h1 | h1
  · rcases h2 with h2 | h2
    · rcases h3 with h3 | h3
      · rcases h4 with h4 | h4
        · rcases h5 with h5 | h5
          · obtain rfl := hBt h1 h2 h3 h4 h5
            clear hBt hBf
            go_wp2
            go_ret
            exact ⟨rfl, rfl⟩
          · obtain rfl := hBf (by omega)
            clear hBt hBf
            go_wp2
            go_ret
            exact ⟨rfl, rfl⟩
        · obtain rfl := hBf (by omega)
          clear hBt hBf
          go_wp2
          go_ret
          exact ⟨rfl, rfl⟩
      · obtain rfl := hBf (by omega)
        clear hBt hBf
        go_wp2
        go_ret
        exact ⟨rfl, rfl⟩
    · obtain rfl := hBf (by omega)
      clear hBt hBf
      go_wp2
      go_ret
      exact ⟨rfl, rfl⟩
  · obtain rfl := hBf (by omega)
    clear hBt hBf
    go_wp2
    go_ret
    exact ⟨rfl, rfl⟩

set_option maxRecDepth 100000 in
set_option maxHeartbeats 1000000 in
theorem rsecret_ok (size index i : Int) (v : Value) (seed : List UInt8) (w : World) (h : HB w v seed) (hc : rcanB size index seed.length = true) :
    Calls Tryd.prog 55 #[.int .i64 size, v, .int .i64 index, .int .i64 i] w fun e w' => ∃ p c, e = .returned (.slice p (secretF size seed index i).length c) ∧ HB w' (.slice p (secretF size seed index i).length c) (secretF size seed index i) ∧ Below w.heap.size w w' := by
  have hm := h.len_le
  unfold maxLen at hm
  obtain ⟨p, c, rfl⟩ := h.shape
  have HF : Hid (secretF size seed index i = hashF size 6 [seed, numB index, numB i]) := rfl
  generalize secretF size seed index i = F at *
  have hA := fun w' => rnumber_to index w'
  have hB := fun w' => rnumber_to i w'
  have hC := fun w' => rcan_any size index p seed.length c w' (by omega)
  rw [hc] at hC
  generalize numB index = A at *
  generalize numB i = B at *
  go_enter Tryd.func55, Tryd.ntmps55
  go_wp2_with fail
  refine (hC _).mono ?_
  rintro e w0 ⟨rfl, hw0⟩
  have hw2 := hw0.symm
  clear hw0
  subst hw2
  go_wp2_with fail
  refine (hA _).mono ?_
  rintro e w1 ⟨p1, c1, rfl, h1, hb1⟩
  go_wp2_with fail
  refine (hB _).mono ?_
  rintro e w2 ⟨p2, c2, rfl, h2, hb2⟩
  have hb02 := hb1.trans (hb2.mono hb1.size)
  have h02 := h.later hb02
  have h12 := h1.later hb2
  clear h h1 hb1 hb2 hA hB hC
  go_wp2_with fail
  have hbA : Below w.heap.size w (w2.alloc (.cells #[.slice p seed.length c, .slice p1 8 c1, .slice p2 8 c2] 22)) := hb02.alloc hb02.size _
  refine (rhash_to size 6 _ [seed, A, B] _ (by simp) (by decide) (PA.lit w2 22 [_, _, _] _ 3 rfl rfl (by decide) (three_hb h02 h12 h2))).mono ?_
  rintro e w3 ⟨p3, c3, rfl, h3, hb3⟩
  rw [← HF.out] at h3 ⊢
  have hb03 : Below w.heap.size w w3 := hbA.trans (hb3.mono hbA.size)
  go_wp2
  go_ret
  exact ⟨_, _, rfl, h3, hb03⟩

set_option maxRecDepth 100000 in
set_option maxHeartbeats 1000000 in
theorem rkeyh_any (size index : Int) (v : Value) (x : List UInt8) (w : World) (h : HB w v x) :
    Calls Tryd.prog 66 #[.int .i64 size, .int .i64 index, v] w fun e w' => ∃ p c, e = .returned (.slice p (hashF size 8 [numB index, x]).length c) ∧ HB w' (.slice p (hashF size 8 [numB index, x]).length c) (hashF size 8 [numB index, x]) ∧ Below w.heap.size w w' := by
  obtain ⟨p, c, rfl⟩ := h.shape
  obtain ⟨F, hF⟩ : ∃ F, F = hashF size 8 [numB index, x] := ⟨_, rfl⟩
  have HF : Hid (F = hashF size 8 [numB index, x]) := hF
  rw [← hF]
  clear hF
  have hA := fun w' => rnumber_to index w'
  generalize numB index = A at *
  go_enter Tryd.func66, Tryd.ntmps66
  go_wp2_with fail
  refine (hA _).mono ?_
  rintro e w1 ⟨p1, c1, rfl, h1, hb1⟩
  have h01 := h.later hb1
  clear h hA
  go_wp2_with fail
  have hbA : Below w.heap.size w (w1.alloc (.cells #[.slice p1 8 c1, .slice p x.length c] 22)) := hb1.alloc hb1.size _
  refine (rhash_to size 8 _ [A, x] _ (by simp) (by decide) (PA.lit w1 22 [_, _] _ 2 rfl rfl (by decide) (two_hb h1 h01))).mono ?_
  rintro e w3 ⟨p3, c3, rfl, h3, hb3⟩
  rw [← HF.out] at h3 ⊢
  have hb03 : Below w.heap.size w w3 := hbA.trans (hb3.mono hbA.size)
  go_wp2
  go_ret
  exact ⟨_, _, rfl, h3, hb03⟩

set_option maxRecDepth 100000 in
set_option maxHeartbeats 4000000 in
theorem rchain_ty (size index i fr to : Int) (v : Value) (x : List UInt8) (w : World) (h : HB w v x) (hl : x.length ≤ 140737488355328) (hfr : -9223372036854775808 ≤ fr ∧ fr ≤ 9223372036854775807) :
    Calls Tryd.prog 54 #[.int .i64 size, v, .int .i64 index, .int .i64 i, .int .i64 fr, .int .i64 to] w fun e w' => ∃ p c, e = .returned (.slice p (chainF size x index i fr to).length c) ∧ HB w' (.slice p (chainF size x index i fr to).length c) (chainF size x index i fr to) ∧ Below w.heap.size w w' ∧ TB w' (.slice p (chainF size x index i fr to).length c) := by
  obtain ⟨p, c, rfl⟩ := h.shape
  have HF : Hid (chainF size x index i fr to = chainN size index i (min to 3 - max fr 0).toNat (max fr 0) x) := rfl
  generalize chainF size x index i fr to = F at *
  have hA := fun w' => rnumber_to index w'
  have hB := fun w' => rnumber_to i w'
  have hS : ∀ k y, stepF size index i k y = hashF size 7 [numB index, numB i, numB k, y] := fun k y => rfl
  have hGo := fun k T y => chainN_go size index i k T y
  have hEnd := fun k T y => chainN_end size index i k T y
  generalize numB index = A at *
  generalize numB i = B at *
  generalize chainN size index i = CN at *
  generalize stepF size index i = SF at *
  have HH : Hid (∀ (k : Int) y, SF k y = hashF size 7 [A, B, numB k, y]) := hS
  have HGo : Hid (∀ (k T : Int) y, k < T → CN (T - k).toNat k y = CN (T - (k + 1)).toNat (k + 1) (SF k y)) := hGo
  have HEnd : Hid (∀ (k T : Int) y, T ≤ k → CN (T - k).toNat k y = y) := hEnd
  clear hS hGo hEnd
  go_enter Tryd.func54, Tryd.ntmps54
  have h0 : HB (w.alloc (.cells #[] 5)) (.slice p x.length c) x := h.later ((Below.refl _ w).alloc (Nat.le_refl _) _)
  go_wp2_with (first | (at_builtin; refine wpList_append_hb rfl (.tmp 14) (.tmp 15) 22 rfl w.heap.size 5 Tryd.underlying22 i_u8 _ 0 [] rfl (World.ownsRow_made w #[] 0 (Nat.le_refl _) (Nat.zero_le _) rfl) _ _ _ x rfl h0 ?sa ?sb ?_))
  case sa => omega
  case sb => simp
  intro v1 w1 hown1 hgrow1
  have h1 := HB.of_owns (by simpa using hown1 : w1.ownsRow w.heap.size 5 1 v1 x.length (bcs x))
  have t0 := TB.of_owns hown1
  obtain ⟨p1, c1, rfl⟩ := h1.shape
  have hb1 : Below w.heap.size w w1 := ((Below.refl _ w).alloc (Nat.le_refl _) _).grown hgrow1 (by simp) (by intro k hk; cases hk; exact Nat.le_refl _)
  clear hown1 hgrow1 h h0
  obtain ⟨K, hK⟩ : ∃ K : Int, K = max fr 0 := ⟨_, rfl⟩
  obtain ⟨T, hTo⟩ : ∃ T : Int, T = min to 3 := ⟨_, rfl⟩
  rw [← hK, ← hTo] at HF
  have hT3 : T ≤ 3 := by omega
  have hTs : Hid (T = min to 3) := hTo
  have hK0 : 0 ≤ K := by omega
  have hK9 : K ≤ 9223372036854775807 := by omega
  have hcase : (fr ≤ 0 ∧ K = 0 ∨ 0 < fr ∧ fr = K) := by omega
  have hcase2 : (to < 3 ∧ to = T) ∨ (3 ≤ to ∧ T = 3) := by omega
  clear hK hTo
  rcases hcase with ⟨k1, k2⟩ | ⟨k1, k2⟩
  all_goals
    rcases hcase2 with ⟨t1, t2⟩ | ⟨t1, t2⟩
  all_goals
    have K2 := hid k2
    clear t2 k2
    go_wp2
    go_loopw [1, 13] (fun s q wr => ∃ (k : Int) (y : List UInt8) (p2 : Option Addr) (c2 : Nat), q = .int .i64 k ∧ 0 ≤ k ∧ k ≤ 9223372036854775807 ∧ s = .slice p2 y.length c2 ∧ HB wr (.slice p2 y.length c2) y ∧ Hid (CN (T - k).toNat k y = F) ∧ Below w.heap.size w wr ∧ TB wr (.slice p2 y.length c2)) (fun _ q _ => (3 - intOf q).toNat)
    case atStart => exact ⟨K, x, p1, c1, by rw [K2.out], by omega, by omega, rfl, h1, HF.out.symm, hb1, t0⟩
    case round =>
      obtain ⟨k, y, p2, c2, rfl, hk0, hk9, rfl, h2, HC, hbe, tb⟩ := hrel
      clear hb1 h1 t0
      by_cases hlt : k < T
      · have hTm := hTs.out
        have hlt2 : k < 3 := by omega
        have hlt4 : k < to := by omega
        clear hTm
        have hK := fun w' => rnumber_to k w'
        have HS := HH.out k y
        have HG := HGo.out k T y hlt
        generalize numB k = C at *
        generalize SF k y = Z at *
        have HZ : Hid (Z = hashF size 7 [A, B, C, y]) := HS
        have HC2 : Hid (CN (T - (k + 1)).toNat (k + 1) Z = F) := HG.symm.trans HC.out
        clear HS HG HC
        go_wp2_with fail
        refine (hA _).mono ?_
        rintro e w3 ⟨p3, c3, rfl, h3, hb3⟩
        go_wp2_with fail
        refine (hB _).mono ?_
        rintro e w4 ⟨p4, c4, rfl, h4, hb4⟩
        go_wp2_with fail
        refine (hK _).mono ?_
        rintro e w5 ⟨p5, c5, rfl, h5, hb5⟩
        have hb45 := hb4.trans (hb5.mono hb4.size)
        have hb35 := hb3.trans (hb45.mono hb3.size)
        have g2 := h2.later hb35
        have g3 := h3.later hb45
        have g4 := h4.later hb5
        have hb05 := hbe.trans (hb35.mono hbe.size)
        clear h2 h3 h4 hb3 hb4 hb5 hb45 hb35 hbe
        go_wp2_with fail
        have hbA : Below w.heap.size w (w5.alloc (.cells #[.slice p3 8 c3, .slice p4 8 c4, .slice p5 8 c5, .slice p2 y.length c2] 22)) := hb05.alloc hb05.size _
        refine (rhash_toT size 7 _ [A, B, C, y] _ (by simp) (by decide) (PA.lit w5 22 [_, _, _, _] _ 4 rfl rfl (by decide) (four_hb g3 g4 h5 g2))).mono ?_
        rintro e w6 ⟨p6, c6, rfl, h6, hb6, t6⟩
        rw [← HZ.out] at h6 t6 ⊢
        have hb06 : Below w.heap.size w w6 := hbA.trans (hb6.mono hbA.size)
        clear hb6 hbA g2 g3 g4 h5
        go_wp2
        go_roundw
        case rel => first | exact ⟨k + 1, Z, p6, c6, rfl, by omega, by omega, rfl, h6, HC2, hb06, t6⟩ | ((repeat apply Exists.intro); exact ⟨⟨k + 1, Z, p6, c6, rfl, by omega, by omega, rfl, h6, HC2, hb06, t6⟩, rfl⟩)
        case measure => simp [intOf]; omega
      · have hTm := hTs.out
        have hx1 : to < 3 → to ≤ k := by omega
        have hx2 : 3 ≤ to → 3 ≤ k := by omega
        clear hTm
        first | have hx := hx1 t1 | have hx := hx2 t1
        have e1 : y = F := (HEnd.out k T y (by omega)).symm.trans HC.out
        rw [e1] at h2 tb ⊢
        clear hx1 hx2 HC e1
        go_wp2
        go_ret
        exact ⟨_, _, rfl, h2, hbe, tb⟩

theorem rchain_any (size index i fr to : Int) (v : Value) (x : List UInt8) (w : World) (h : HB w v x) (hl : x.length ≤ 140737488355328) (hfr : -9223372036854775808 ≤ fr ∧ fr ≤ 9223372036854775807) :
    Calls Tryd.prog 54 #[.int .i64 size, v, .int .i64 index, .int .i64 i, .int .i64 fr, .int .i64 to] w fun e w' => ∃ p c, e = .returned (.slice p (chainF size x index i fr to).length c) ∧ HB w' (.slice p (chainF size x index i fr to).length c) (chainF size x index i fr to) ∧ Below w.heap.size w w' :=
  (rchain_ty size index i fr to v x w h hl hfr).mono fun _ _ ⟨p, c, h1, h2, h3, _⟩ => ⟨p, c, h1, h2, h3⟩

end Go.Proofs.YtdjaemobfbbkoaaDoor

namespace Go.Proofs.YtdjaemobfbbkoaaDoor
open Go.RowKit

theorem rdg_calc : ∀ n : Fin 256, ∀ j : Fin 4, (wrap64 ((n.val : Int) / 2 ^ (6 - 2 * j.val))).tmod 4 = ((dg n.val (3 - j.val) : Nat) : Int) := by decide +kernel
theorem rcg_calc : ∀ n : Fin 1024, ∀ j : Fin 5, ((n.val : Int) / 2 ^ (8 - 2 * j.val)).tmod 4 = ((dg n.val (4 - j.val) : Nat) : Int) := by decide +kernel

set_option maxRecDepth 100000 in
set_option maxHeartbeats 4000000 in
theorem rdigits_any (v : Value) (t : List UInt8) (w : World) (hf : HB w v t) (ht32 : t.length ≤ 32) :
    Calls Tryd.prog 53 #[v] w fun e w' => ∃ v', e = .returned v' ∧ w'.ownsRow w.heap.size 3 1 v' (digF t).length (ics (digF t)) ∧ Below w.heap.size w w' := by
  obtain ⟨p, c, rfl⟩ := hf.shape
  have hlen := hf.len
  unfold maxLen at hlen
  obtain ⟨i0, hi, hz0, hz1, hz2⟩ := info_parts i_int
  have HF : Hid (digF t = digs t ++ cdigs (chk (digs t))) := by
    show digF t = _
    unfold digF
    rw [List.take_of_length_le ht32]
  generalize digF t = F at *
  go_enter Tryd.func53, Tryd.ntmps53
  go_wp2
  go_loopw [3, 4, 12] (fun v x i wr => ∃ k : Nat, k ≤ t.length ∧ i = .int .i64 k ∧ x = .int .i64 ((chk (digs (t.take k)) : Nat) : Int) ∧ wr.ownsRow w.heap.size 3 1 v (digs (t.take k)).length (ics (digs (t.take k))) ∧ Below w.heap.size w wr) (fun _ _ i _ => t.length - (intOf i).toNat)
  case atStart => exact ⟨0, Nat.zero_le _, rfl, by simp [digs, chk], World.ownsRow_nil _ _ _ _, Below.refl _ w⟩
  case round =>
    obtain ⟨k, hk, rfl, rfl, hown, hbe⟩ := hrel
    have hck := chk_le (digs (t.take k))
    rw [digs_length] at hck hown
    have htk : (t.take k).length ≤ 32 := by simp; omega
    have hsz := hbe.size
    generalize hC : chk (digs (t.take k)) = C at *
    have HC : Hid (chk (digs (t.take k)) = C) := hC
    generalize hD : digs (t.take k) = D at *
    have HD : Hid (digs (t.take k) = D) := hD
    generalize hN : (t.take k).length = N at *
    have HN : Hid ((t.take k).length = N) := hN
    clear hC hD hN
    by_cases hlt : k < t.length
    · obtain ⟨b, o, rfl, f1⟩ := (hf.later hbe).addr (by omega)
      have c1 := f1 k t[k] (List.getElem?_eq_getElem hlt)
      have HY : Hid (t[k]? = some t[k]) := List.getElem?_eq_getElem hlt
      generalize t[k] = y at *
      clear f1
      unfold bc at c1
      have hy := y.toNat_lt
      have hlt2 : (k : Int) < (t.length : Int) := by omega
      have hk32 : (k : Int) < 32 := by omega
      go_wp2
      go_loopw [3, 4, 7] (fun v x i wr => ∃ j : Nat, j ≤ 4 ∧ i = .int .i64 (6 - 2 * (j : Int)) ∧ x = .int .i64 ((C + chk ((bdigs y).take j) : Nat) : Int) ∧ wr.ownsRow w.heap.size 3 1 v (4 * N + j) (ics (D ++ (bdigs y).take j)) ∧ Below w.heap.size w wr) (fun _ _ i _ => (intOf i + 2).toNat)
      case atStart => exact ⟨0, Nat.zero_le _, rfl, by simp [chk], by simpa using hown, hbe⟩
      case round =>
        obtain ⟨j, hj, rfl, rfl, hown2, hbe2⟩ := hrel
        clear hown hbe
        have hbl := chk_le ((bdigs y).take j)
        have hbl2 : ((bdigs y).take j).length ≤ 4 := by simp [bdigs]; omega
        have hsz2 := hbe2.size
        by_cases hlt4 : j < 4
        · have hd3 := dg_le y.toNat (3 - j)
          have HS : Hid ((bdigs y).take (j + 1) = (bdigs y).take j ++ [dg y.toNat (3 - j)]) := bdigs_step y j hlt4
          have HS2 : Hid (chk ((bdigs y).take (j + 1)) = chk ((bdigs y).take j) + (3 - dg y.toNat (3 - j))) := by
            show chk ((bdigs y).take (j + 1)) = _
            rw [HS.out, chk_append, chk_one]
          generalize hX : (bdigs y).take j = X at *
          generalize hZ : (bdigs y).take (j + 1) = Z at *
          have HZ : Hid ((bdigs y).take (j + 1) = Z) := hZ
          generalize hE : chk X = E at *
          have HE : Hid (chk X = E) := hE
          clear hX hZ hE
          have HG : Hid ((wrap64 ((y.toNat : Int) / 2 ^ (6 - 2 * j))).tmod 4 = ((dg y.toNat (3 - j) : Nat) : Int)) := rdg_calc ⟨y.toNat, by omega⟩ ⟨j, hlt4⟩
          generalize dg y.toNat (3 - j) = G at *
          go_wp2_with (first | (at_builtin; rw [HG.out]; refine wpList_append_own _ rfl (.tmp 28) (.tmp 30) 93 rfl w.heap.size 3 i0 (.int .i64 0) 1 8 Tryd.underlying93 hi hz0 hz1 hz2 rfl (by decide) _ _ _ rfl (hown2.alloc _) ⟨wr.heap.size, 0, none⟩ 1 1 [.int .i64 (G : Int)] rfl rfl ?ra ?rb ?rc ?rd ?re ?_))
          case ra => exact cell_one_new _ _ _
          case rb => intro u hu; simp at hu; subst hu; rfl
          case rc => unfold maxLen; omega
          case rd => omega
          case re => simp; omega
          intro v3 w3 hown3 hgrow3 _
          have hb3 : Below w.heap.size w w3 := (hbe2.alloc hsz2 _).grown hgrow3 (by simp; omega) (fun k hk => (hown2.lt k hk).1)
          have hown4 : w3.ownsRow w.heap.size 3 1 v3 (4 * N + (j + 1)) (ics (D ++ Z)) := by
            rw [HS.out]
            have := hown3
            simp only [ics, List.map_append, List.map_cons, List.map_nil, ic, List.append_assoc] at this ⊢
            exact this
          clear hown2 hown3 hgrow3 hbe2
          go_wp2
          go_roundw
          case rel => first | exact ⟨j + 1, by omega, by go_num, by rw [HZ.out, HS2.out]; go_num, by rw [HZ.out]; exact hown4, hb3⟩ | ((repeat apply Exists.intro); exact ⟨⟨j + 1, by omega, by go_num, by rw [HZ.out, HS2.out]; go_num, by rw [HZ.out]; exact hown4, hb3⟩, rfl⟩)
          case measure => simp [intOf]; omega
        · obtain rfl : j = 4 := by omega
          rw [show (bdigs y).take 4 = bdigs y from rfl] at *
          have HS : Hid (digs (t.take (k + 1)) = D ++ bdigs y) := by
            show digs (t.take (k + 1)) = _
            rw [digs_step t k y HY.out, HD.out]
          have HS2 : Hid (chk (digs (t.take (k + 1))) = C + chk (bdigs y)) := by
            show chk (digs (t.take (k + 1))) = _
            rw [HS.out, chk_append, HC.out]
          have HN2 : Hid ((t.take (k + 1)).length = N + 1) := by
            show (t.take (k + 1)).length = N + 1
            rw [← HN.out]
            simp
            omega
          generalize bdigs y = B at *
          generalize hE : chk B = E at *
          have HE : Hid (chk B = E) := hE
          clear hE
          go_wp2
          go_roundw
          case rel =>
            have q1 : wr.ownsRow w.heap.size 3 1 u3 (digs (t.take (k + 1))).length (ics (digs (t.take (k + 1)))) := by
              rw [digs_length, HN2.out, HS.out]
              exact hown2
            first | exact ⟨k + 1, by omega, by go_num, by rw [HS2.out], q1, hbe2⟩ | ((repeat apply Exists.intro); exact ⟨⟨k + 1, by omega, by go_num, by rw [HS2.out], q1, hbe2⟩, rfl⟩)
          case measure => simp [intOf]; omega
    · have e1 : t.take k = t := List.take_of_length_le (by omega)
      rw [e1] at HD HN
      have HF2 : Hid (F = D ++ cdigs C) := by
        show F = _
        rw [HF.out, HD.out, HC.out]
      clear e1 HF
      go_wp2
      go_loopw [3, 9] (fun v i wr => ∃ j : Nat, j ≤ 5 ∧ i = .int .i64 (8 - 2 * (j : Int)) ∧ wr.ownsRow w.heap.size 3 1 v (4 * N + j) (ics (D ++ (cdigs C).take j)) ∧ Below w.heap.size w wr) (fun _ i _ => (intOf i + 2).toNat)
      case atStart => exact ⟨0, Nat.zero_le _, rfl, by simpa using hown, hbe⟩
      case round =>
        obtain ⟨j, hj, rfl, hown2, hbe2⟩ := hrel
        clear hown hbe
        have hsz2 := hbe2.size
        by_cases hlt4 : j < 5
        · have HS : Hid ((cdigs C).take (j + 1) = (cdigs C).take j ++ [dg C (4 - j)]) := cdigs_step C j hlt4
          have HG : Hid (((C : Int) / 2 ^ (8 - 2 * j)).tmod 4 = ((dg C (4 - j) : Nat) : Int)) := rcg_calc ⟨C, by omega⟩ ⟨j, hlt4⟩
          generalize dg C (4 - j) = G at *
          generalize hX : (cdigs C).take j = X at *
          generalize hZ : (cdigs C).take (j + 1) = Z at *
          have HZ : Hid ((cdigs C).take (j + 1) = Z) := hZ
          clear hX hZ
          go_wp2_with (first | (at_builtin; rw [HG.out]; refine wpList_append_own _ rfl (.tmp 41) (.tmp 46) 93 rfl w.heap.size 3 i0 (.int .i64 0) 1 8 Tryd.underlying93 hi hz0 hz1 hz2 rfl (by decide) _ _ _ rfl (hown2.alloc _) ⟨wr.heap.size, 0, none⟩ 1 1 [.int .i64 (G : Int)] rfl rfl ?ra ?rb ?rc ?rd ?re ?_))
          case ra => exact cell_one_new _ _ _
          case rb => intro u hu; simp at hu; subst hu; rfl
          case rc => unfold maxLen; omega
          case rd => omega
          case re => simp; omega
          intro v3 w3 hown3 hgrow3 _
          have hb3 : Below w.heap.size w w3 := (hbe2.alloc hsz2 _).grown hgrow3 (by simp; omega) (fun k hk => (hown2.lt k hk).1)
          have hown4 : w3.ownsRow w.heap.size 3 1 v3 (4 * N + (j + 1)) (ics (D ++ Z)) := by
            rw [HS.out]
            have := hown3
            simp only [ics, List.map_append, List.map_cons, List.map_nil, ic, List.append_assoc] at this ⊢
            exact this
          clear hown2 hown3 hgrow3 hbe2
          go_wp2
          go_roundw
          case rel => first | exact ⟨j + 1, by omega, by go_num, by rw [HZ.out]; exact hown4, hb3⟩ | ((repeat apply Exists.intro); exact ⟨⟨j + 1, by omega, by go_num, by rw [HZ.out]; exact hown4, hb3⟩, rfl⟩)
          case measure => simp [intOf]; omega
        · obtain rfl : j = 5 := by omega
          rw [show (cdigs C).take 5 = cdigs C from rfl, ← HF2.out] at hown2
          go_wp2
          go_ret
          refine ⟨_, rfl, ?_, hbe2⟩
          have e1 : F.length = 4 * N + 5 := by
            rw [HF2.out, List.length_append, ← HD.out, digs_length, HN.out]
            rfl
          rw [e1]
          exact hown2

end Go.Proofs.YtdjaemobfbbkoaaDoor
