/- What this text proves: the walk of wots.Digits over this program: the digits of any digest, in new memory; and that the statements' own look finds them. -/
import Derived.Test.YtganajmhdpiipaaGreatDoorInts
namespace Go.Proofs.YtganajmhdpiipaaGreatDoor
open Go.RowKit

def dg (n k : Nat) : Nat := n / 4 ^ k % 4

theorem dg_calc : ∀ n : Fin 1024, ∀ k : Fin 5, bits BinOp.and IntKind.i64 ((n.val : Int) / 2 ^ (2 * k.val)) 3 = ((dg n.val k.val : Nat) : Int) := by decide +kernel

theorem dg_le (n k : Nat) : dg n k ≤ 3 := by unfold dg; omega

set_option maxRecDepth 100000 in
set_option maxHeartbeats 400000 in
theorem digit_any (n k : Nat) (w : World) (hn : n < 1024) (hk : k < 5) :
    Calls Tryz.prog 90 #[.int .i64 (n : Int), .int .i64 (k : Int)] w fun e w' => e = .returned (.int .i64 ((dg n k : Nat) : Int)) ∧ w' = w := by
  have hd : Hid (bits BinOp.and IntKind.i64 ((n : Int) / 2 ^ (2 * k)) 3 = ((dg n k : Nat) : Int)) := dg_calc ⟨n, hn⟩ ⟨k, hk⟩
  generalize dg n k = D at *
  go_enter Tryz.func90, Tryz.ntmps90
  go_wp2
  rw [hd.out]
  go_ret
  exact ⟨rfl, rfl⟩

theorem chaincount_any (n : Nat) (w : World) (hn : n ≤ 1000000) :
    Calls Tryz.prog 89 #[.int .i64 (n : Int)] w fun e w' => e = .returned (.int .i64 ((4 * n + 5 : Nat) : Int)) ∧ w' = w := by
  go_enter Tryz.func89, Tryz.ntmps89
  go_wp2
  go_ret
  exact ⟨by go_num, rfl⟩

theorem bdigs_step (b : UInt8) (j : Nat) (hj : j < 4) : (bdigs b).take (j + 1) = (bdigs b).take j ++ [dg b.toNat (3 - j)] := by
  match j, hj with
  | 0, _ => simp [bdigs, dg]
  | 1, _ => simp [bdigs, dg]
  | 2, _ => simp [bdigs, dg]
  | 3, _ => simp [bdigs, dg]

theorem cdigs_step (c : Nat) (j : Nat) (hj : j < 5) : (cdigs c).take (j + 1) = (cdigs c).take j ++ [dg c (4 - j)] := by
  match j, hj with
  | 0, _ => simp [cdigs, dg]
  | 1, _ => simp [cdigs, dg]
  | 2, _ => simp [cdigs, dg]
  | 3, _ => simp [cdigs, dg]
  | 4, _ => simp [cdigs, dg]

theorem digs_step (l : List UInt8) (k : Nat) (b : UInt8) (h : l[k]? = some b) : digs (l.take (k + 1)) = digs (l.take k) ++ bdigs b := by
  rw [List.take_add_one, h]
  simp [digs]

theorem chk_one (d : Nat) : chk [d] = 3 - d := by simp [chk]

theorem i_int : (Tryz.prog.info? 3).map (fun i => (i.zero, i.size, i.bytes)) = some (some (.int .i64 0), 1, 8) := by kernel_rfl

set_option maxRecDepth 100000 in
set_option maxHeartbeats 4000000 in
theorem digits_any (v : Value) (l : List UInt8) (w : World) (h : HB w v l) :
    Calls Tryz.prog 68 #[v] w fun e w' => ∃ v', e = .returned v' ∧ w'.ownsRow w.heap.size 3 1 v' (digF l).length (ics (digF l)) ∧ Below w.heap.size w w' := by
  obtain ⟨p, c, rfl⟩ := h.shape
  have hlen := h.len
  unfold maxLen at hlen
  obtain ⟨i0, hi, hz0, hz1, hz2⟩ := info_parts i_int
  have hf := h.front (min l.length 32) (by omega)
  rw [show l.take (min l.length 32) = l.take 32 by rw [List.take_eq_take_iff]; omega] at hf
  have HF : Hid (digF l = digs (l.take 32) ++ cdigs (chk (digs (l.take 32)))) := rfl
  have ht32 : (l.take 32).length ≤ 32 := by simp; omega
  have hT := hf.len.1
  go_enter Tryz.func68, Tryz.ntmps68
  generalize digF l = F at *
  generalize l.take 32 = t at *
  rcases Nat.lt_or_ge 32 l.length with hbig | hbig
  case' inl =>
    rw [show min l.length 32 = 32 by omega] at hf hT
    have hbig2 : (32 : Int) < (l.length : Int) := by omega
    go_wp2_with fail
    rw [hT] at hf
  case' inr =>
    rw [show min l.length 32 = l.length by omega] at hf hT
    have hbig2 : (l.length : Int) ≤ 32 := by omega
    go_wp2_with fail
    rw [hT] at hf
  all_goals
    have hcm := hf.len
    unfold maxLen at hcm
    clear h hT hbig hbig2 hlen
    refine (chaincount_any _ _ (by omega)).mono ?_
    rintro e w0 ⟨rfl, hw0⟩
    have hw2 := hw0.symm
    clear hw0
    subst hw2
    go_wp2_with (first | (at_make; refine wpList_make_own _ rfl _ _ 85 rfl w.heap.size 3 i0 (.int .i64 0) 1 Tryz.underlying85 hi hz0 hz1 .i64 .i64 _ (4 * t.length + 5) rfl rfl ?qa ?qb ?qc ?qd ?_))
    case qa => omega
    case qb => rw [hz2]; omega
    case qc => unfold maxLen; omega
    case qd => exact Nat.le_refl _
    intro w1 hown1 hgrow1
    have hb1 : Below w.heap.size w w1 := (Below.refl _ w).grown hgrow1 (Nat.le_refl _) (by intro k hk; cases hk)
    go_wp2
    go_loopw [3, 4, 21] (fun v x i wr => ∃ k : Nat, k ≤ t.length ∧ i = .int .i64 k ∧ x = .int .i64 ((chk (digs (t.take k)) : Nat) : Int) ∧ wr.ownsRow w.heap.size 3 1 v (digs (t.take k)).length (ics (digs (t.take k))) ∧ Below w.heap.size w wr) (fun _ _ i _ => t.length - (intOf i).toNat)
    case atStart => exact ⟨0, Nat.zero_le _, rfl, by simp [digs, chk], by simpa [digs, ics] using hown1, hb1⟩
    case round =>
      obtain ⟨k, hk, rfl, rfl, hown, hbe⟩ := hrel
      clear hown1 hb1 hgrow1
      have hck := chk_le (digs (t.take k))
      rw [digs_length] at hck hown
      have htk : (t.take k).length ≤ 32 := by simp; omega
      have hsz := hbe.size
      generalize hC : chk (digs (t.take k)) = C at *
      have HC : Hid (chk (digs (t.take k)) = C) := hC
      generalize hD : digs (t.take k) = D at *
      have HD : Hid (digs (t.take k) = D) := hD
      generalize hN : (t.take k).length = N at *
      have HN : Hid ((t.take k).length = N) := hN
      clear hC hD hN
      by_cases hlt : k < t.length
      · obtain ⟨b, o, rfl, f1⟩ := (hf.later hbe).addr (by omega)
        have c1 := f1 k t[k] (List.getElem?_eq_getElem hlt)
        have HY : Hid (t[k]? = some t[k]) := List.getElem?_eq_getElem hlt
        generalize t[k] = y at *
        clear f1
        unfold bc at c1
        have hy := y.toNat_lt
        have hlt2 : (k : Int) < (t.length : Int) := by omega
        go_wp2
        go_loopw [3, 4, 7] (fun v x i wr => ∃ j : Nat, j ≤ 4 ∧ i = .int .i64 (3 - (j : Int)) ∧ x = .int .i64 ((C + chk ((bdigs y).take j) : Nat) : Int) ∧ wr.ownsRow w.heap.size 3 1 v (4 * N + j) (ics (D ++ (bdigs y).take j)) ∧ Below w.heap.size w wr) (fun _ _ i _ => (intOf i + 1).toNat)
        case atStart => exact ⟨0, Nat.zero_le _, rfl, by simp [chk], by simpa using hown, hbe⟩
        case round =>
          obtain ⟨j, hj, rfl, rfl, hown2, hbe2⟩ := hrel
          clear hown hbe
          have hbl := chk_le ((bdigs y).take j)
          have hbl2 : ((bdigs y).take j).length ≤ 4 := by simp [bdigs]; omega
          have hsz2 := hbe2.size
          by_cases hlt4 : j < 4
          · have hG : Calls Tryz.prog 90 #[.int .i64 (y.toNat : Int), .int .i64 (3 - (j : Int))] wr fun e w' => e = .returned (.int .i64 ((dg y.toNat (3 - j) : Nat) : Int)) ∧ w' = wr := by
              rw [show (3 : Int) - (j : Int) = ((3 - j : Nat) : Int) by omega]
              exact digit_any _ _ _ (by omega) (by omega)
            have hd3 := dg_le y.toNat (3 - j)
            have HS : Hid ((bdigs y).take (j + 1) = (bdigs y).take j ++ [dg y.toNat (3 - j)]) := bdigs_step y j hlt4
            have HS2 : Hid (chk ((bdigs y).take (j + 1)) = chk ((bdigs y).take j) + (3 - dg y.toNat (3 - j))) := by
              show chk ((bdigs y).take (j + 1)) = _
              rw [HS.out, chk_append, chk_one]
            generalize dg y.toNat (3 - j) = G at *
            generalize hX : (bdigs y).take j = X at *
            generalize hZ : (bdigs y).take (j + 1) = Z at *
            have HZ : Hid ((bdigs y).take (j + 1) = Z) := hZ
            generalize hE : chk X = E at *
            have HE : Hid (chk X = E) := hE
            clear hX hZ hE
            go_wp2_with fail
            refine hG.mono ?_
            rintro e w5 ⟨rfl, hw5⟩
            have hw6 := hw5.symm
            clear hw5
            subst hw6
            go_wp2_with (first | (at_builtin; refine wpList_append_own _ rfl (.tmp 33) (.tmp 35) 85 rfl w.heap.size 3 i0 (.int .i64 0) 1 8 Tryz.underlying85 hi hz0 hz1 hz2 rfl (by decide) _ _ _ rfl (hown2.alloc _) ⟨wr.heap.size, 0, none⟩ 1 1 [.int .i64 (G : Int)] rfl rfl ?ra ?rb ?rc ?rd ?re ?_))
            case ra => exact cell_one_new _ _ _
            case rb => intro u hu; simp at hu; subst hu; rfl
            case rc => unfold maxLen; omega
            case rd => omega
            case re => simp; omega
            intro v3 w3 hown3 hgrow3 _
            have hb3 : Below w.heap.size w w3 := (hbe2.alloc hsz2 _).grown hgrow3 (by simp; omega) (fun k hk => (hown2.lt k hk).1)
            have hown4 : w3.ownsRow w.heap.size 3 1 v3 (4 * N + (j + 1)) (ics (D ++ Z)) := by
              rw [HS.out]
              have := hown3
              simp only [ics, List.map_append, List.map_cons, List.map_nil, ic, List.append_assoc] at this ⊢
              exact this
            clear hown2 hown3 hgrow3 hbe2 hG
            go_wp2
            go_roundw
            case rel => first | exact ⟨j + 1, by omega, by go_num, by rw [HZ.out, HS2.out]; go_num, by rw [HZ.out]; exact hown4, hb3⟩ | ((repeat apply Exists.intro); exact ⟨⟨j + 1, by omega, by go_num, by rw [HZ.out, HS2.out]; go_num, by rw [HZ.out]; exact hown4, hb3⟩, rfl⟩)
            case measure => simp [intOf]; omega
          · obtain rfl : j = 4 := by omega
            rw [show (bdigs y).take 4 = bdigs y from rfl] at *
            have HS : Hid (digs (t.take (k + 1)) = D ++ bdigs y) := by
              show digs (t.take (k + 1)) = _
              rw [digs_step t k y HY.out, HD.out]
            have HS2 : Hid (chk (digs (t.take (k + 1))) = C + chk (bdigs y)) := by
              show chk (digs (t.take (k + 1))) = _
              rw [HS.out, chk_append, HC.out]
            have HN2 : Hid ((t.take (k + 1)).length = N + 1) := by
              show (t.take (k + 1)).length = N + 1
              rw [← HN.out]
              simp
              omega
            generalize bdigs y = B at *
            generalize hE : chk B = E at *
            have HE : Hid (chk B = E) := hE
            clear hE
            go_wp2
            go_roundw
            case rel =>
              have q1 : wr.ownsRow w.heap.size 3 1 u3 (digs (t.take (k + 1))).length (ics (digs (t.take (k + 1)))) := by
                rw [digs_length, HN2.out, HS.out]
                exact hown2
              first | exact ⟨k + 1, by omega, by go_num, by rw [HS2.out], q1, hbe2⟩ | ((repeat apply Exists.intro); exact ⟨⟨k + 1, by omega, by go_num, by rw [HS2.out], q1, hbe2⟩, rfl⟩)
            case measure => simp [intOf]; omega
      · have hkl : k = t.length := by omega
        have e1 : t.take k = t := List.take_of_length_le (by omega)
        rw [e1] at HD HN
        have HF2 : Hid (F = D ++ cdigs C) := by
          show F = _
          rw [HF.out, HD.out, HC.out]
        clear hkl e1 HF
        go_wp2
        go_loopw [3, 9] (fun v i wr => ∃ j : Nat, j ≤ 5 ∧ i = .int .i64 (4 - (j : Int)) ∧ wr.ownsRow w.heap.size 3 1 v (4 * N + j) (ics (D ++ (cdigs C).take j)) ∧ Below w.heap.size w wr) (fun _ i _ => (intOf i + 1).toNat)
        case atStart => exact ⟨0, Nat.zero_le _, rfl, by simpa using hown, hbe⟩
        case round =>
          obtain ⟨j, hj, rfl, hown2, hbe2⟩ := hrel
          clear hown hbe
          have hsz2 := hbe2.size
          by_cases hlt4 : j < 5
          · have hG : Calls Tryz.prog 90 #[.int .i64 (C : Int), .int .i64 (4 - (j : Int))] wr fun e w' => e = .returned (.int .i64 ((dg C (4 - j) : Nat) : Int)) ∧ w' = wr := by
              rw [show (4 : Int) - (j : Int) = ((4 - j : Nat) : Int) by omega]
              exact digit_any _ _ _ (by omega) (by omega)
            have HS : Hid ((cdigs C).take (j + 1) = (cdigs C).take j ++ [dg C (4 - j)]) := cdigs_step C j hlt4
            generalize dg C (4 - j) = G at *
            generalize hX : (cdigs C).take j = X at *
            generalize hZ : (cdigs C).take (j + 1) = Z at *
            have HZ : Hid ((cdigs C).take (j + 1) = Z) := hZ
            clear hX hZ
            go_wp2_with fail
            refine hG.mono ?_
            rintro e w5 ⟨rfl, hw5⟩
            have hw6 := hw5.symm
            clear hw5
            subst hw6
            go_wp2_with (first | (at_builtin; refine wpList_append_own _ rfl (.tmp 46) (.tmp 50) 85 rfl w.heap.size 3 i0 (.int .i64 0) 1 8 Tryz.underlying85 hi hz0 hz1 hz2 rfl (by decide) _ _ _ rfl (hown2.alloc _) ⟨wr.heap.size, 0, none⟩ 1 1 [.int .i64 (G : Int)] rfl rfl ?ra ?rb ?rc ?rd ?re ?_))
            case ra => exact cell_one_new _ _ _
            case rb => intro u hu; simp at hu; subst hu; rfl
            case rc => unfold maxLen; omega
            case rd => omega
            case re => simp; omega
            intro v3 w3 hown3 hgrow3 _
            have hb3 : Below w.heap.size w w3 := (hbe2.alloc hsz2 _).grown hgrow3 (by simp; omega) (fun k hk => (hown2.lt k hk).1)
            have hown4 : w3.ownsRow w.heap.size 3 1 v3 (4 * N + (j + 1)) (ics (D ++ Z)) := by
              rw [HS.out]
              have := hown3
              simp only [ics, List.map_append, List.map_cons, List.map_nil, ic, List.append_assoc] at this ⊢
              exact this
            clear hown2 hown3 hgrow3 hbe2 hG
            go_wp2
            go_roundw
            case rel => first | exact ⟨j + 1, by omega, by go_num, by rw [HZ.out]; exact hown4, hb3⟩ | ((repeat apply Exists.intro); exact ⟨⟨j + 1, by omega, by go_num, by rw [HZ.out]; exact hown4, hb3⟩, rfl⟩)
            case measure => simp [intOf]; omega
          · obtain rfl : j = 5 := by omega
            rw [show (cdigs C).take 5 = cdigs C from rfl, ← HF2.out] at hown2
            go_wp2
            go_ret
            refine ⟨_, rfl, ?_, hbe2⟩
            have e1 : F.length = 4 * N + 5 := by
              rw [HF2.out, List.length_append, ← HD.out, digs_length, HN.out]
              rfl
            rw [e1]
            exact hown2

end Go.Proofs.YtganajmhdpiipaaGreatDoor
