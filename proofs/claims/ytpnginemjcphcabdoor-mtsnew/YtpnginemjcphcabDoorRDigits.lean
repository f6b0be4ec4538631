/- What this text proves: the walk of the document's Digits (annalsref05) over this program, of 32 bytes at most. -/
import Derived.Test.YtpnginemjcphcabDoorDigits
namespace Go.Proofs.YtpnginemjcphcabDoor
open Go.RowKit

theorem rdg_calc : ∀ n : Fin 256, ∀ j : Fin 4, (wrap64 ((n.val : Int) / 2 ^ (6 - 2 * j.val))).tmod 4 = ((dg n.val (3 - j.val) : Nat) : Int) := by decide +kernel
theorem rcg_calc : ∀ n : Fin 1024, ∀ j : Fin 5, ((n.val : Int) / 2 ^ (8 - 2 * j.val)).tmod 4 = ((dg n.val (4 - j.val) : Nat) : Int) := by decide +kernel

set_option maxRecDepth 100000 in
set_option maxHeartbeats 4000000 in
theorem rdigits_any (v : Value) (t : List UInt8) (w : World) (hf : HB w v t) (ht32 : t.length ≤ 32) :
    Calls Tryd.prog 58 #[v] w fun e w' => ∃ v', e = .returned v' ∧ w'.ownsRow w.heap.size 3 1 v' (digF t).length (ics (digF t)) ∧ Below w.heap.size w w' := by
  obtain ⟨p, c, rfl⟩ := hf.shape
  have hlen := hf.len
  unfold maxLen at hlen
  obtain ⟨i0, hi, hz0, hz1, hz2⟩ := info_parts i_int
  have HF : Hid (digF t = digs t ++ cdigs (chk (digs t))) := by
    show digF t = _
    unfold digF
    rw [List.take_of_length_le ht32]
  generalize digF t = F at *
  go_enter Tryd.func58, Tryd.ntmps58
  go_wp2
  go_loopw [3, 4, 12] (fun v x i wr => ∃ k : Nat, k ≤ t.length ∧ i = .int .i64 k ∧ x = .int .i64 ((chk (digs (t.take k)) : Nat) : Int) ∧ wr.ownsRow w.heap.size 3 1 v (digs (t.take k)).length (ics (digs (t.take k))) ∧ Below w.heap.size w wr) (fun _ _ i _ => t.length - (intOf i).toNat)
  case atStart => exact ⟨0, Nat.zero_le _, rfl, by simp [digs, chk], World.ownsRow_nil _ _ _ _, Below.refl _ w⟩
  case round =>
    obtain ⟨k, hk, rfl, rfl, hown, hbe⟩ := hrel
    have hck := chk_le (digs (t.take k))
    rw [digs_length] at hck hown
    have htk : (t.take k).length ≤ 32 := by simp; omega
    have hsz := hbe.size
    generalize hC : chk (digs (t.take k)) = C at *
    have HC : Hid (chk (digs (t.take k)) = C) := hC
    generalize hD : digs (t.take k) = D at *
    have HD : Hid (digs (t.take k) = D) := hD
    generalize hN : (t.take k).length = N at *
    have HN : Hid ((t.take k).length = N) := hN
    clear hC hD hN
    by_cases hlt : k < t.length
    · obtain ⟨b, o, rfl, f1⟩ := (hf.later hbe).addr (by omega)
      have c1 := f1 k t[k] (List.getElem?_eq_getElem hlt)
      have HY : Hid (t[k]? = some t[k]) := List.getElem?_eq_getElem hlt
      generalize t[k] = y at *
      clear f1
      unfold bc at c1
      have hy := y.toNat_lt
      have hlt2 : (k : Int) < (t.length : Int) := by omega
      have hk32 : (k : Int) < 32 := by omega
      go_wp2
      go_loopw [3, 4, 7] (fun v x i wr => ∃ j : Nat, j ≤ 4 ∧ i = .int .i64 (6 - 2 * (j : Int)) ∧ x = .int .i64 ((C + chk ((bdigs y).take j) : Nat) : Int) ∧ wr.ownsRow w.heap.size 3 1 v (4 * N + j) (ics (D ++ (bdigs y).take j)) ∧ Below w.heap.size w wr) (fun _ _ i _ => (intOf i + 2).toNat)
      case atStart => exact ⟨0, Nat.zero_le _, rfl, by simp [chk], by simpa using hown, hbe⟩
      case round =>
        obtain ⟨j, hj, rfl, rfl, hown2, hbe2⟩ := hrel
        clear hown hbe
        have hbl := chk_le ((bdigs y).take j)
        have hbl2 : ((bdigs y).take j).length ≤ 4 := by simp [bdigs]; omega
        have hsz2 := hbe2.size
        by_cases hlt4 : j < 4
        · have hd3 := dg_le y.toNat (3 - j)
          have HS : Hid ((bdigs y).take (j + 1) = (bdigs y).take j ++ [dg y.toNat (3 - j)]) := bdigs_step y j hlt4
          have HS2 : Hid (chk ((bdigs y).take (j + 1)) = chk ((bdigs y).take j) + (3 - dg y.toNat (3 - j))) := by
            show chk ((bdigs y).take (j + 1)) = _
            rw [HS.out, chk_append, chk_one]
          generalize hX : (bdigs y).take j = X at *
          generalize hZ : (bdigs y).take (j + 1) = Z at *
          have HZ : Hid ((bdigs y).take (j + 1) = Z) := hZ
          generalize hE : chk X = E at *
          have HE : Hid (chk X = E) := hE
          clear hX hZ hE
          have HG : Hid ((wrap64 ((y.toNat : Int) / 2 ^ (6 - 2 * j))).tmod 4 = ((dg y.toNat (3 - j) : Nat) : Int)) := rdg_calc ⟨y.toNat, by omega⟩ ⟨j, hlt4⟩
          generalize dg y.toNat (3 - j) = G at *
          go_wp2_with (first | (at_builtin; rw [HG.out]; refine wpList_append_own _ rfl (.tmp 28) (.tmp 30) 95 rfl w.heap.size 3 i0 (.int .i64 0) 1 8 Tryd.underlying95 hi hz0 hz1 hz2 rfl (by decide) _ _ _ rfl (hown2.alloc _) ⟨wr.heap.size, 0, none⟩ 1 1 [.int .i64 (G : Int)] rfl rfl ?ra ?rb ?rc ?rd ?re ?_))
          case ra => exact cell_one_new _ _ _
          case rb => intro u hu; simp at hu; subst hu; rfl
          case rc => unfold maxLen; omega
          case rd => omega
          case re => simp; omega
          intro v3 w3 hown3 hgrow3 _
          have hb3 : Below w.heap.size w w3 := (hbe2.alloc hsz2 _).grown hgrow3 (by simp; omega) (fun k hk => (hown2.lt k hk).1)
          have hown4 : w3.ownsRow w.heap.size 3 1 v3 (4 * N + (j + 1)) (ics (D ++ Z)) := by
            rw [HS.out]
            have := hown3
            simp only [ics, List.map_append, List.map_cons, List.map_nil, ic, List.append_assoc] at this ⊢
            exact this
          clear hown2 hown3 hgrow3 hbe2
          go_wp2
          go_roundw
          case rel => first | exact ⟨j + 1, by omega, by go_num, by rw [HZ.out, HS2.out]; go_num, by rw [HZ.out]; exact hown4, hb3⟩ | ((repeat apply Exists.intro); exact ⟨⟨j + 1, by omega, by go_num, by rw [HZ.out, HS2.out]; go_num, by rw [HZ.out]; exact hown4, hb3⟩, rfl⟩)
          case measure => simp [intOf]; omega
        · obtain rfl : j = 4 := by omega
          rw [show (bdigs y).take 4 = bdigs y from rfl] at *
          have HS : Hid (digs (t.take (k + 1)) = D ++ bdigs y) := by
            show digs (t.take (k + 1)) = _
            rw [digs_step t k y HY.out, HD.out]
          have HS2 : Hid (chk (digs (t.take (k + 1))) = C + chk (bdigs y)) := by
            show chk (digs (t.take (k + 1))) = _
            rw [HS.out, chk_append, HC.out]
          have HN2 : Hid ((t.take (k + 1)).length = N + 1) := by
            show (t.take (k + 1)).length = N + 1
            rw [← HN.out]
            simp
            omega
          generalize bdigs y = B at *
          generalize hE : chk B = E at *
          have HE : Hid (chk B = E) := hE
          clear hE
          go_wp2
          go_roundw
          case rel =>
            have q1 : wr.ownsRow w.heap.size 3 1 u3 (digs (t.take (k + 1))).length (ics (digs (t.take (k + 1)))) := by
              rw [digs_length, HN2.out, HS.out]
              exact hown2
            first | exact ⟨k + 1, by omega, by go_num, by rw [HS2.out], q1, hbe2⟩ | ((repeat apply Exists.intro); exact ⟨⟨k + 1, by omega, by go_num, by rw [HS2.out], q1, hbe2⟩, rfl⟩)
          case measure => simp [intOf]; omega
    · have e1 : t.take k = t := List.take_of_length_le (by omega)
      rw [e1] at HD HN
      have HF2 : Hid (F = D ++ cdigs C) := by
        show F = _
        rw [HF.out, HD.out, HC.out]
      clear e1 HF
      go_wp2
      go_loopw [3, 9] (fun v i wr => ∃ j : Nat, j ≤ 5 ∧ i = .int .i64 (8 - 2 * (j : Int)) ∧ wr.ownsRow w.heap.size 3 1 v (4 * N + j) (ics (D ++ (cdigs C).take j)) ∧ Below w.heap.size w wr) (fun _ i _ => (intOf i + 2).toNat)
      case atStart => exact ⟨0, Nat.zero_le _, rfl, by simpa using hown, hbe⟩
      case round =>
        obtain ⟨j, hj, rfl, hown2, hbe2⟩ := hrel
        clear hown hbe
        have hsz2 := hbe2.size
        by_cases hlt4 : j < 5
        · have HS : Hid ((cdigs C).take (j + 1) = (cdigs C).take j ++ [dg C (4 - j)]) := cdigs_step C j hlt4
          have HG : Hid (((C : Int) / 2 ^ (8 - 2 * j)).tmod 4 = ((dg C (4 - j) : Nat) : Int)) := rcg_calc ⟨C, by omega⟩ ⟨j, hlt4⟩
          generalize dg C (4 - j) = G at *
          generalize hX : (cdigs C).take j = X at *
          generalize hZ : (cdigs C).take (j + 1) = Z at *
          have HZ : Hid ((cdigs C).take (j + 1) = Z) := hZ
          clear hX hZ
          go_wp2_with (first | (at_builtin; rw [HG.out]; refine wpList_append_own _ rfl (.tmp 41) (.tmp 46) 95 rfl w.heap.size 3 i0 (.int .i64 0) 1 8 Tryd.underlying95 hi hz0 hz1 hz2 rfl (by decide) _ _ _ rfl (hown2.alloc _) ⟨wr.heap.size, 0, none⟩ 1 1 [.int .i64 (G : Int)] rfl rfl ?ra ?rb ?rc ?rd ?re ?_))
          case ra => exact cell_one_new _ _ _
          case rb => intro u hu; simp at hu; subst hu; rfl
          case rc => unfold maxLen; omega
          case rd => omega
          case re => simp; omega
          intro v3 w3 hown3 hgrow3 _
          have hb3 : Below w.heap.size w w3 := (hbe2.alloc hsz2 _).grown hgrow3 (by simp; omega) (fun k hk => (hown2.lt k hk).1)
          have hown4 : w3.ownsRow w.heap.size 3 1 v3 (4 * N + (j + 1)) (ics (D ++ Z)) := by
            rw [HS.out]
            have := hown3
            simp only [ics, List.map_append, List.map_cons, List.map_nil, ic, List.append_assoc] at this ⊢
            exact this
          clear hown2 hown3 hgrow3 hbe2
          go_wp2
          go_roundw
          case rel => first | exact ⟨j + 1, by omega, by go_num, by rw [HZ.out]; exact hown4, hb3⟩ | ((repeat apply Exists.intro); exact ⟨⟨j + 1, by omega, by go_num, by rw [HZ.out]; exact hown4, hb3⟩, rfl⟩)
          case measure => simp [intOf]; omega
        · obtain rfl : j = 5 := by omega
          rw [show (cdigs C).take 5 = cdigs C from rfl, ← HF2.out] at hown2
          go_wp2
          go_ret
          refine ⟨_, rfl, ?_, hbe2⟩
          have e1 : F.length = 4 * N + 5 := by
            rw [HF2.out, List.length_append, ← HD.out, digs_length, HN.out]
            rfl
          rw [e1]
          exact hown2

end Go.Proofs.YtpnginemjcphcabDoor
