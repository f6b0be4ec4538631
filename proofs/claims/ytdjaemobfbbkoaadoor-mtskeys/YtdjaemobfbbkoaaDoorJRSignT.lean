/- What this text proves: the walks of the document's Sign and Recover (annalsref05) over this program. -/
import Derived.Test.YtdjaemobfbbkoaaDoorJRKeys
namespace Go.Proofs.YtdjaemobfbbkoaaDoor
open Go.RowKit

theorem ics_at {w : World} {base N b o c : Nat} {ds : List Nat} (h : w.ownsRow base 3 1 (.slice (some ⟨b, o, none⟩) N c) N (ics ds)) (k : Nat) (hk : k < N) : w.cell? ⟨b, o + k, none⟩ = some (.int .i64 ((ds.getD k 0 : Nat) : Int)) := by
  have hl := h.1
  rw [ics_length, Nat.mul_one] at hl
  obtain ⟨b', o', e, f⟩ := (IA.of_owns h).addr (by omega)
  simp only [Option.some.injEq, Addr.mk.injEq, and_true] at e
  obtain ⟨rfl, rfl⟩ := e
  exact f k _ (by rw [List.getD_eq_getElem?_getD, List.getElem?_eq_getElem (by omega)]; rfl)

set_option maxRecDepth 100000 in
set_option maxHeartbeats 4000000 in
theorem rsign_ok (n : Nat) (index : Int) (v u : Value) (seed D : List UInt8) (w : World) (h : HB w v seed) (hD : HB w u D) (hs : D.length = n) (hc : rcanB n index seed.length = true) :
    Calls Tryd.prog 26 #[.int .i64 (n : Int), v, .int .i64 index, u] w fun e w' => ∃ x, e = .returned (.tuple #[x, .int .i64 0]) ∧ PA w' x (signW n seed index D) ∧ Below w.heap.size w w' := by
  obtain ⟨q1, q2, q3, q4, q5⟩ := rcanB_true hc
  obtain ⟨p, c, rfl⟩ := h.shape
  obtain ⟨q, d, rfl⟩ := hD.shape
  have hC := fun w' => rcan_any n index p seed.length c w' (by omega)
  rw [hc] at hC
  have HdL : Hid ((digF D).length = 4 * n + 5) := by
    show (digF D).length = _
    rw [digF_length, hs]
    omega
  have hDg := fun w' h' => rdigits_any (.slice q n d) D w' h' (by omega)
  rw [HdL.out] at hDg
  rw [hs] at hD ⊢
  have HK : Hid (signW n seed index D = (List.range (4 * n + 5)).map (sigC n seed index (digF D))) := rfl
  generalize signW n seed index D = K at *
  clear hs
  generalize digF D = ds at *
  have HS : Hid (∀ (i : Nat) w', HB w' (.slice p seed.length c) seed → Calls Tryd.prog 55 #[.int .i64 (n : Int), .slice p seed.length c, .int .i64 index, .int .i64 (i : Int)] w' fun e w'' => ∃ p c, e = .returned (.slice p (secretF n seed index i).length c) ∧ HB w'' (.slice p (secretF n seed index i).length c) (secretF n seed index i) ∧ Below w'.heap.size w' w'') := fun i w' h' => rsecret_ok n index i (.slice p seed.length c) seed w' h' hc
  have hCh := fun (i : Nat) v w' h' => rchain_ty n index i 0 ((ds.getD i 0 : Nat) : Int) v (secretF n seed index i) w' h' (by have := hashF_len n 6 [seed, numB index, numB i]; unfold secretF; omega) (by omega)
  have HCh : Hid (∀ (i : Nat) v w', HB w' v (secretF n seed index i) → Calls Tryd.prog 54 #[.int .i64 (n : Int), v, .int .i64 index, .int .i64 (i : Int), .int .i64 0, .int .i64 ((ds.getD i 0 : Nat) : Int)] w' fun e w'' => ∃ p c, e = .returned (.slice p (sigC n seed index ds i).length c) ∧ HB w'' (.slice p (sigC n seed index ds i).length c) (sigC n seed index ds i) ∧ Below w'.heap.size w' w'' ∧ TB w'' (.slice p (sigC n seed index ds i).length c)) := hCh
  clear hCh hc
  generalize sigC n seed index ds = sig at *
  obtain ⟨i0, hi0, hz0, hz1, hz2⟩ := info_parts i_bytes
  go_enter Tryd.func26, Tryd.ntmps26
  go_wp2_with fail
  refine (hC _).mono ?_
  rintro e w1 ⟨rfl, hw1⟩
  have hw2 := hw1.symm
  clear hw1
  subst hw2
  go_wp2_with fail
  refine (hDg _ hD).mono ?_
  rintro e w2 ⟨v2, rfl, o2, hb2⟩
  obtain ⟨p2, c2, hv2⟩ := (IA.of_owns o2).shape
  rw [HdL.out] at hv2
  subst hv2
  obtain ⟨bd, od, rfl, _⟩ := (IA.of_owns o2).addr (by omega)
  clear hDg hC hD
  go_wp2
  go_loopw [10, 27] (fun v i wr => ∃ k : Nat, k ≤ 4 * n + 5 ∧ i = .int .i64 k ∧ RS wr w.heap.size v k sig ∧ wr.ownsRow w.heap.size 3 1 (.slice (some ⟨bd, od, none⟩) (4 * n + 5) c2) (4 * n + 5) (ics ds) ∧ Below w.heap.size w wr) (fun _ i _ => 4 * n + 5 - (intOf i).toNat)
  case atStart => exact ⟨0, Nat.zero_le _, rfl, ⟨[], World.ownsRow_nil _ _ _ _, fun j u hu => by simp at hu⟩, o2, hb2⟩
  case round =>
    obtain ⟨k, hk, rfl, hrs, hds, hbe⟩ := hrel
    clear o2 hb2
    by_cases hlt : k < 4 * n + 5
    · have hlt2 : (k : Int) < 4 * (n : Int) + 5 := by omega
      have ck := ics_at hds k hlt
      have hS := HS.out k
      have hCh := HCh.out k
      generalize secretF (n : Int) seed index (k : Int) = S at *
      have hsz := hbe.size
      go_wp2_with fail
      refine (hS _ (h.later hbe)).mono ?_
      rintro e w3 ⟨p3, c3, rfl, h3, hb3⟩
      have hb03 := hbe.trans (hb3.mono hsz)
      have hrs3 := hrs.later hb3
      have hds3 := owns_later hds hb3
      clear hrs hds ck hb3 hS
      go_wp2_with fail
      refine (hCh _ _ h3).mono ?_
      rintro e w4 ⟨p4, c4, rfl, h4, hb4, t4⟩
      have hb04 := hb03.trans (hb4.mono hb03.size)
      have hrs4 := hrs3.later hb4
      have hds4 := owns_later hds3 hb4
      have hsz4 := hb04.size
      clear hrs3 hds3 hb4 hCh h3 hb03 hbe
      have bA := (Below.refl _ w4).alloc (Nat.le_refl _) (.cells #[.slice p4 (sig k).length c4] 22)
      obtain ⟨vs, r1, r2⟩ := hrs4.later bA
      have h5 := h4.later bA
      have t5 := t4.later bA
      have hds5 := owns_later hds4 bA
      have hb05 := hb04.alloc hb04.size (.cells #[.slice p4 (sig k).length c4] 22)
      have hsz5 := hb05.size
      clear hrs4 hds4 h4 t4
      go_wp2_with (first | (at_builtin; refine wpList_append_own _ rfl (.tmp 32) (.tmp 43) 28 rfl w.heap.size 22 i0 (.slice none 0 0) 1 24 Tryd.underlying28 hi0 hz0 hz1 hz2 rfl (by decide) _ _ _ rfl r1 ⟨w4.heap.size, 0, none⟩ 1 1 [.slice p4 (sig k).length c4] rfl rfl ?ra ?rb ?rc ?rd ?re ?_))
      case ra => exact cell_one_new _ _ _
      case rb => intro u hu; simp at hu; subst hu; rfl
      case rc => unfold maxLen; omega
      case rd => omega
      case re => omega
      intro v6 w6 r6 hgrow6 _
      have hb06 : Below w.heap.size w w6 := hb05.grown hgrow6 hsz5 (fun k hk => (r1.lt k hk).1)
      have hrs6 := RS.snoc r1 r2 h5 t5 hgrow6 r6
      have hds6 := hds5.kept hgrow6 (owns_apart hds5 r1 (by decide))
      clear r1 r2 h5 t5 hgrow6 r6 hds5 hb05 hb04
      go_wp2
      go_roundw
      case rel => first | exact ⟨k + 1, by omega, by go_num, hrs6, hds6, hb06⟩ | ((repeat apply Exists.intro); exact ⟨⟨k + 1, by omega, by go_num, hrs6, hds6, hb06⟩, rfl⟩)
      case measure => simp [intOf]; omega
    · obtain rfl : k = 4 * n + 5 := by omega
      have hp := hrs.pa
      rw [← HK.out] at hp
      clear hrs hds
      go_wp2
      go_ret2
      exact ⟨_, rfl, hp, hbe⟩

set_option maxRecDepth 100000 in
set_option maxHeartbeats 1000000 in
theorem rsign_err (size index : Int) (v u : Value) (seed D : List UInt8) (w : World) (h : HB w v seed) (hD : HB w u D) (hbad : rcanB size index seed.length = false ∨ (D.length : Int) ≠ size) :
    Calls Tryd.prog 26 #[.int .i64 size, v, .int .i64 index, u] w fun e w' => e = .returned (.tuple #[.slice none 0 0, .int .i64 1]) ∧ w' = w := by
  have hm := h.len_le
  have hm2 := hD.len_le
  unfold maxLen at hm hm2
  obtain ⟨p, c, rfl⟩ := h.shape
  obtain ⟨q, d, rfl⟩ := hD.shape
  have hC := fun w' => rcan_any size index p seed.length c w' (by omega)
  cases hb : rcanB size index seed.length with
  | false =>
    rw [hb] at hC
    clear hbad
    go_enter Tryd.func26, Tryd.ntmps26
    go_wp2_with fail
    refine (hC _).mono ?_
    rintro e w1 ⟨rfl, hw1⟩
    subst hw1
    go_wp2
    go_ret2
    exact ⟨rfl, rfl⟩
  | true =>
    rw [hb] at hC
    have hdl : ¬ (D.length : Int) = size := by
      rcases hbad with h | h
      · rw [hb] at h; cases h
      · exact h
    have hdl2 : ((D.length : Int) != size) = true := by simpa using hdl
    clear hbad hb hdl
    go_enter Tryd.func26, Tryd.ntmps26
    go_wp2_with fail
    refine (hC _).mono ?_
    rintro e w1 ⟨rfl, hw1⟩
    subst hw1
    go_wp2
    go_ret2
    exact ⟨rfl, rfl⟩

end Go.Proofs.YtdjaemobfbbkoaaDoor
