/- What this text proves: the walks of sha.Cut and texts.Hash over this program; the answer lies in a block of bytes. What this text proves: the walk of wots.Key over this program; the key lies in a block of bytes. What this text holds: a row of rows of bytes that the call owns, each in a block of bytes (plain facts): it stays, it grows, it is read. -/
import Derived.Test.YtdjaemobfbbkoaaDoorJHashC
import Derived.Test.YtdjaemobfbbkoaaDoorJCutR
import Derived.Test.YtdjaemobfbbkoaaDoorJWKey
namespace Go.Proofs.YtdjaemobfbbkoaaDoor
open Go.RowKit

set_option maxRecDepth 100000 in
set_option maxHeartbeats 1000000 in
theorem cut_ty (n : Int) (v : Value) (D : List UInt8) (w : World) (hD : D.length = 32) (hsum : Calls Tryd.prog 83 #[v] w fun e w' => ∃ v', e = .returned v' ∧ w'.ownsRow w.heap.size 5 1 v' 32 (bcs D) ∧ Below w.heap.size w w') :
    Calls Tryd.prog 74 #[.int .i64 n, v] w fun e w' => ∃ p c, e = .returned (.slice p (cutLen n) c) ∧ HB w' (.slice p (cutLen n) c) (D.take (cutLen n)) ∧ Below w.heap.size w w' ∧ TB w' (.slice p (cutLen n) c) := by
  have HS : Hid (Calls Tryd.prog 83 #[v] w fun e w' => ∃ v', e = .returned v' ∧ w'.ownsRow w.heap.size 5 1 v' 32 (bcs D) ∧ Below w.heap.size w w') := hsum
  have HD : Hid (D.length = 32) := hD
  clear hsum hD
  by_cases h : n < 1
  · have hc : cutLen n = 0 := by unfold cutLen; omega
    rw [hc]
    clear HS hc
    go_enter Tryd.func74, Tryd.ntmps74
    go_wp2
    go_ret
    exact ⟨none, 0, rfl, HB.nil _, Below.refl _ _, TB.nil _ _ _⟩
  · by_cases h32 : 32 < n
    · have hc : cutLen n = 32 := by unfold cutLen; omega
      rw [hc]
      clear hc
      go_enter Tryd.func74, Tryd.ntmps74
      go_wp2_with fail
      refine HS.out.mono ?_
      rintro e w1 ⟨v1, rfl, hown1, hb1⟩
      have s1 := HB.of_owns hown1
      obtain ⟨p1, c1, hv1⟩ := owns_shape hown1
      subst hv1
      have t1 := TB.of_owns hown1
      have hl := s1.len.2.1
      have hmx := s1.len.2.2.1
      have s2 := s1.cut 0 32 32 (by omega) (by omega) (by omega) hl
      have e1 : cutP p1 32 0 = p1 := by unfold cutP; cases p1 <;> simp [Addr.add]
      rw [e1, Nat.sub_zero, List.drop_zero] at s2
      have HS2 : Hid (HB w1 (.slice p1 32 32) (D.take 32)) := s2
      clear hown1 HS s2 e1 s1
      go_wp2
      go_ret
      exact ⟨_, _, rfl, HS2.out, hb1, t1.front _ _⟩
    · obtain ⟨m, hm⟩ : ∃ m : Nat, (m : Int) = n := ⟨n.toNat, by omega⟩
      have hc : cutLen n = m := by unfold cutLen; omega
      rw [hc]
      subst hm
      have hle : m ≤ 32 := by omega
      have hle2 : (m : Int) ≤ 32 := by omega
      clear hc h32
      go_enter Tryd.func74, Tryd.ntmps74
      go_wp2_with fail
      refine HS.out.mono ?_
      rintro e w1 ⟨v1, rfl, hown1, hb1⟩
      have s1 := HB.of_owns hown1
      obtain ⟨p1, c1, hv1⟩ := owns_shape hown1
      subst hv1
      have t1 := TB.of_owns hown1
      have hl := s1.len.2.1
      have hmx := s1.len.2.2.1
      have s2 := s1.cut 0 m m (by omega) (by omega) (by omega) (by omega)
      have e1 : cutP p1 m 0 = p1 := by unfold cutP; cases p1 <;> simp [Addr.add]
      rw [e1, Nat.sub_zero, List.drop_zero] at s2
      have HS2 : Hid (HB w1 (.slice p1 m m) (D.take m)) := s2
      have hmc : (m : Int) ≤ (c1 : Int) := by omega
      clear hown1 HS s2 e1 s1
      go_wp2_with fail
      go_ret
      exact ⟨_, _, rfl, HS2.out, hb1, t1.front _ _⟩

set_option maxRecDepth 100000 in
set_option maxHeartbeats 1000000 in
theorem hash_ty (size tag er : Int) (v : Value) (L D : List UInt8) (w : World) (hv : ∃ p n c, v = .slice p n c) (hD : D.length = 32)
    (ht : Calls Tryd.prog 73 #[.int .i64 tag, v] w fun e w' => ∃ p c, e = .returned (.tuple #[.slice p L.length c, .int .i64 er]) ∧ HB w' (.slice p L.length c) L ∧ Below w.heap.size w w')
    (hs : ∀ v w', HB w' v L → Below w.heap.size w w' → Calls Tryd.prog 83 #[v] w' fun e w'' => ∃ v', e = .returned v' ∧ w''.ownsRow w'.heap.size 5 1 v' 32 (bcs D) ∧ Below w'.heap.size w' w'') :
    Calls Tryd.prog 59 #[.int .i64 size, .int .i64 tag, v] w fun e w' => ∃ p c, e = .returned (.slice p (hashL size er D).length c) ∧ HB w' (.slice p (hashL size er D).length c) (hashL size er D) ∧ Below w.heap.size w w' ∧ TB w' (.slice p (hashL size er D).length c) := by
  obtain ⟨p, n, c, rfl⟩ := hv
  have HT : Hid (Calls Tryd.prog 73 #[.int .i64 tag, .slice p n c] w fun e w' => ∃ p c, e = .returned (.tuple #[.slice p L.length c, .int .i64 er]) ∧ HB w' (.slice p L.length c) L ∧ Below w.heap.size w w') := ht
  have HS : Hid _ := hs
  have HD : Hid (D.length = 32) := hD
  clear ht hs hD
  by_cases h0 : er = 0
  · subst h0
    have hl : hashL size 0 D = D.take (cutLen size) := by simp [hashL]
    rw [hl]
    clear hl
    have HL : Hid ((D.take (cutLen size)).length = cutLen size) := by
      have := cutLen_le size
      show _ = _
      rw [List.length_take, HD.out]
      omega
    go_enter Tryd.func59, Tryd.ntmps59
    go_wp2_with fail
    refine HT.out.mono ?_
    rintro e w1 ⟨p1, c1, rfl, h1, hb1⟩
    go_wp2_with fail
    refine (cut_ty _ _ _ _ HD.out (HS.out _ _ h1 hb1)).mono ?_
    rintro e w2 ⟨p2, c2, rfl, h2, hb2, t2⟩
    have HH : Hid (HB w2 (.slice p2 (cutLen size) c2) (D.take (cutLen size))) := h2
    clear h1 h2 HT HS
    go_wp2
    go_ret
    refine ⟨p2, c2, ?_, ?_, hb1.trans (hb2.mono hb1.size), t2.front _ _⟩
    · rw [HL.out]; rfl
    · rw [HL.out]; exact HH.out
  · have hl : hashL size er D = [] := by simp [hashL, h0]
    rw [hl]
    clear hl HS HD
    go_enter Tryd.func59, Tryd.ntmps59
    go_wp2_with fail
    refine HT.out.mono ?_
    rintro e w1 ⟨p1, c1, rfl, h1, hb1⟩
    clear HT h1
    go_wp2
    go_ret
    exact ⟨none, 0, rfl, HB.nil _, hb1, TB.nil _ _ _⟩

theorem hash_toT (size : Int) (tag : Nat) (v : Value) (ls : List (List UInt8)) (w : World) (hn : ls.length ≤ 10) (ht : tag ≤ 255) (h : PA w v ls) (hT : Tabs w) :
    Calls Tryd.prog 59 #[.int .i64 size, .int .i64 (tag : Int), v] w fun e w' => ∃ p c, e = .returned (.slice p (hashF size tag ls).length c) ∧ HB w' (.slice p (hashF size tag ls).length c) (hashF size tag ls) ∧ Below w.heap.size w w' ∧ TB w' (.slice p (hashF size tag ls).length c) := by
  obtain ⟨p, c, hv⟩ := h.shape
  by_cases hf : fits ls
  · have hle := body_le ls hf
    have e1 : hashF size tag ls = hashL size 0 (sha (UInt8.ofNat tag :: body ls)) := by
      unfold hashF hashL
      rw [if_pos (show ∀ p ∈ ls, p.length ≤ 65535 from hf), if_pos rfl]
    rw [e1]
    have hl : (UInt8.ofNat tag :: body ls).length ≤ 140737488355328 := by simp; omega
    refine hash_ty size tag 0 v (UInt8.ofNat tag :: body ls) _ w ⟨p, _, c, hv⟩ (sha_length _) ?_ ?_
    · refine (text_ok tag v ls w (by omega) (by omega) h (by omega) hf).mono fun e w' ⟨v', he, ho, hb⟩ => ?_
      have hh := HB.of_owns ho
      obtain ⟨p, c, hv⟩ := hh.shape
      subst hv
      exact ⟨p, c, he, hh, hb⟩
    · intro v w' hv hb
      exact sum_any v _ w' hv hl (hT.later hb)
  · have e1 : hashF size tag ls = hashL size 4 (sha []) := by
      unfold hashF hashL
      rw [if_neg (show ¬ ∀ p ∈ ls, p.length ≤ 65535 from hf), if_neg (by decide)]
    rw [e1]
    refine hash_ty size tag 4 v [] _ w ⟨p, _, c, hv⟩ (sha_length _) ?_ ?_
    · exact (text_full tag v ls w (by omega) (by omega) h (by omega) hf).mono fun e w' ⟨he, hw⟩ => ⟨none, 0, he, HB.nil _, by subst hw; exact Below.refl _ _⟩
    · intro v w' hv hb
      exact sum_any v _ w' hv (by simp) (hT.later hb)

end Go.Proofs.YtdjaemobfbbkoaaDoor

namespace Go.Proofs.YtdjaemobfbbkoaaDoor
open Go.RowKit

set_option maxRecDepth 100000 in
set_option maxHeartbeats 4000000 in
theorem closedK_ty (n : Nat) (index : Int) (q1 q2 q3 : Value) (E : Nat → List UInt8) (w : World) (hn : 1 ≤ n) (hn2 : n ≤ 32) (hE : ∀ i, (E i).length ≤ n) (hT : Tabs w)
    (hf : ∀ (i : Nat) w', i < 4 * n + 5 → Below w.heap.size w w' → Calls Tryd.prog 82 #[.int .i64 (i : Int), q1, q2, q3] w' fun e w'' => ∃ p c, e = .returned (.slice p (E i).length c) ∧ HB w'' (.slice p (E i).length c) (E i) ∧ Below w'.heap.size w' w'') :
    Calls Tryd.prog 57 #[.int .i64 (n : Int), .int .i64 index, .func (.func 82) #[] #[q1, q2, q3]] w fun e w' => ∃ p c, e = .returned (.slice p (hashF n 8 [numB index, endsF E (4 * n + 5)]).length c) ∧ HB w' (.slice p (hashF n 8 [numB index, endsF E (4 * n + 5)]).length c) (hashF n 8 [numB index, endsF E (4 * n + 5)]) ∧ Below w.heap.size w w' ∧ TB w' (.slice p (hashF n 8 [numB index, endsF E (4 * n + 5)]).length c) := by
  have hA := fun w' => number_to index w'
  obtain ⟨Y, hY⟩ : ∃ Y, Y = hashF n 8 [numB index, endsF E (4 * n + 5)] := ⟨_, rfl⟩
  have HY : Hid (Y = hashF n 8 [numB index, endsF E (4 * n + 5)]) := hY
  rw [← hY]
  clear hY
  have hCC := fun w' => chaincount_any n w' (by omega)
  obtain ⟨i0, hi, hz0, hz1, hz2⟩ := info_parts i_u8
  have hEL := fun k => endsF_len E n hE k
  have HEL : Hid (∀ k, (endsF E k).length ≤ k * n) := hEL
  have HEn : Hid (∀ i, (E i).length ≤ n) := hE
  have HE1 : Hid (∀ k, endsF E (k + 1) = endsF E k ++ E k) := fun _ => rfl
  have HE0 : Hid (endsF E 0 = []) := rfl
  have HF : Hid (∀ (i : Nat) w', i < 4 * n + 5 → Below w.heap.size w w' → Calls Tryd.prog 82 #[.int .i64 (i : Int), q1, q2, q3] w' fun e w'' => ∃ p c, e = .returned (.slice p (E i).length c) ∧ HB w'' (.slice p (E i).length c) (E i) ∧ Below w'.heap.size w' w'') := hf
  clear hE hEL hf
  generalize numB index = A at *
  generalize endsF E = EE at *
  go_enter Tryd.func57, Tryd.ntmps57
  go_wp2_with fail
  refine (hCC _).mono ?_
  rintro e w1 ⟨rfl, hw1⟩
  have hw2 := hw1.symm
  clear hw1
  subst hw2
  have hmul : (4 * (n : Int) + 5) * (n : Int) = (((4 * n + 5) * n : Nat) : Int) := by push_cast; rfl
  have hmulb : (4 * n + 5) * n ≤ 5000 := by
    have := Nat.mul_le_mul (show 4 * n + 5 ≤ 133 by omega) hn2
    omega
  generalize (4 * n + 5) * n = P at *
  go_wp2_with (first | (at_make; refine wpList_make_own _ rfl _ _ 22 rfl w.heap.size 5 i0 (.int .u8 0) 1 Tryd.underlying22 hi hz0 hz1 .i64 .i64 _ P rfl rfl ?qa ?qb ?qc ?qd ?_))
  all_goals (try (first | omega | (rw [hz2]; omega) | (unfold maxLen; omega)))
  intro w1 hown1 hgrow1
  have hb1 : Below w.heap.size w w1 := (Below.refl _ w).grown hgrow1 (Nat.le_refl _) (by intro k hk; cases hk)
  have hown2 : w1.ownsRow w.heap.size 5 1 (.slice (some ⟨w.heap.size, 0, none⟩) 0 P) (EE 0).length (bcs (EE 0)) := by
    rw [HE0.out]
    simpa [bcs] using hown1
  clear hown1 hgrow1
  go_wp2_with fail
  refine (hCC _).mono ?_
  rintro e w2 ⟨rfl, hw1⟩
  have hw2 := hw1.symm
  clear hw1
  subst hw2
  go_wp2
  go_loopw [7, 16] (fun v i wr => ∃ k : Nat, k ≤ 4 * n + 5 ∧ i = .int .i64 k ∧ wr.ownsRow w.heap.size 5 1 v (EE k).length (bcs (EE k)) ∧ Below w.heap.size w wr) (fun _ i _ => 4 * n + 5 - (intOf i).toNat)
  case atStart => exact ⟨0, Nat.zero_le _, rfl, hown2, hb1⟩
  case round =>
    obtain ⟨k, hk, rfl, hown, hbe⟩ := hrel
    clear hown2 hb1
    by_cases hlt : k < 4 * n + 5
    · have hlt2 : (k : Int) < 4 * (n : Int) + 5 := by omega
      have hEk := HEL.out k
      have hEn := HEn.out k
      have hkn : k * n ≤ 5000 := by
        have := Nat.mul_le_mul (show k ≤ 133 by omega) hn2
        omega
      have hcall := HF.out k wr hlt hbe
      have HS : Hid (EE (k + 1) = EE k ++ E k) := HE1.out k
      generalize E k = Z at *
      generalize hX : EE k = X at *
      have HX : Hid (EE k = X) := hX
      clear hX
      have hsz := hbe.size
      go_wp2_with fail
      refine hcall.mono ?_
      rintro e w3 ⟨p3, c3, rfl, h3, hb3⟩
      have hown3 := owns_later hown hb3
      have hb03 := hbe.trans (hb3.mono hsz)
      have hsz3 := hb03.size
      clear hcall hown hb3
      go_wp2_with (first | (at_builtin; refine wpList_append_hb rfl (.tmp 19) (.tmp 22) 22 rfl w.heap.size 5 Tryd.underlying22 i_u8 _ _ _ rfl hown3 _ _ _ Z rfl h3 ?sa ?sb ?_))
      case sa => omega
      case sb => omega
      intro v4 w4 hown4 hgrow4
      have hb4 : Below w.heap.size w w4 := hb03.grown hgrow4 hsz3 (fun k hk => (hown3.lt k hk).1)
      have hown5 : w4.ownsRow w.heap.size 5 1 v4 (EE (k + 1)).length (bcs (EE (k + 1))) := by
        rw [HS.out, List.length_append, bcs_append]
        exact hown4
      clear hown4 hown3 hgrow4 hb03 h3
      go_wp2
      go_roundw
      case rel => first | exact ⟨k + 1, by omega, by go_num, hown5, hb4⟩ | ((repeat apply Exists.intro); exact ⟨⟨k + 1, by omega, by go_num, hown5, hb4⟩, rfl⟩)
      case measure => simp [intOf]; omega
    · obtain rfl : k = 4 * n + 5 := by omega
      have hEk := HEL.out (4 * n + 5)
      have h2 := HB.of_owns hown
      obtain ⟨p2, c2, rfl⟩ := h2.shape
      generalize EE (4 * n + 5) = Z at *
      clear hown
      have hTr := hT.later hbe
      go_wp2_with fail
      refine (hA _).mono ?_
      rintro e w3 ⟨p3, c3, rfl, h3, hb3⟩
      have hb03 := hbe.trans (hb3.mono hbe.size)
      have g2 := h2.later hb3
      have hT3 := hTr.later hb3
      clear h2 hb3 hbe hTr
      go_wp2_with fail
      have hbA : Below w.heap.size w (w3.alloc (.cells #[.slice p3 8 c3, .slice p2 Z.length c2] 22)) := hb03.alloc hb03.size _
      refine (hash_toT n 8 _ [A, Z] _ (by simp) (by decide) (PA.lit w3 22 [_, _] _ 2 rfl rfl (by decide) (two_hb h3 g2)) (hT3.later ((Below.refl _ w3).alloc (Nat.le_refl _) _))).mono ?_
      rintro e w6 ⟨p6, c6, rfl, h6, hb6, t6⟩
      rw [← HY.out] at h6 t6 ⊢
      have hb06 : Below w.heap.size w w6 := hbA.trans (hb6.mono hbA.size)
      go_wp2
      go_ret
      exact ⟨_, _, rfl, h6, hb06, t6⟩

set_option maxRecDepth 100000 in
set_option maxHeartbeats 2000000 in
theorem key_ty (n : Nat) (index : Int) (v : Value) (seed : List UInt8) (w : World) (h : HB w v seed) (hs : seed.length ≤ 64) (hn : 1 ≤ n) (hn2 : n ≤ 32) (hi : 0 ≤ index) (hi2 : index < 256) (hT : Tabs w) :
    Calls Tryd.prog 72 #[.int .i64 (n : Int), v, .int .i64 index] w fun e w' => ∃ p c, e = .returned (.tuple #[.slice p (keyW n seed index).length c, .int .i64 0]) ∧ HB w' (.slice p (keyW n seed index).length c) (keyW n seed index) ∧ Below w.heap.size w w' ∧ TB w' (.slice p (keyW n seed index).length c) := by
  obtain ⟨p, c, rfl⟩ := h.shape
  have hc : canB n index = true := by simp [canB]; omega
  have hC := fun w' => can_any n index w'
  rw [hc] at hC
  clear hc
  have hs2 : (seed.length : Int) ≤ 64 := by omega
  have HK : Hid (keyW n seed index = hashF n 8 [numB index, endsF (endK n seed index) (4 * n + 5)]) := rfl
  generalize keyW n seed index = K at *
  go_enter Tryd.func72, Tryd.ntmps72
  go_wp2_with fail
  refine (hC _).mono ?_
  rintro e w1 ⟨rfl, hw1⟩
  subst hw1
  go_wp2_with fail
  have b1 : Below w.heap.size w (w.alloc (.cells #[.int .i64 (n : Int)] 3)) := (Below.refl _ w).alloc (Nat.le_refl _) _
  have b2 : Below w.heap.size w ((w.alloc (.cells #[.int .i64 (n : Int)] 3)).alloc (.cells #[.slice p seed.length c] 22)) := b1.alloc b1.size _
  have b3 := b2.alloc b2.size (.cells #[.int .i64 index] 3)
  have e1 : (((w.alloc (.cells #[.int .i64 (n : Int)] 3)).alloc (.cells #[.slice p seed.length c] 22)).alloc (.cells #[.int .i64 index] 3)).cell? ⟨w.heap.size, 0, none⟩ = some (.int .i64 (n : Int)) := by
    exact cell_later (((Below.refl _ _).alloc (Nat.le_refl _) _).alloc (by simp) _) (cell_box_at w _ _ _ rfl)
  have e2 : (((w.alloc (.cells #[.int .i64 (n : Int)] 3)).alloc (.cells #[.slice p seed.length c] 22)).alloc (.cells #[.int .i64 index] 3)).cell? ⟨w.heap.size + 1, 0, none⟩ = some (.slice p seed.length c) := by
    exact cell_later ((Below.refl _ _).alloc (Nat.le_refl _) _) (cell_box_at _ _ _ _ (by simp))
  have e3 : (((w.alloc (.cells #[.int .i64 (n : Int)] 3)).alloc (.cells #[.slice p seed.length c] 22)).alloc (.cells #[.int .i64 index] 3)).cell? ⟨w.heap.size + 1 + 1, 0, none⟩ = some (.int .i64 index) := by
    exact cell_box_at _ _ _ _ (by simp)
  generalize ((w.alloc (.cells #[.int .i64 (n : Int)] 3)).alloc (.cells #[.slice p seed.length c] 22)).alloc (.cells #[.int .i64 index] 3) = wa at *
  refine (closedK_ty n index _ _ _ (endK n seed index) wa hn hn2 (fun i => endK_le n hn2 seed index i) (hT.later b3) (fun i w' _ hb => keyf_any n index i p c _ _ _ seed w' ((h.later b3).later hb) ((hT.later b3).later hb) (cell_later hb e1) (cell_later hb e2) (cell_later hb e3))).mono ?_
  rintro e w4 ⟨p4, c4, rfl, h4, hb4, t4⟩
  rw [← HK.out] at h4 t4 ⊢
  have hb04 : Below w.heap.size w w4 := b3.trans (hb4.mono b3.size)
  go_wp2
  go_ret2
  exact ⟨_, _, rfl, h4, hb04, t4⟩

end Go.Proofs.YtdjaemobfbbkoaaDoor

namespace Go.Proofs.YtdjaemobfbbkoaaDoor
open Go.RowKit

/-- A row of k rows of bytes that the call owns, made by appends. -/
def RS (w : World) (base : Nat) (v : Value) (k : Nat) (sig : Nat → List UInt8) : Prop :=
  ∃ vs : List Value, w.ownsRow base 22 1 v k vs ∧ ∀ (j : Nat) u, vs[j]? = some u → HB w u (sig j) ∧ TB w u

theorem RS.later {w w' : World} {base k : Nat} {v : Value} {sig : Nat → List UInt8} (h : RS w base v k sig) (hb : Below w.heap.size w w') : RS w' base v k sig := by
  obtain ⟨vs, h1, h2⟩ := h
  exact ⟨vs, owns_later h1 hb, fun j u hu => ⟨(h2 j u hu).1.later hb, (h2 j u hu).2.later hb⟩⟩

/-- Bytes in a block of bytes stay where a row of rows grew. -/
theorem hb_grown {w w' : World} {base n : Nat} {v u : Value} {vs : List Value} {l : List UInt8} (ho : w.ownsRow base 22 1 v n vs) (hg : w.grownBy w' v.ownBlock) (h : HB w u l) (t : TB w u) : HB w' u l ∧ TB w' u := by
  have hne : ∀ b o n c, u = .slice (some ⟨b, o, none⟩) n c → some b ≠ v.ownBlock := by
    intro b o n' c e he
    obtain ⟨cur, fr, hb⟩ := t b o n' c e
    rcases ho.2 with ⟨rfl, _⟩ | ⟨g, cap, cur', rfl, _, hg', _⟩
    · simp [Value.ownBlock] at he
    · simp only [Value.ownBlock, Option.some.injEq] at he
      subst he
      rw [hb] at hg'
      simp only [Option.some.injEq, Obj.cells.injEq] at hg'
      exact absurd hg'.2.1 (by decide)
  constructor
  · obtain ⟨p, c, rfl⟩ := h.shape
    by_cases hn : l = []
    · subst hn
      have := h.len
      exact HB.empty _ p c this.2.2.1 this.2.2.2
    · obtain ⟨b, o, rfl, hc⟩ := h.addr (List.length_pos_iff.2 hn)
      have hl := h.len
      refine ⟨_, c, rfl, hl.2.1, hl.2.2.1, hl.2.2.2, fun _ => ⟨b, o, rfl, fun i x hx => hg.cell (hc i x hx) (hne b o _ _ rfl)⟩⟩
  · intro b o n' c e
    obtain ⟨cur, fr, hb⟩ := t b o n' c e
    exact ⟨cur, fr, by rw [hg.block b (Array.getElem?_eq_some_iff.1 hb).1 (hne b o n' c e)]; exact hb⟩

theorem RS.snoc {w w' : World} {base k : Nat} {v v' x : Value} {vs : List Value} {sig : Nat → List UInt8} (h1 : w.ownsRow base 22 1 v k vs) (h2 : ∀ (j : Nat) u, vs[j]? = some u → HB w u (sig j) ∧ TB w u) (hx : HB w x (sig k)) (tx : TB w x)
    (hg : w.grownBy w' v.ownBlock) (ho : w'.ownsRow base 22 1 v' (k + 1) (vs ++ [x])) : RS w' base v' (k + 1) sig := by
  refine ⟨vs ++ [x], ho, fun j u hu => ?_⟩
  have hl := h1.1
  rw [Nat.mul_one] at hl
  by_cases hj : j < k
  · rw [List.getElem?_append_left (by omega)] at hu
    exact hb_grown h1 hg (h2 j u hu).1 (h2 j u hu).2
  · rw [List.getElem?_append_right (by omega), hl] at hu
    cases hjk : j - k with
    | zero =>
      rw [hjk] at hu
      simp at hu
      subst hu
      obtain rfl : j = k := by omega
      exact hb_grown h1 hg hx tx
    | succ m => rw [hjk] at hu; simp at hu

theorem RS.pa {w : World} {base N : Nat} {v : Value} {sig : Nat → List UInt8} (h : RS w base v N sig) : PA w v ((List.range N).map sig) := by
  obtain ⟨vs, h1, h3⟩ := h
  have hl := h1.1
  rw [Nat.mul_one] at hl
  obtain ⟨_, q⟩ := h1
  have hel : ∀ (i : Nat) x l, vs[i]? = some x → ((List.range N).map sig)[i]? = some l → HB w x l := by
    intro i x l hx hl'
    have hi : i < vs.length := (List.getElem?_eq_some_iff.1 hx).1
    have e2 : l = sig i := by
      rw [List.getElem?_map, List.getElem?_range (by omega)] at hl'
      simpa using hl'.symm
    rw [e2]
    exact (h3 i x hx).1
  rcases q with ⟨rfl, h0⟩ | ⟨g, cap, cur, rfl, hb, hg, hle, hm, hsz, ht⟩
  · subst h0
    exact PA.nil w
  · refine ⟨_, cap, vs, by simp, by simpa using hle, hm, (fun h => by cases h), by simp [hl], fun _ => ⟨g, 0, rfl, fun i x hx => ?_⟩, hel⟩
    rw [Nat.zero_add, cell_of_row w g i cur 22 (0, 0) hg]
    have hi : i < vs.length := (List.getElem?_eq_some_iff.1 hx).1
    rw [← ht, List.getElem?_take, if_pos (by omega)] at hx
    simpa using hx

end Go.Proofs.YtdjaemobfbbkoaaDoor
