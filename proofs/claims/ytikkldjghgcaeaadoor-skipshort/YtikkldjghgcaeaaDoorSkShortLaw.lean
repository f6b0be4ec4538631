/- What this text proves: the walk of the statement SkipShort over this program: it answers true for any numbers. -/
import Derived.Test.YtikkldjghgcaeaaDoorSkAwake
import Derived.Test.YtikkldjghgcaeaaDoorSkMost
import Derived.Test.YtikkldjghgcaeaaDoorSkIndex
namespace Go.Proofs.YtikkldjghgcaeaaDoor
open Go.RowKit

theorem su64_nat (n : Int) : ∃ U : Nat, IntKind.u64.wrap n = (U : Int) ∧ U < 18446744073709551616 := by
  have e : IntKind.u64.wrap n = n % 18446744073709551616 := by simp [IntKind.wrap, IntKind.bits, IntKind.signed]
  exact ⟨(n % 18446744073709551616).toNat, by rw [e]; omega, by omega⟩

theorem wayI_small (F D : Nat) (hF : F ≤ 1048576) (hD : D ≤ F) : wayI (F : Int) ((F - D : Nat) : Int) = wayN F (F - D) := by
  unfold wayI
  by_cases h : D = 0
  · rw [if_pos (by omega), wayN_at _ _ (by omega)]
  · rw [if_neg (by omega)]
    simp

theorem take_next (W : List Nat) (k c b : Nat) (hc : c < 9223372036854775808) (h : W = W.take k ++ wayN c b) (hk : k < W.length) :
    W[k] = nextN c b ∧ b < c ∧ W = W.take (k + 1) ++ wayN (nextN c b) b := by
  have hd : W.drop k = wayN c b := by
    have h1 : W.take k ++ W.drop k = W.take k ++ wayN c b := by rw [List.take_append_drop]; exact h
    exact List.append_cancel_left h1
  have hbc : b < c := by
    rcases Nat.lt_or_ge b c with h1 | h1
    · exact h1
    · rw [wayN_at c b h1] at hd
      have := congrArg List.length hd
      simp at this
      omega
  rw [wayN_step c b hc hbc, List.drop_eq_getElem_cons hk] at hd
  simp only [List.cons.injEq] at hd
  refine ⟨hd.1, hbc, ?_⟩
  rw [← hd.2, List.take_append_drop]

theorem take_end (W : List Nat) (c b : Nat) (hc : c < 9223372036854775808) (h : W = W ++ wayN c b) (hb : b ≤ c) : c = b := by
  have h1 : (wayN c b).length = 0 := by
    have := congrArg List.length h
    simp at this
    simp [this]
  rcases Nat.lt_or_ge b c with h2 | h2
  · rw [wayN_step c b hc h2] at h1
    simp at h1
  · omega

set_option maxHeartbeats 4000000 in
theorem skShortWalk (a d : Int) (w : World) (hT : TD w) :
    Calls Tryd.prog 4 #[.int .i64 a, .int .i64 d] w fun x w' => x = .returned (.bool true) ∧ Below w.heap.size w w' := by
  obtain ⟨U, hU, hU2⟩ := su64_nat a
  obtain ⟨V, hV, hV2⟩ := su64_nat d
  obtain ⟨F, hF⟩ : ∃ F : Nat, F = U % 1048577 := ⟨_, rfl⟩
  obtain ⟨D, hD⟩ : ∃ D : Nat, D = V % (F + 1) := ⟨_, rfl⟩
  have hF1 : F ≤ 1048576 := by omega
  have hD1 : D ≤ F := by have := Nat.mod_lt V (show F + 1 > 0 by omega); omega
  have eF : (U : Int) % 1048577 = (F : Int) := by omega
  have eD : (V : Int) % ((F : Int) + 1) = (D : Int) := by rw [hD, show ((F : Int) + 1) = ((F + 1 : Nat) : Int) by omega]; exact (Int.natCast_emod V (F + 1)).symm
  have hz : ((F : Int) + 1 == 0) = false := by simp; omega
  have hWF : IntKind.u64.wrap ((F : Int) + 1) = (F : Int) + 1 := by rw [IntKind.wrap_u64]; omega
  clear hF hD
  obtain ⟨B, hB⟩ : ∃ B : Nat, B = F - D := ⟨_, rfl⟩
  have eB : (F : Int) - (D : Int) = (B : Int) := by omega
  have hBF : B ≤ F := by omega
  have hW := way_any (F : Int) (B : Int) w hT
  rw [hB, wayI_small F D hF1 hD1, ← hB] at hW
  have HM : Hid ((wayN F B).length ≤ mostN D) := by
    have := way_short F B (by omega) hBF
    rw [show F - B = D by omega] at this
    exact this
  have hM := fun w => most_any (D : Int) w (by omega)
  unfold mostI at hM
  rw [Int.toNat_natCast] at hM
  have hm64 : mostN D ≤ 1000 := by
    unfold mostN
    split
    · omega
    · have := log2_lt D (by omega) (by omega)
      omega
  generalize mostN D = M at *
  have HS : Hid (wayN F B = (wayN F B).take 0 ++ wayN F B) := by show _ = _; simp
  obtain ⟨W, hWW⟩ : ∃ W, W = wayN F B := ⟨_, rfl⟩
  rw [← hWW] at hW HM
  have HS2 : Hid (W = W.take 0 ++ wayN F B) := by show _ = _; simp [hWW]
  clear hWW HS hB
  have hwl : W.length ≤ 1000 := by have := HM.out; omega
  go_enter Tryd.func4, Tryd.ntmps4
  go_wp2_with fail
  first | rw [eB] | skip
  refine hW.mono ?_
  rintro x w1 ⟨v1, rfl, o1, b1⟩
  have i1 := IA.of_owns o1
  obtain ⟨p1, c1, rfl⟩ := i1.shape
  have t1 := hT.later b1
  clear hW o1 hT hU hV hU2 hV2 eF eD hz hWF
  go_wp2_with fail
  go_loopw [7, 29] (fun v i wr => ∃ (k c : Nat), k ≤ W.length ∧ B ≤ c ∧ c ≤ F ∧ i = .int .i64 (k : Int) ∧ v = .int .i64 (c : Int) ∧ Hid (W = W.take k ++ wayN c B) ∧ Below w1.heap.size w1 wr) (fun _ i _ => W.length - (intOf i).toNat)
  case atStart => exact ⟨0, F, Nat.zero_le _, hBF, Nat.le_refl _, rfl, rfl, HS2, Below.refl _ _⟩
  case round =>
    obtain ⟨k, c, hk, hBc, hcF, rfl, rfl, hcW, hbe⟩ := hrel
    have hsz := hbe.size
    by_cases hlt : k < W.length
    · obtain ⟨hy1, hy2, hy3⟩ := take_next W k c B (by omega) hcW.out hlt
      obtain ⟨hmem, hge⟩ := nextN_mem c B hy2
      have hlt3 := nextN_lt c B (by omega) hy2
      have HR : Hid (W = W.take (k + 1) ++ wayN (nextN c B) B) := hy3
      obtain ⟨g, o, rfl, f1⟩ := (i1.later hbe).addr (by omega)
      have q1 := f1 k W[k] (List.getElem?_eq_getElem hlt)
      rw [hy1] at q1
      have hL := links_any (c : Int) wr (by omega) (t1.later hbe)
      rw [Int.toNat_natCast] at hL
      have HC : Hid (∀ v w, IA w v (linksL c) → Calls Tryd.prog 15 #[v, .int .i64 (nextN c B : Int)] w fun e w' => e = .returned (.bool true) ∧ w' = w) := fun v w h => contains_yes v _ _ w h hmem
      clear hy1 hy3 hcW HM HS2 f1 hmem
      generalize nextN c B = n at *
      generalize linksL c = L at *
      have hlt2 : (k : Int) < (W.length : Int) := by omega
      have hnc : decide ((c : Int) ≤ (n : Int)) = false := by simp; omega
      have hncn : decide (c ≤ n) = false := by simp; omega
      go_wp2_with fail
      refine hL.mono ?_
      rintro x w2 ⟨v2, rfl, o2, b2⟩
      have hC2 := HC.out v2 w2 (IA.of_owns o2)
      have hbe2 := hbe.trans (b2.mono hsz)
      clear hL o2 b2 HC
      go_wp2_with fail
      refine hC2.mono ?_
      rintro x w3 ⟨rfl, hw⟩
      subst hw
      clear hC2
      go_wp2
      go_roundw
      case rel => exact ⟨k + 1, n, by omega, by omega, by omega, by go_num, rfl, HR, hbe2⟩
      case measure => simp [intOf]; omega
    · have e1 := hcW.out
      rw [List.take_of_length_le (by omega)] at e1
      have hcB := take_end W c B (by omega) e1 hBc
      have hMl := HM.out
      clear e1 hcW HM HS2
      subst hcB
      have hle : (W.length : Int) ≤ (M : Int) := by omega
      have t2 := t1.later hbe
      have bA := b1.trans (hbe.mono b1.size)
      go_wp2_with fail
      refine (hM _).mono ?_
      rintro x w2 ⟨rfl, hw⟩
      subst hw
      clear hM
      go_wp2_with fail
      refine (skAwake_any _ t2).mono ?_
      rintro x w3 ⟨rfl, b3⟩
      have bB := bA.trans (b3.mono bA.size)
      go_wp2
      go_ret
      exact ⟨rfl, bB⟩

end Go.Proofs.YtikkldjghgcaeaaDoor
