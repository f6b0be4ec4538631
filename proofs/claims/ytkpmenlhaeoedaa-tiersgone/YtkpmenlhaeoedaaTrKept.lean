/- What this text proves: the walks of tiers.Kept and of the document's Kept over this program. -/
import Derived.Test.YtkpmenlhaeoedaaTrNear
namespace Go.Proofs.Ytkpmenlhaeoedaa
open Go.RowKit

theorem i_intT : (Try.prog.info? 3).map (fun i => (i.zero, i.size, i.bytes)) = some (some (.int .i64 0), 1, 8) := by kernel_rfl

/-- Those of the epochs below k that are retained behind l. -/
def ktI (l : Int) (k : Nat) : List Nat := (List.range k).filter (fun e => kpB l (e : Int))

/-- All that are retained. -/
def keptI (l : Int) : List Nat := if 1048576 < l then [] else ktI l (l + 1).toNat

theorem ktI_yes {l : Int} {k : Nat} (h : kpB l (k : Int) = true) : ktI l (k + 1) = ktI l k ++ [k] := by
  unfold ktI
  rw [List.range_succ, List.filter_append]
  simp [h]

theorem ktI_no {l : Int} {k : Nat} (h : kpB l (k : Int) = false) : ktI l (k + 1) = ktI l k := by
  unfold ktI
  rw [List.range_succ, List.filter_append]
  simp [h]

theorem ktI_len (l : Int) (k : Nat) : (ktI l k).length ≤ k := by
  unfold ktI
  have := List.length_filter_le (fun e : Nat => kpB l (e : Int)) (List.range k)
  simpa using this

set_option maxRecDepth 100000 in
set_option maxHeartbeats 2000000 in
theorem kept_any (l : Int) (hl0 : -9223372036854775808 ≤ l) (w : World) :
    Calls Try.prog 12 #[.int .i64 l] w fun x w' => ∃ v, x = .returned v ∧ IA w' v (keptI l) ∧ Below w.heap.size w w' := by
  by_cases h1 : 1048576 < l
  · have hE : keptI l = [] := if_pos h1
    rw [hE]
    go_enter Try.func12, Try.ntmps12
    go_wp2
    go_ret
    exact ⟨_, rfl, ⟨none, 0, rfl, Nat.le_refl _, Nat.zero_le _, fun h => absurd rfl h⟩, Below.refl _ _⟩
  · have hE : keptI l = ktI l (l + 1).toNat := if_neg h1
    rw [hE]
    clear hE
    obtain ⟨N, hN⟩ : ∃ N, (l + 1).toNat = N := ⟨_, rfl⟩
    rw [hN]
    have hNl : ∀ k : Nat, k < N ↔ (k : Int) < l + 1 := by intro k; omega
    have hN2 : N ≤ 1048577 := by omega
    have HN : Hid (∀ k : Nat, k < N ↔ (k : Int) < l + 1) := hNl
    clear hN hNl
    have hc : ∀ (k : Nat) (w : World), Calls Try.prog 6 #[.int .i64 l, .int .i64 (k : Int)] w fun x w' => x = .returned (.bool (kpB l (k : Int))) ∧ Below w.heap.size w w' := fun k w => keeps_any l k (by omega) w
    obtain ⟨i0, hi, hz0, hz1, hz2⟩ := info_parts i_intT
    go_enter Try.func12, Try.ntmps12
    go_wp2
    go_loopw [3, 9] (fun v i wr => ∃ k : Nat, k ≤ N ∧ i = .int .i64 (k : Int) ∧ wr.ownsRow w.heap.size 3 1 v (ktI l k).length (ics (ktI l k)) ∧ Below w.heap.size w wr) (fun _ i _ => N - (intOf i).toNat)
    case atStart => exact ⟨0, Nat.zero_le _, rfl, World.ownsRow_nil _ _ _ _, Below.refl _ _⟩
    case round =>
      obtain ⟨k, hk, rfl, hown, hbe⟩ := hrel
      have hsz := hbe.size
      by_cases hlt : k < N
      · have hlt2 : (k : Int) < l + 1 := (HN.out k).1 hlt
        have hC := hc k wr
        have Hy : Hid (kpB l (k : Int) = true → ktI l (k + 1) = ktI l k ++ [k]) := ktI_yes
        have Hn : Hid (kpB l (k : Int) = false → ktI l (k + 1) = ktI l k) := ktI_no
        have hlen := ktI_len l k
        generalize kpB l (k : Int) = b at *
        generalize ktI l k = L at *
        generalize hL' : ktI l (k + 1) = L' at *
        clear hc
        go_wp2_with fail
        refine hC.mono ?_
        rintro x w2 ⟨rfl, b2⟩
        have hbe2 := hbe.trans (b2.mono hsz)
        have hown2 := owns_later hown b2
        have hsz2 := hbe2.size
        clear hC hown hbe b2
        cases b with
        | true =>
          have eL := Hy.out rfl
          clear Hy Hn
          go_wp2_with (first | (at_builtin; refine wpList_append_own _ rfl (.tmp 15) (.tmp 17) 26 rfl w.heap.size 3 i0 (.int .i64 0) 1 8 Try.underlying26 hi hz0 hz1 hz2 rfl (by decide) _ _ _ rfl (hown2.alloc _) ⟨w2.heap.size, 0, none⟩ 1 1 [.int .i64 (k : Int)] rfl rfl ?ra ?rb ?rc ?rd ?re ?_))
          case ra => exact cell_one_new _ _ _
          case rb => intro u hu; simp at hu; subst hu; rfl
          case rc => unfold maxLen; omega
          case rd => omega
          case re => simp; omega
          intro v3 w3 hown3 hgrow3 _
          have hb3 : Below w.heap.size w w3 := (hbe2.alloc hsz2 _).grown hgrow3 (by simp; omega) (fun k hk => (hown2.lt k hk).1)
          have hown4 : w3.ownsRow w.heap.size 3 1 v3 (L ++ [k]).length (ics (L ++ [k])) := by
            have := hown3
            simp only [ics, List.map_append, List.map_cons, List.map_nil, ic, List.length_append, List.length_cons, List.length_nil] at this ⊢
            exact this
          rw [← eL, ← hL'] at hown4
          clear hown2 hown3 hgrow3 hbe2 eL hL'
          go_wp2
          go_roundw
          case rel => first | exact ⟨k + 1, by omega, by go_num, hown4, hb3⟩ | ((repeat apply Exists.intro); exact ⟨⟨k + 1, by omega, by go_num, hown4, hb3⟩, rfl⟩)
          case measure => simp [intOf]; omega
        | false =>
          have eL := Hn.out rfl
          rw [← eL, ← hL'] at hown2
          clear Hy Hn eL hL'
          go_wp2
          go_roundw
          case rel => first | exact ⟨k + 1, by omega, by go_num, hown2, hbe2⟩ | ((repeat apply Exists.intro); exact ⟨⟨k + 1, by omega, by go_num, hown2, hbe2⟩, rfl⟩)
          case measure => simp [intOf]; omega
      · obtain rfl : k = N := by omega
        have hge : ¬ ((k : Int) < l + 1) := fun h => hlt ((HN.out k).2 h)
        have hge2 : ¬ ((k : Int) ≤ l) := by omega
        clear hc HN hlt
        go_wp2
        go_ret
        exact ⟨_, rfl, IA.of_owns hown, hbe⟩

set_option maxRecDepth 100000 in
set_option maxHeartbeats 2000000 in
theorem rkept_any (l : Int) (hl0 : -9223372036854775808 ≤ l) (w : World) :
    Calls Try.prog 13 #[.int .i64 l] w fun x w' => ∃ v, x = .returned v ∧ IA w' v (keptI l) ∧ Below w.heap.size w w' := by
  by_cases h1 : 1048576 < l
  · have hE : keptI l = [] := if_pos h1
    rw [hE]
    go_enter Try.func13, Try.ntmps13
    go_wp2
    go_ret
    exact ⟨_, rfl, ⟨none, 0, rfl, Nat.le_refl _, Nat.zero_le _, fun h => absurd rfl h⟩, Below.refl _ _⟩
  · have hE : keptI l = ktI l (l + 1).toNat := if_neg h1
    rw [hE]
    clear hE
    obtain ⟨N, hN⟩ : ∃ N, (l + 1).toNat = N := ⟨_, rfl⟩
    rw [hN]
    have hNl : ∀ k : Nat, k < N ↔ (k : Int) < l + 1 := by intro k; omega
    have hN2 : N ≤ 1048577 := by omega
    have HN : Hid (∀ k : Nat, k < N ↔ (k : Int) < l + 1) := hNl
    clear hN hNl
    have hc : ∀ (k : Nat) (w : World), Calls Try.prog 7 #[.int .i64 l, .int .i64 (k : Int)] w fun x w' => x = .returned (.bool (kpB l (k : Int))) ∧ Below w.heap.size w w' := fun k w => rkeeps_any l k (by omega) w
    obtain ⟨i0, hi, hz0, hz1, hz2⟩ := info_parts i_intT
    go_enter Try.func13, Try.ntmps13
    go_wp2
    go_loopw [3, 4] (fun v i wr => ∃ k : Nat, k ≤ N ∧ i = .int .i64 (k : Int) ∧ wr.ownsRow w.heap.size 3 1 v (ktI l k).length (ics (ktI l k)) ∧ Below w.heap.size w wr) (fun _ i _ => N - (intOf i).toNat)
    case atStart => exact ⟨0, Nat.zero_le _, rfl, World.ownsRow_nil _ _ _ _, Below.refl _ _⟩
    case round =>
      obtain ⟨k, hk, rfl, hown, hbe⟩ := hrel
      have hsz := hbe.size
      by_cases hlt : k < N
      · have hlt2 : (k : Int) < l + 1 := (HN.out k).1 hlt
        have hC := hc k wr
        have Hy : Hid (kpB l (k : Int) = true → ktI l (k + 1) = ktI l k ++ [k]) := ktI_yes
        have Hn : Hid (kpB l (k : Int) = false → ktI l (k + 1) = ktI l k) := ktI_no
        have hlen := ktI_len l k
        generalize kpB l (k : Int) = b at *
        generalize ktI l k = L at *
        generalize hL' : ktI l (k + 1) = L' at *
        clear hc
        go_wp2_with fail
        refine hC.mono ?_
        rintro x w2 ⟨rfl, b2⟩
        have hbe2 := hbe.trans (b2.mono hsz)
        have hown2 := owns_later hown b2
        have hsz2 := hbe2.size
        clear hC hown hbe b2
        cases b with
        | true =>
          have eL := Hy.out rfl
          clear Hy Hn
          go_wp2_with (first | (at_builtin; refine wpList_append_own _ rfl (.tmp 15) (.tmp 17) 26 rfl w.heap.size 3 i0 (.int .i64 0) 1 8 Try.underlying26 hi hz0 hz1 hz2 rfl (by decide) _ _ _ rfl (hown2.alloc _) ⟨w2.heap.size, 0, none⟩ 1 1 [.int .i64 (k : Int)] rfl rfl ?ra ?rb ?rc ?rd ?re ?_))
          case ra => exact cell_one_new _ _ _
          case rb => intro u hu; simp at hu; subst hu; rfl
          case rc => unfold maxLen; omega
          case rd => omega
          case re => simp; omega
          intro v3 w3 hown3 hgrow3 _
          have hb3 : Below w.heap.size w w3 := (hbe2.alloc hsz2 _).grown hgrow3 (by simp; omega) (fun k hk => (hown2.lt k hk).1)
          have hown4 : w3.ownsRow w.heap.size 3 1 v3 (L ++ [k]).length (ics (L ++ [k])) := by
            have := hown3
            simp only [ics, List.map_append, List.map_cons, List.map_nil, ic, List.length_append, List.length_cons, List.length_nil] at this ⊢
            exact this
          rw [← eL, ← hL'] at hown4
          clear hown2 hown3 hgrow3 hbe2 eL hL'
          go_wp2
          go_roundw
          case rel => first | exact ⟨k + 1, by omega, by go_num, hown4, hb3⟩ | ((repeat apply Exists.intro); exact ⟨⟨k + 1, by omega, by go_num, hown4, hb3⟩, rfl⟩)
          case measure => simp [intOf]; omega
        | false =>
          have eL := Hn.out rfl
          rw [← eL, ← hL'] at hown2
          clear Hy Hn eL hL'
          go_wp2
          go_roundw
          case rel => first | exact ⟨k + 1, by omega, by go_num, hown2, hbe2⟩ | ((repeat apply Exists.intro); exact ⟨⟨k + 1, by omega, by go_num, hown2, hbe2⟩, rfl⟩)
          case measure => simp [intOf]; omega
      · obtain rfl : k = N := by omega
        have hge : ¬ ((k : Int) < l + 1) := fun h => hlt ((HN.out k).2 h)
        have hge2 : ¬ ((k : Int) ≤ l) := by omega
        clear hc HN hlt
        go_wp2
        go_ret
        exact ⟨_, rfl, IA.of_owns hown, hbe⟩

end Go.Proofs.Ytkpmenlhaeoedaa
