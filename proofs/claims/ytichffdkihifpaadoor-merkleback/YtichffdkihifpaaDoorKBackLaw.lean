/- What this text proves: the walk of the statement MerkleBack over this program: it answers true for any arguments, and writes nothing that was there. -/
import Derived.Test.YtichffdkihifpaaDoorKBackPlain
namespace Go.Proofs.YtichffdkihifpaaDoor
open Go.RowKit

theorem kbu64 (n : Int) : ∃ U : Nat, IntKind.u64.wrap n = (U : Int) ∧ U < 18446744073709551616 := by
  have e : IntKind.u64.wrap n = n % 18446744073709551616 := by simp [IntKind.wrap, IntKind.bits, IntKind.signed]
  exact ⟨(n % 18446744073709551616).toNat, by rw [e]; omega, by omega⟩

set_option maxRecDepth 100000 in
set_option maxHeartbeats 4000000 in
theorem kbackWalk (v : Value) (l0 : List (List UInt8)) (a b : Int) (w : World) (hp0 : PA w v l0) (hT : Tabs w) :
    Calls Tryd.prog 5 #[v, .int .i64 a, .int .i64 b] w fun e w' => e = .returned (.bool true) ∧ Below w.heap.size w w' := by
  have hS := sized4_any v l0 w hp0
  have hlen : ((l0.take 40).map fix4).length ≤ 40 := by simp; omega
  have h4 : ∀ l ∈ (l0.take 40).map fix4, l.length = 4 := by
    intro l hl
    obtain ⟨x, _, rfl⟩ := List.mem_map.1 hl
    exact fix4_len x
  generalize (l0.take 40).map fix4 = ls at *
  clear hp0
  obtain ⟨U, hU, hU2⟩ := kbu64 a
  obtain ⟨V, hV, hV2⟩ := kbu64 b
  obtain ⟨A, hA⟩ : ∃ A : Nat, A = U % (ls.length + 1) := ⟨_, rfl⟩
  obtain ⟨D, hD⟩ : ∃ D : Nat, D = V % (ls.length - A + 1) := ⟨_, rfl⟩
  have hA1 : A < ls.length + 1 := by rw [hA]; exact Nat.mod_lt _ (by omega)
  have hD1 : D < ls.length - A + 1 := by rw [hD]; exact Nat.mod_lt _ (by omega)
  have eA : (U : Int) % ((ls.length : Int) + 1) = (A : Int) := by rw [hA, show ((ls.length : Int) + 1) = ((ls.length + 1 : Nat) : Int) by omega]; exact (Int.natCast_emod U (ls.length + 1)).symm
  have eD : (V : Int) % ((ls.length : Int) - (A : Int) + 1) = (D : Int) := by rw [hD, show ((ls.length : Int) - (A : Int) + 1) = ((ls.length - A + 1 : Nat) : Int) by omega]; exact (Int.natCast_emod V (ls.length - A + 1)).symm
  have n1 : ((ls.length : Int) + 1 == 0) = false := by simp; omega
  have n2 : ((ls.length : Int) - (A : Int) + 1 == 0) = false := by simp; omega
  clear hA hD
  obtain ⟨B, hB⟩ : ∃ B : Nat, B = A + D := ⟨_, rfl⟩
  have eB : (A : Int) + (D : Int) = (B : Int) := by omega
  have hAB : A ≤ B := by omega
  have hBn : B ≤ ls.length := by omega
  have hbig : ∀ l ∈ ls, l.length ≤ 140737488355328 := fun l hl => by rw [h4 l hl]; omega
  have hlr := rootF_4 ls (by omega) h4
  have cR := fun v W (hp : PA W v ls) (hT : Tabs W) => root_any 4 v ls W hp hT (by omega) (by omega)
  have cG := fun v W (hp : PA W v ls) (hT : Tabs W) => range_any 4 v ls (A : Int) (B : Int) W hT hp (by omega) hbig
  have cZ := fun v W (hp : PA W v ls) (hT : Tabs W) => range_any 4 v ls 0 (ls.length : Int) W hT hp (by omega) hbig
  rw [rng_all ls (by omega)] at cZ
  have hcnt := rng_len 4 ls (A : Int) (B : Int) (by omega)
  have hcb : (rngF 4 ls (A : Int) (B : Int)).length ≤ 1048576 := by
    rw [hcnt]
    unfold cntF
    split
    · simp only [Int.toNat_natCast]
      have := wo_len (lo := A) (hi := B) (n := ls.length) hAB hBn (by omega) (by omega)
      omega
    · omega
  have cF := fun v u W (hp : PA W v (seg ls A B)) (hq : PA W u (rngF 4 ls (A : Int) (B : Int))) (hT : Tabs W) => fold_any 4 (ls.length : Int) (A : Int) v u _ _ W hT hp hq (by omega) (by omega) (by omega)
  rw [back_fold ls A B h4 (by omega) hAB hBn] at cF
  have cA := fun v u W (hp : PA W v ls) (hq : PA W u []) (hT : Tabs W) => fold_any 4 (ls.length : Int) 0 v u _ _ W hT hp hq (by omega) (by omega) (by simp)
  rw [back_all ls h4 (by omega)] at cA
  have cC := fun W => count_any (ls.length : Int) (A : Int) (B : Int) W
  rw [← hcnt] at cC
  simp only [hlr] at cR cF cA
  clear hcnt hlr hbig h4
  generalize rngF 4 ls (A : Int) (B : Int) = X at *
  generalize rootF 4 ls = F at *
  go_enter Tryd.func5, Tryd.ntmps5
  go_wp2_with fail
  refine hS.mono ?_
  rintro e w1 ⟨p1, c1, rfl, hp, hb1⟩
  have hT1 := hT.later hb1
  clear hS hT
  have hpl := hp.len.2
  unfold maxLen at hpl
  have hsl : ∀ W, (Instr.slice 22 (.slice p1 ls.length c1) (some (.int .i64 (A : Int))) (some (.int .i64 (B : Int))) none).run Tryd.prog W = .ok (.slice (cutP p1 c1 A) (B - A) (c1 - A)) W := fun W => run_cut2 (P := Tryd.prog) Tryd.underlying22 s_bytes p1 ls.length c1 A B A B rfl rfl hAB (by omega) W
  have hseg := hp.seg A B hAB hBn
  clear hB
  go_wp2_with fail
  refine (cR _ _ hp hT1).mono ?_
  rintro e w2 ⟨p2, c2, rfl, k2, hb2, _⟩
  have p12 := hp.later hb2
  have T2 := hT1.later hb2
  have b02 := hb1.trans (hb2.mono hb1.size)
  clear cR hU hV eA eD n1 n2 hU2 hV2
  go_wp2_with fail
  refine (cG _ _ p12 T2).mono ?_
  rintro e w3 ⟨p3, c3, rfl, k3, hb3⟩
  have p13 := p12.later hb3
  have T3 := T2.later hb3
  have s3 := (hseg.later hb2).later hb3
  have r3 := k2.later hb3
  have b03 := b02.trans (hb3.mono b02.size)
  clear cG hp hT1 hb1 hb2 hb3 p12 T2 b02 k2 hseg
  go_wp2_with fail
  refine (cF _ _ _ s3 k3 T3).mono ?_
  rintro e w4 ⟨p4, c4, rfl, k4, hb4⟩
  have p14 := p13.later hb4
  have T4 := T3.later hb4
  have r4 := r3.later hb4
  have b04 := b03.trans (hb4.mono b03.size)
  clear cF p13 T3 r3 b03 hb4 s3 k3 hsl
  go_wp2_with fail
  refine (cA _ _ _ p14 (PA.nil _) T4).mono ?_
  rintro e w5 ⟨p5, c5, rfl, k5, hb5⟩
  have p15 := p14.later hb5
  have T5 := T4.later hb5
  have r5 := r4.later hb5
  have y5 := k4.later hb5
  have b05 := b04.trans (hb5.mono b04.size)
  clear cA p14 T4 r4 k4 b04 hb5
  have E1 := equal_t _ _ F F w5 y5 r5 rfl
  have E2 := equal_t _ _ F F w5 k5 r5 rfl
  clear y5 k5 r5
  go_wp2_with fail
  refine E1.mono ?_
  rintro e w6 ⟨rfl, hw⟩
  have hw2 := hw.symm
  clear hw E1
  subst hw2
  go_wp2_with fail
  refine E2.mono ?_
  rintro e w7 ⟨rfl, hw⟩
  have hw2 := hw.symm
  clear hw E2
  subst hw2
  go_wp2_with fail
  refine (cC _).mono ?_
  rintro e w8 ⟨rfl, hb8⟩
  have p18 := p15.later hb8
  have T8 := T5.later hb8
  have b08 := b05.trans (hb8.mono b05.size)
  clear cC p15 T5 b05 hb8
  go_wp2_with fail
  refine (cZ _ _ p18 T8).mono ?_
  rintro e w9 ⟨p9, c9, rfl, _, hb9⟩
  have b09 := b08.trans (hb9.mono b08.size)
  clear cZ p18 T8 b08 hb9
  go_wp2
  go_ret
  exact ⟨rfl, b09⟩

end Go.Proofs.YtichffdkihifpaaDoor
