/- What this text proves: the walk of the document's Uint (annalsref04.Reader) over this program where the bytes of the number are there. -/
import Derived.Test.YtldmbfemoepfkaaXUint
namespace Go.Proofs.Ytldmbfemoepfkaa
open Go.RowKit

theorem HBN.get {w : World} {g b o n c : Nat} {l : List UInt8} (h : HBN w g (.slice (some ⟨b, o, none⟩) n c) l) (k : Nat) (d : UInt8) (hk : l[k]? = some d) : w.cell? ⟨b, o + k, none⟩ = some (.int .u8 (d.toNat : Int)) := by
  have hlt : k < l.length := (List.getElem?_eq_some_iff.1 hk).1
  have hl := h.1.len.1
  obtain ⟨b', o', e, hc⟩ := h.1.addr (by omega)
  simp only [Option.some.injEq, Addr.mk.injEq, and_true] at e
  obtain ⟨rfl, rfl⟩ := e
  exact hc k d hk

set_option maxHeartbeats 4000000 in
theorem xuint_pos (g : Nat) (x : UInt8) (r : List UInt8) (most : Int) (w : World) (h : XR w g (x :: r) 0) (hsz : (x :: r).length ≤ 140737488355328) (hx1 : 1 ≤ x.toNat) (h8 : x.toNat ≤ 8) (hs : x.toNat ≤ r.length) : Calls Try.prog 17 #[.pointer (some ⟨g, 0, none⟩), .int .i64 most] w (XSaid g w (x :: r) most) := by
  have k := take_one g x r w h hsz
  have hx := x.toNat_lt
  have h82 : (x.toNat : Int) ≤ 8 := by omega
  have hrem : (x.toNat : Int).tmod 9 = (x.toNat : Int) := by rw [Int.tmod_eq_emod_of_nonneg (by omega)]; omega
  have hrem2 : (x.toNat : Int) % 9 = (x.toNat : Int) := by omega
  have hszr : r.length ≤ 140737488355328 := by simp at hsz; omega
  obtain ⟨D, hD⟩ : ∃ D, D = r.take x.toNat := ⟨_, rfl⟩
  obtain ⟨R, hR⟩ : ∃ R, R = r.drop x.toNat := ⟨_, rfl⟩
  have hDl : D.length = x.toNat := by rw [hD, List.length_take]; omega
  obtain ⟨d0, D', hDD⟩ : ∃ d0 D', D = d0 :: D' := by
    cases D with
    | nil => simp at hDl; omega
    | cons d0 D' => exact ⟨d0, D', rfl⟩
  have hd0 := d0.toNat_lt
  have hV8 : valL D < 18446744073709551616 := by
    have h1 := valL_lt D
    have h2 : (256 : Nat) ^ D.length ≤ 256 ^ 8 := Nat.pow_le_pow_right (by omega) (by omega)
    have h3 : (256 : Nat) ^ 8 = 18446744073709551616 := by decide
    omega
  have hU : uintF (x :: r) most = if d0 = 0 then (5, 0, []) else if 4611686018427387904 < valL D then (5, 0, []) else if most < (valL D : Int) then (4, 0, []) else (0, valL D, R) := by
    simp only [uintF]
    rw [if_neg (by omega), if_neg (by omega), ← hD, ← hR]
    by_cases hz : d0 = 0
    · rw [if_pos (by rw [hDD, hz]; rfl), if_pos hz]
    · rw [if_neg (by rw [hDD]; simp; exact hz), if_neg hz]
  have hDn : ∀ k, k < x.toNat → ∃ d, Hid (D[k]? = some d) ∧ Hid (valL (D.take (k + 1)) = valL (D.take k) * 256 + d.toNat) ∧ (k = 0 → d = d0) := by
    intro k hk
    have gd : D[k]? = some (D[k]'(by omega)) := List.getElem?_eq_getElem (by omega)
    refine ⟨_, gd, valL_next D k _ gd, fun h0 => ?_⟩
    subst h0
    simp [hDD]
  have hDt : D.take x.toNat = D := List.take_of_length_le (by omega)
  have hvl := fun k (hk : k < x.toNat) => valL_take_lt D k (by omega)
  have kt := fun w1 (hx1 : XR w1 g r 0) => xtake_ok g r x.toNat w1 hx1 hs hszr
  rw [← hD, ← hR] at kt
  have hz7 : d0 = 0 → valL D < 72057594037927936 := by
    intro h0
    rw [hDD, h0, valL_cons]
    have h1 := valL_lt D'
    have hl : D'.length ≤ 7 := by rw [hDD] at hDl; simp at hDl; omega
    have h2 : (256 : Nat) ^ D'.length ≤ 256 ^ 7 := Nat.pow_le_pow_right (by omega) hl
    have h3 : (256 : Nat) ^ 7 = 72057594037927936 := by decide
    simp
    omega
  clear h hsz hD hR hDD
  go_enter Try.func17, Try.ntmps17
  go_wp2_with fail
  refine k.mono ?_
  rintro e w1 ⟨b, o, d, rfl, hbg, hc1, hx1, ho1⟩
  clear k
  go_wp2_with fail
  refine (kt _ hx1).mono ?_
  rintro e w2 ⟨p2, c2, rfl, hd2, hx2, ho2⟩
  have ho02 := ho1.trans ho2
  obtain ⟨b2, o2, rfl, hcc⟩ := hd2.1.addr (by omega)
  clear kt hc1 hx1 ho1 ho2 hcc
  by_cases hz : d0 = 0
  · rw [if_pos hz] at hU
    have HU : Hid (uintF (x :: r) most = (5, 0, [])) := hU
    have hV7 := hz7 hz
    clear hU hz7
    go_wp2
    go_loopw [7, 30] (fun n i wr => ∃ k : Nat, k ≤ x.toNat ∧ i = .int .i64 k ∧ n = .int .u64 (valL (D.take k) : Int) ∧ HBN wr g (.slice (some ⟨b2, o2, none⟩) x.toNat c2) D ∧ Only g w wr ∧ (k = 0 → XR wr g R 0) ∧ (0 < k → XR wr g [] 5)) (fun _ i _ => x.toNat - (intOf i).toNat)
    case atStart => exact ⟨0, Nat.zero_le _, rfl, rfl, hd2, ho02, fun _ => hx2, fun h => absurd h (by omega)⟩
    case round =>
      clear hd2 hx2 ho02
      obtain ⟨k, hk, rfl, rfl, hd2, ho02, hk0, hk1⟩ := hrel
      by_cases hlt : k < x.toNat
      · obtain ⟨d, gd, HV, hdd⟩ := hDn k hlt
        have cdk := hd2.get k d gd.out
        have hvk := hvl k hlt
        generalize valL (D.take k) = V at *
        have hd := d.toNat_lt
        have hlt2 : (k : Int) < (x.toNat : Int) := by omega
        by_cases h0 : k = 0
        · obtain rfl := hdd h0
          have kf := xfail_first g R 5 wr (hk0 h0)
          subst h0
          subst hz
          simp only [UInt8.toNat_zero, Nat.add_zero] at cdk
          rw [show ((0 : Nat) : Int) = 0 from rfl]
          clear hk0 hk1 hdd
          go_wp2_with (first | (go_at_call 38; refine kf.mono ?_; rintro e w4 ⟨rfl, hx4, ho4⟩; have hd4 := hd2.only ho4; have ho04 := ho02.trans ho4; clear hd2 ho02))
          refine ⟨⟨1, by omega, by go_num, ?_, hd4, ho04, fun h => absurd h (by omega), fun _ => hx4⟩, by simp [intOf]; omega⟩
          have := HV.out
          simp only [UInt8.toNat_zero] at this
          rw [show (0 : Nat) + 1 = 1 from rfl] at this
          congr 1
          omega
        · have h0' : ¬ (k : Int) = 0 := by omega
          have h0b : ((k : Int) == 0) = false := by simpa using h0'
          have hx5 := hk1 (by omega)
          clear hk0 hk1 hdd
          go_wp2
          refine ⟨⟨k + 1, by omega, by go_num, ?_, hd2, ho02, fun h => absurd h (by omega), fun _ => hx5⟩, by simp [intOf]; omega⟩
          have := HV.out
          congr 1
          omega
      · obtain rfl : k = x.toNat := by omega
        rw [hDt]
        have hx5 := hk1 (by omega)
        have ks := xfail_stays g [] 5 4 wr hx5 (by decide)
        have ce := hx5.xd
        clear hk0 hk1 hDn hDt hvl
        generalize valL D = V at *
        have hV2 : (V : Int) ≤ 4611686018427387904 := by omega
        by_cases hm : most < (V : Int)
        · go_wp2_with (first | (go_at_call 38; refine ks.mono ?_; rintro e w3 ⟨rfl, hw⟩; have hw2 := hw.symm; clear hw; subst hw2))
          go_ret
          refine ⟨?_, ?_, ho02⟩
          · rw [HU.out]; rfl
          · rw [HU.out]; exact hx5
        · have hd : decide (most < (V : Int)) = false := by simpa using hm
          go_wp2
          go_ret
          refine ⟨?_, ?_, ho02⟩
          · rw [HU.out]; rfl
          · rw [HU.out]; exact hx5
  · rw [if_neg hz] at hU
    have hzI : ¬ (d0.toNat : Int) = 0 := fun e => hz (UInt8.toNat_inj.1 (by simp; omega))
    clear hz7
    go_wp2
    go_loopw [7, 30] (fun n i wr => ∃ k : Nat, k ≤ x.toNat ∧ i = .int .i64 k ∧ n = .int .u64 (valL (D.take k) : Int) ∧ w2 = wr) (fun _ i _ => x.toNat - (intOf i).toNat)
    case atStart => exact ⟨0, Nat.zero_le _, rfl, rfl, rfl⟩
    case round =>
      obtain ⟨k, hk, rfl, rfl, rfl⟩ := hrel
      by_cases hlt : k < x.toNat
      · obtain ⟨d, gd, HV, hdd⟩ := hDn k hlt
        have cdk := hd2.get k d gd.out
        have hvk := hvl k hlt
        generalize valL (D.take k) = V at *
        have hd := d.toNat_lt
        have hlt2 : (k : Int) < (x.toNat : Int) := by omega
        by_cases h0 : k = 0
        · obtain rfl := hdd h0
          subst h0
          have hzb : ((d.toNat : Int) == 0) = false := by simpa using hzI
          simp only [Nat.add_zero] at cdk
          rw [show ((0 : Nat) : Int) = 0 from rfl]
          clear hdd
          go_wp2
          refine ⟨⟨1, by omega, by go_num, ?_, trivial⟩, by simp [intOf]; omega⟩
          have := HV.out
          rw [show (0 : Nat) + 1 = 1 from rfl] at this
          congr 1
          omega
        · have h0' : ¬ (k : Int) = 0 := by omega
          have h0b : ((k : Int) == 0) = false := by simpa using h0'
          clear hdd
          go_wp2
          refine ⟨⟨k + 1, by omega, by go_num, ?_, trivial⟩, by simp [intOf]; omega⟩
          have := HV.out
          congr 1
          omega
      · obtain rfl : k = x.toNat := by omega
        rw [hDt]
        have ce := hx2.xd
        clear hDn hDt hvl
        generalize valL D = V at *
        by_cases hbig : 4611686018427387904 < V
        · rw [if_pos hbig] at hU
          have HU : Hid (uintF (x :: r) most = (5, 0, [])) := hU
          have hb2 : (4611686018427387904 : Int) < (V : Int) := by omega
          have kf := xfail_first g R 5 w2 hx2
          clear hU
          go_wp2_with fail
          refine kf.mono ?_
          rintro e w4 ⟨rfl, hx4, ho4⟩
          have ho04 := ho02.trans ho4
          have ks := xfail_stays g [] 5 4 w4 hx4 (by decide)
          have ce4 := hx4.xd
          clear kf ce hx2 ho02 ho4 hd2
          go_wp2_with (first | (go_at_call 38; refine ks.mono ?_; rintro e w3 ⟨rfl, hw⟩; have hw2 := hw.symm; clear hw; subst hw2))
          all_goals
            go_ret
            refine ⟨?_, ?_, ho04⟩
            · rw [HU.out]; rfl
            · rw [HU.out]; exact hx4
        · rw [if_neg hbig] at hU
          have hb2 : (V : Int) ≤ 4611686018427387904 := by omega
          by_cases hm : most < (V : Int)
          · rw [if_pos hm] at hU
            have HU : Hid (uintF (x :: r) most = (4, 0, [])) := hU
            have kf := xfail_first g R 4 w2 hx2
            clear hU
            go_wp2_with (first | (go_at_call 38; refine kf.mono ?_; rintro e w4 ⟨rfl, hx4, ho4⟩; have ce4 := hx4.xd))
            go_ret
            refine ⟨?_, ?_, ho02.trans ho4⟩
            · rw [HU.out]; rfl
            · rw [HU.out]; exact hx4
          · rw [if_neg hm] at hU
            have HU : Hid (uintF (x :: r) most = (0, V, R)) := hU
            have hd : decide (most < (V : Int)) = false := by simpa using hm
            clear hU
            go_wp2
            go_ret
            refine ⟨?_, ?_, ho02⟩
            · rw [HU.out]; rfl
            · rw [HU.out]; exact hx2

theorem xuint_any (g : Nat) (l : List UInt8) (most : Int) (w : World) (h : XR w g l 0) (hsz : l.length ≤ 140737488355328) : Calls Try.prog 17 #[.pointer (some ⟨g, 0, none⟩), .int .i64 most] w (XSaid g w l most) := by
  cases l with
  | nil => exact xuint_nil g most w h
  | cons x r =>
    by_cases h8 : 8 < x.toNat
    · exact xuint_big g x r most w h hsz h8
    · by_cases hs : r.length < x.toNat
      · exact xuint_short g x r most w h hsz (by omega) hs
      · by_cases h0 : x.toNat = 0
        · obtain rfl : x = 0 := UInt8.toNat_inj.1 (by simpa using h0)
          exact xuint_zero g r most w h hsz
        · exact xuint_pos g x r most w h hsz (by omega) (by omega) (by omega)

end Go.Proofs.Ytldmbfemoepfkaa
