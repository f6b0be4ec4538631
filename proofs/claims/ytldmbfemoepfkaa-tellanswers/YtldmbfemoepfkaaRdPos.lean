/- What this text proves: the walk of the reader's Uint over this program where the bytes of the number are there. -/
import Derived.Test.YtldmbfemoepfkaaRdNum
namespace Go.Proofs.Ytldmbfemoepfkaa
open Go.RowKit

theorem valL_next (D : List UInt8) (k : Nat) (d : UInt8) (h : D[k]? = some d) : valL (D.take (k + 1)) = valL (D.take k) * 256 + d.toNat := by
  rw [List.take_add_one, h]
  exact valL_snoc _ _

theorem valL_take_lt (D : List UInt8) (k : Nat) (hk : k ≤ 7) : valL (D.take k) < 72057594037927936 := by
  have h1 := valL_lt (D.take k)
  have h2 : (256 : Nat) ^ (D.take k).length ≤ 256 ^ 7 := Nat.pow_le_pow_right (by omega) (by rw [List.length_take]; omega)
  have h3 : (256 : Nat) ^ 7 = 72057594037927936 := by decide
  omega

theorem wraps_u64 (n : Int) (h₀ : 0 ≤ n) (h₁ : n < 2 ^ 64) : IntKind.u64.wrap n = n := by rw [IntKind.wrap_u64]; omega
theorem or_low (V d : Nat) (hV : V < 72057594037927936) (hd : d < 256) : bits BinOp.or IntKind.u64 ((V : Int) * 256) (d : Int) = ((V * 256 + d : Nat) : Int) := by
  have h1 := (bits_nat .u64 64 (by decide) wraps_u64 (V * 256) d (by omega) (by omega)).2
  rw [show ((V * 256 : Nat) : Int) = (V : Int) * 256 by omega] at h1
  rw [h1]
  have h2 := Nat.two_pow_add_eq_or_of_lt (i := 8) (b := d) hd V
  rw [show (2 : Nat) ^ 8 * V = V * 256 by omega] at h2
  rw [← h2]

/-- What Uint answers. -/
def UintSaid (g : Nat) (w : World) (l : List UInt8) (most : Int) (x : Ending) (w' : World) : Prop := x = .returned (.int .i64 ((uintF l most).2.1 : Int)) ∧ RR w' g (uintF l most).2.2 (uintF l most).1 ∧ Only g w w'

set_option maxHeartbeats 2000000 in
theorem uint_pos (g : Nat) (x : UInt8) (r : List UInt8) (most : Int) (w : World) (h : RR w g (x :: r) 0) (hx1 : 1 ≤ x.toNat) (hx8 : x.toNat ≤ 8) (hs : x.toNat ≤ r.length) : Calls Try.prog 64 #[.pointer (some ⟨g, 0, none⟩), .int .i64 most] w (UintSaid g w (x :: r) most) := by
  obtain ⟨p, c, hrd, hh, hnb⟩ := h
  have he := rerr_any g _ 0 true w hrd
  simp only [if_true] at he
  obtain ⟨c0, c1, c2⟩ := hrd.cells
  obtain ⟨b, o, rfl, hc⟩ := hh.addr (by simp)
  have cx := hc 0 x rfl
  unfold bc at cx
  simp only [Nat.add_zero] at cx
  have hlen := hh.len.2
  unfold maxLen at hlen
  have hcn := counted_ok g x r w b o c hrd hh hs
  have ecut : cutP (some (⟨b, o, none⟩ : Addr)) c 1 = some ⟨b, o + 1, none⟩ := by
    unfold cutP
    rw [if_neg (by simp only [List.length_cons] at hlen; omega)]
    simp [Addr.add_lit]
  rw [ecut] at hcn
  obtain ⟨D, hD⟩ : ∃ D, D = r.take x.toNat := ⟨_, rfl⟩
  have hDl : D.length = x.toNat := by rw [hD, List.length_take]; omega
  have hDc : ∀ k d, D[k]? = some d → w.cell? ⟨b, o + 1 + k, none⟩ = some (.int .u8 (d.toNat : Int)) := by
    intro k d hd
    have := hc (k + 1) d (by rw [List.getElem?_cons_succ]; rw [hD, List.getElem?_take] at hd; split at hd; exact hd; cases hd)
    rw [show o + 1 + k = o + (k + 1) by omega]
    exact this
  obtain ⟨d0, D', hDD⟩ : ∃ d0 D', D = d0 :: D' := by
    cases D with
    | nil => simp at hDl; omega
    | cons d0 D' => exact ⟨d0, D', rfl⟩
  have cd0 := hDc 0 d0 (by rw [hDD]; rfl)
  simp only [Nat.add_zero] at cd0
  simp only [List.length_cons] at c0 hrd he hlen hh hnb
  have hx := x.toNat_lt
  have hd0 := d0.toNat_lt
  have hx82 : (x.toNat : Int) ≤ 8 := by omega
  have hl0 : (0 : Int) < (r.length : Int) + 1 := by omega
  have hx0 : (0 : Int) < (x.toNat : Int) := by omega
  clear hc
  by_cases hz : d0 = 0
  · have HU : Hid (uintF (x :: r) most = (5, 0, [])) := by
      show uintF (x :: r) most = (5, 0, [])
      simp only [uintF]
      rw [if_neg (by omega), if_neg (by omega), if_pos (by rw [← hD, hDD, hz]; rfl)]
    subst hz
    simp only [UInt8.toNat_zero] at cd0
    clear hD hDl hDD hDc hh hnb
    go_enter Try.func64, Try.ntmps64
    go_wp2_with (first | (go_at_call 57; refine he.mono ?_; rintro e w' ⟨rfl, hw⟩; have hw2 := hw.symm; clear hw; subst hw2) | (go_at_call 66; refine hcn.mono ?_; rintro e w1 ⟨rfl, n1, hw1⟩; have cd1 : w1.cell? ⟨b, o + 1, none⟩ = some (.int .u8 0) := (by rw [hw1]; exact cd0); have hrd1 : RD w1 g (.slice (some ⟨b, o, none⟩) (r.length + 1) c) 0 true := (by rw [hw1]; exact hrd); have ho1 : Hid (Only g w w1) := (by show Only g w w1; rw [hw1]; exact (Only.refl g w).drewN n1); clear hw1 cd0) | (go_at_call 58; refine (fail_said g _ 5 _ hrd1).mono ?_; rintro e w2 ⟨rfl, hr2, ho2⟩))
    go_ret
    refine ⟨?_, ?_, ho1.out.trans ho2⟩
    · rw [HU.out]; rfl
    · rw [HU.out]; exact hr2
  · have hzI : ¬ (d0.toNat : Int) = 0 := fun e => hz (UInt8.toNat_inj.1 (by simp; omega))
    have hzb : ((d0.toNat : Int) == 0) = false := by simpa using hzI
    go_enter Try.func64, Try.ntmps64
    go_wp2_with (first | (go_at_call 57; refine he.mono ?_; rintro e w' ⟨rfl, hw⟩; have hw2 := hw.symm; clear hw; subst hw2) | (go_at_call 66; refine hcn.mono ?_; rintro e w1 ⟨rfl, n1, hw1⟩; have cd1 : w1.cell? ⟨b, o + 1, none⟩ = some (.int .u8 (d0.toNat : Int)) := (by rw [hw1]; exact cd0); have hDc1 : ∀ k d, D[k]? = some d → w1.cell? ⟨b, o + 1 + k, none⟩ = some (.int .u8 (d.toNat : Int)) := (by rw [hw1]; exact hDc); have hrd1 : RD w1 g (.slice (some ⟨b, o, none⟩) (r.length + 1) c) 0 true := (by rw [hw1]; exact hrd); have hh1 : HBN w1 g (.slice (some ⟨b, o, none⟩) (r.length + 1) c) (x :: r) := (by rw [hw1]; exact ⟨hh, hnb⟩); have ho1 : Hid (Only g w w1) := (by show Only g w w1; rw [hw1]; exact (Only.refl g w).drewN n1); clear hw1 cd0 hDc hrd hh hnb c0 c1 c2 cx he hcn))
    go_loopw [7, 52] (fun n i wr => ∃ k : Nat, k ≤ x.toNat ∧ i = .int .i64 k ∧ n = .int .u64 (valL (D.take k) : Int) ∧ w1 = wr) (fun _ i _ => x.toNat - (intOf i).toNat)
    case atStart => exact ⟨0, Nat.zero_le _, rfl, rfl, rfl⟩
    case round =>
      obtain ⟨k, hk, rfl, rfl, rfl⟩ := hrel
      by_cases hlt : k < x.toNat
      · have gd : D[k]? = some (D[k]'(by omega)) := List.getElem?_eq_getElem (by omega)
        have cdk := hDc1 k _ gd
        have HVN := valL_next D k _ gd
        have hvl := valL_take_lt D k (by omega)
        generalize D[k]'(by omega) = d at *
        have HV : Hid (valL (D.take (k + 1)) = valL (D.take k) * 256 + d.toNat) := HVN
        generalize valL (D.take k) = V at *
        clear HVN gd
        have hd := d.toNat_lt
        have hlt2 : (k : Int) < (x.toNat : Int) := by omega
        have HO : Hid (bits BinOp.or IntKind.u64 ((V : Int) * 256) (d.toNat : Int) = ((V * 256 + d.toNat : Nat) : Int)) := or_low V d.toNat hvl hd
        go_wp2
        exact ⟨⟨k + 1, by omega, by go_num, by rw [HO.out, HV.out], trivial⟩, by simp [intOf]; omega⟩
      · obtain rfl : k = x.toNat := by omega
        have hV8 : valL D < 18446744073709551616 := by
          have h1 := valL_lt D
          have h2 : (256 : Nat) ^ D.length ≤ 256 ^ 8 := Nat.pow_le_pow_right (by omega) (by omega)
          have h3 : (256 : Nat) ^ 8 = 18446744073709551616 := by decide
          omega
        have hU : uintF (x :: r) most = if 4611686018427387904 < valL D then (5, 0, []) else if most < (valL D : Int) then (4, 0, []) else (0, valL D, r.drop x.toNat) := by
          simp only [uintF]
          rw [if_neg (by omega), if_neg (by omega), ← hD, if_neg (by rw [hDD]; simp; exact hz)]
        rw [List.take_of_length_le (by omega)]
        generalize valL D = V at *
        clear hDc1 hDD hD hz hzI hzb cd1 hDl
        by_cases hbig : 4611686018427387904 < V
        · rw [if_pos hbig] at hU
          have HU : Hid (uintF (x :: r) most = (5, 0, [])) := hU
          have hb2 : (4611686018427387904 : Int) < (V : Int) := by omega
          clear hU
          go_wp2_with (first | (go_at_call 58; refine (fail_said g _ 5 _ hrd1).mono ?_; rintro e w2 ⟨rfl, hr2, ho2⟩))
          go_ret
          refine ⟨?_, ?_, ho1.out.trans ho2⟩
          · rw [HU.out]; rfl
          · rw [HU.out]; exact hr2
        · rw [if_neg hbig] at hU
          have hb2 : (V : Int) ≤ 4611686018427387904 := by omega
          by_cases hmost : most < (V : Int)
          · rw [if_pos hmost] at hU
            have HU : Hid (uintF (x :: r) most = (4, 0, [])) := hU
            clear hU
            go_wp2_with (first | (go_at_call 58; refine (fail_said g _ 4 _ hrd1).mono ?_; rintro e w2 ⟨rfl, hr2, ho2⟩))
            go_ret
            refine ⟨?_, ?_, ho1.out.trans ho2⟩
            · rw [HU.out]; rfl
            · rw [HU.out]; exact hr2
          · rw [if_neg hmost] at hU
            have HU : Hid (uintF (x :: r) most = (0, V, r.drop x.toNat)) := hU
            have hm2 : (V : Int) ≤ most := by omega
            have hd : decide (most < (V : Int)) = false := by simpa using hmost
            obtain ⟨c0, c1, c2⟩ := hrd1.cells
            have f0 := hrd1.free 0
            have k3 : ∀ w, (Instr.slice 22 (.slice (some ⟨b, o, none⟩) (r.length + 1) c) (some (.int .i64 (1 + (x.toNat : Int)))) none none).run Try.prog w = .ok (.slice (cutP (some ⟨b, o, none⟩) c (1 + x.toNat)) (r.length - x.toNat) (c - (1 + x.toNat))) w := by
              intro w
              have := run_cut (P := Try.prog) Try.underlying22 s_u8 (some ⟨b, o, none⟩) (r.length + 1) c (1 + x.toNat) (1 + (x.toNat : Int)) (by omega) (by omega) w
              rw [this, show r.length + 1 - (1 + x.toNat) = r.length - x.toNat by omega]
            have hbh := hh1.behind (1 + x.toNat) (by omega)
            rw [show r.length + 1 - (1 + x.toNat) = r.length - x.toNat by omega, show (x :: r).drop (1 + x.toNat) = r.drop x.toNat by rw [Nat.add_comm, List.drop_succ_cons]] at hbh
            have HDL : Hid ((r.drop x.toNat).length = r.length - x.toNat) := by show _ = _; rw [List.length_drop]
            have HRD : Hid (RD w1 g (.slice (some ⟨b, o, none⟩) (r.length + 1) c) 0 true) := hrd1
            have HBH : Hid (HBN w1 g (.slice (cutP (some ⟨b, o, none⟩) c (1 + x.toNat)) (r.length - x.toNat) (c - (1 + x.toNat))) (r.drop x.toNat)) := hbh
            clear hU hbh hrd1 hh1
            go_wp2
            go_ret
            refine ⟨?_, ?_, ho1.out.trans ((Only.refl g w1).setCell 0 _)⟩
            · rw [HU.out]; rfl
            · rw [HU.out]
              refine ⟨cutP (some ⟨b, o, none⟩) c (1 + x.toNat), c - (1 + x.toNat), ?_, ?_⟩
              · rw [HDL.out]
                exact HRD.out.put0 _
              · rw [HDL.out]
                exact HBH.out.only ((Only.refl g w1).setCell 0 _)

end Go.Proofs.Ytldmbfemoepfkaa
