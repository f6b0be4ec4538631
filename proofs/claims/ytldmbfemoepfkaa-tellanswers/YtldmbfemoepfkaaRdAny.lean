/- What this text proves: the walks of the reader's Uint, Bytes, Flag and of Open over this program, whatever is left. -/
import Derived.Test.YtldmbfemoepfkaaRdPos
namespace Go.Proofs.Ytldmbfemoepfkaa
open Go.RowKit

set_option maxHeartbeats 2000000 in
theorem uint_zero (g : Nat) (x : UInt8) (r : List UInt8) (most : Int) (w : World) (h : RR w g (x :: r) 0) (hx0 : x.toNat = 0) : Calls Try.prog 64 #[.pointer (some ⟨g, 0, none⟩), .int .i64 most] w (UintSaid g w (x :: r) most) := by
  obtain rfl : x = 0 := UInt8.toNat_inj.1 (by simpa using hx0)
  obtain ⟨p, c, hrd, hh, hnb⟩ := h
  have he := rerr_any g _ 0 true w hrd
  simp only [if_true] at he
  obtain ⟨c0, c1, c2⟩ := hrd.cells
  obtain ⟨b, o, rfl, hc⟩ := hh.addr (by simp)
  have cx := hc 0 0 rfl
  unfold bc at cx
  simp only [Nat.add_zero, UInt8.toNat_zero] at cx
  have hlen := hh.len.2
  unfold maxLen at hlen
  have hcn := counted_ok g 0 r w b o c hrd hh (by simp)
  simp only [UInt8.toNat_zero] at hcn
  simp only [List.length_cons] at c0 hrd he hlen hh hnb
  have hl0 : (0 : Int) < (r.length : Int) + 1 := by omega
  have hU : uintF (0 :: r) most = if most < 0 then (4, 0, []) else (0, 0, r) := by simp [uintF, valL]
  clear hc hx0
  by_cases hmost : most < 0
  · rw [if_pos hmost] at hU
    have HU : Hid (uintF (0 :: r) most = (4, 0, [])) := hU
    clear hU
    go_enter Try.func64, Try.ntmps64
    go_wp2_with (first | (go_at_call 57; refine he.mono ?_; rintro e w' ⟨rfl, hw⟩; have hw2 := hw.symm; clear hw; subst hw2) | (go_at_call 66; refine hcn.mono ?_; rintro e w1 ⟨rfl, n1, hw1⟩; have hrd1 : RD w1 g (.slice (some ⟨b, o, none⟩) (r.length + 1) c) 0 true := (by rw [hw1]; exact hrd); have ho1 : Hid (Only g w w1) := (by show Only g w w1; rw [hw1]; exact (Only.refl g w).drewN n1); clear hw1))
    go_loopw [7, 52] (fun n i wr => i = .int .i64 0 ∧ n = .int .u64 0 ∧ w1 = wr) (fun _ _ _ => 0)
    case atStart => exact ⟨rfl, rfl, rfl⟩
    case round =>
      obtain ⟨rfl, rfl, rfl⟩ := hrel
      go_wp2_with (first | (go_at_call 58; refine (fail_said g _ 4 _ hrd1).mono ?_; rintro e w2 ⟨rfl, hr2, ho2⟩))
      go_ret
      refine ⟨?_, ?_, ho1.out.trans ho2⟩
      · rw [HU.out]; rfl
      · rw [HU.out]; exact hr2
  · rw [if_neg hmost] at hU
    have HU : Hid (uintF (0 :: r) most = (0, 0, r)) := hU
    have hd : decide (most < 0) = false := by simpa using hmost
    have hm2 : 0 ≤ most := by omega
    have k3 : ∀ w, (Instr.slice 22 (.slice (some ⟨b, o, none⟩) (r.length + 1) c) (some (.int .i64 1)) none none).run Try.prog w = .ok (.slice (cutP (some ⟨b, o, none⟩) c 1) r.length (c - 1)) w := by
      intro w
      have := run_cut (P := Try.prog) Try.underlying22 s_u8 (some ⟨b, o, none⟩) (r.length + 1) c 1 1 rfl (by omega) w
      rwa [show r.length + 1 - 1 = r.length by omega] at this
    have hbh := HBN.behind (g := g) ⟨hh, hnb⟩ 1 (by omega)
    rw [show r.length + 1 - 1 = r.length by omega] at hbh
    simp only [List.drop_succ_cons, List.drop_zero] at hbh
    clear hU hh hnb
    go_enter Try.func64, Try.ntmps64
    go_wp2_with (first | (go_at_call 57; refine he.mono ?_; rintro e w' ⟨rfl, hw⟩; have hw2 := hw.symm; clear hw; subst hw2) | (go_at_call 66; refine hcn.mono ?_; rintro e w1 ⟨rfl, n1, hw1⟩; have hrd1 : RD w1 g (.slice (some ⟨b, o, none⟩) (r.length + 1) c) 0 true := (by rw [hw1]; exact hrd); have hbh1 : HBN w1 g (.slice (cutP (some ⟨b, o, none⟩) c 1) r.length (c - 1)) r := (by rw [hw1]; exact hbh); have ho1 : Hid (Only g w w1) := (by show Only g w w1; rw [hw1]; exact (Only.refl g w).drewN n1); clear hw1 hbh c0 c1 c2 cx hrd he hcn))
    go_loopw [7, 52] (fun n i wr => i = .int .i64 0 ∧ n = .int .u64 0 ∧ w1 = wr) (fun _ _ _ => 0)
    case atStart => exact ⟨rfl, rfl, rfl⟩
    case round =>
      obtain ⟨rfl, rfl, rfl⟩ := hrel
      obtain ⟨c0, c1, c2⟩ := hrd1.cells
      have f0 := hrd1.free 0
      go_wp2
      go_ret
      refine ⟨?_, ?_, ho1.out.trans ((Only.refl g w1).setCell 0 _)⟩
      · rw [HU.out]; rfl
      · rw [HU.out]
        exact ⟨cutP (some ⟨b, o, none⟩) c 1, c - 1, hrd1.put0 _, hbh1.only ((Only.refl g w1).setCell 0 _)⟩

theorem uint_any (g : Nat) (l : List UInt8) (most : Int) (w : World) (h : RR w g l 0) : Calls Try.prog 64 #[.pointer (some ⟨g, 0, none⟩), .int .i64 most] w (UintSaid g w l most) := by
  cases l with
  | nil => exact uint_nil g most w h
  | cons x r =>
    by_cases h8 : 8 < x.toNat
    · refine (uint_big g x r most w h h8).mono fun y w' ⟨h1, h2, h3⟩ => ?_
      have hU : uintF (x :: r) most = (5, 0, []) := by simp only [uintF]; rw [if_pos h8]
      exact ⟨by rw [hU]; exact h1, by rw [hU]; exact h2, h3⟩
    · by_cases hs : r.length < x.toNat
      · refine (uint_short g x r most w h (by omega) hs).mono fun y w' ⟨h1, h2, h3⟩ => ?_
        have hU : uintF (x :: r) most = (3, 0, []) := by simp only [uintF]; rw [if_neg h8, if_pos hs]
        exact ⟨by rw [hU]; exact h1, by rw [hU]; exact h2, h3⟩
      · by_cases h0 : x.toNat = 0
        · exact uint_zero g x r most w h h0
        · exact uint_pos g x r most w h (by omega) (by omega) (by omega)

theorem RR.rd {w : World} {g : Nat} {l : List UInt8} {e : Int} (h : RR w g l e) : ∃ v, RD w g v e true := by
  obtain ⟨p, c, h1, _⟩ := h
  exact ⟨_, h1⟩

theorem rr_err (g : Nat) (l : List UInt8) (e : Int) (w : World) (h : RR w g l e) : Calls Try.prog 57 #[.pointer (some ⟨g, 0, none⟩)] w fun x w' => x = .returned (.int .i64 e) ∧ w' = w := by
  obtain ⟨v, h1⟩ := h.rd
  exact rerr_any g v e true w h1

theorem rr_left (g : Nat) (l : List UInt8) (e : Int) (w : World) (h : RR w g l e) : Calls Try.prog 36 #[.pointer (some ⟨g, 0, none⟩)] w fun x w' => x = .returned (.int .i64 (l.length : Int)) ∧ w' = w := by
  obtain ⟨p, c, h1, _⟩ := h
  exact rleft_any g p l.length c e true w h1

/-- Behind an error nothing is read. -/
theorem uint_stays (g : Nat) (l : List UInt8) (e most : Int) (w : World) (h : RR w g l e) (he : e ≠ 0) : Calls Try.prog 64 #[.pointer (some ⟨g, 0, none⟩), .int .i64 most] w fun x w' => x = .returned (.int .i64 0) ∧ w' = w := by
  have k := rr_err g l e w h
  have hd : (e == 0) = false := by simpa using he
  clear h
  go_enter Try.func64, Try.ntmps64
  go_wp2_with (first | (go_at_call 57; refine k.mono ?_; rintro e w' ⟨rfl, rfl⟩))
  go_ret
  exact ⟨rfl, rfl⟩

theorem flag_stays (g : Nat) (l : List UInt8) (e : Int) (w : World) (h : RR w g l e) (he : e ≠ 0) : Calls Try.prog 56 #[.pointer (some ⟨g, 0, none⟩)] w fun x w' => x = .returned (.bool false) ∧ w' = w := by
  have k := rr_err g l e w h
  have hd : (e == 0) = false := by simpa using he
  clear h
  go_enter Try.func56, Try.ntmps56
  go_wp2_with (first | (go_at_call 57; refine k.mono ?_; rintro e w' ⟨rfl, rfl⟩))
  go_ret
  exact ⟨rfl, rfl⟩

theorem bytes_stays (g : Nat) (l : List UInt8) (e most : Int) (w : World) (h : RR w g l e) (he : e ≠ 0) : Calls Try.prog 65 #[.pointer (some ⟨g, 0, none⟩), .int .i64 most] w fun x w' => x = .returned (.slice none 0 0) ∧ w' = w := by
  have k := rr_err g l e w h
  have k2 := uint_stays g l e most w h he
  have hd : (e == 0) = false := by simpa using he
  clear h
  go_enter Try.func65, Try.ntmps65
  go_wp2_with (first | (go_at_call 57; refine k.mono ?_; rintro e w' ⟨rfl, rfl⟩) | (go_at_call 64; refine k2.mono ?_; rintro e w' ⟨rfl, rfl⟩))
  go_ret
  exact ⟨rfl, rfl⟩

end Go.Proofs.Ytldmbfemoepfkaa
