/- What this text proves: the walks of the reader's Bytes and Flag and of Open over this program. -/
import Derived.Test.YtldmbfemoepfkaaRdAny
import Derived.Test.YtldmbfemoepfkaaCopyPart
namespace Go.Proofs.Ytldmbfemoepfkaa
open Go.RowKit

/-- What Flag answers. -/
def FlagSaid (g : Nat) (w : World) (l : List UInt8) (x : Ending) (w' : World) : Prop := x = .returned (.bool (flagF l).2.1) ∧ RR w' g (flagF l).2.2 (flagF l).1 ∧ Only g w w'

set_option maxHeartbeats 1000000 in
theorem flag_any (g : Nat) (l : List UInt8) (w : World) (h : RR w g l 0) : Calls Try.prog 56 #[.pointer (some ⟨g, 0, none⟩)] w (FlagSaid g w l) := by
  have k := rr_err g l 0 w h
  obtain ⟨p, c, hrd, hh, hnb⟩ := h
  obtain ⟨c0, c1, c2⟩ := hrd.cells
  cases l with
  | nil =>
    simp only [List.length_nil] at c0 hrd
    go_enter Try.func56, Try.ntmps56
    go_wp2_with (first | (go_at_call 57; refine k.mono ?_; rintro e w' ⟨rfl, hw⟩; have hw2 := hw.symm; clear hw; subst hw2) | (go_at_call 58; refine (fail_said g _ 3 _ hrd).mono ?_; rintro e w2 ⟨rfl, hr2, ho2⟩))
    go_ret
    exact ⟨rfl, hr2, ho2⟩
  | cons x r =>
    obtain ⟨b, o, rfl, hc⟩ := hh.addr (by simp)
    have cx := hc 0 x rfl
    unfold bc at cx
    simp only [Nat.add_zero] at cx
    have hlen := hh.len.2
    unfold maxLen at hlen
    simp only [List.length_cons] at c0 hrd hlen hh hnb
    have hx := x.toNat_lt
    have hl0 : ¬ ((r.length : Int) + 1 = 0) := by omega
    clear hc
    by_cases h1 : 1 < x.toNat
    · have h12 : (1 : Int) < (x.toNat : Int) := by omega
      have HF : Hid (flagF (x :: r) = (5, false, [])) := by show flagF (x :: r) = _; simp only [flagF]; rw [if_pos h1]
      clear hh hnb
      go_enter Try.func56, Try.ntmps56
      go_wp2_with (first | (go_at_call 57; refine k.mono ?_; rintro e w' ⟨rfl, hw⟩; have hw2 := hw.symm; clear hw; subst hw2) | (go_at_call 58; refine (fail_said g _ 5 _ hrd).mono ?_; rintro e w2 ⟨rfl, hr2, ho2⟩))
      go_ret
      refine ⟨?_, ?_, ho2⟩
      · rw [HF.out]; rfl
      · rw [HF.out]; exact hr2
    · have h12 : (x.toNat : Int) ≤ 1 := by omega
      have hbx : ((x.toNat : Int) == 1) = (x == 1) := by
        rcases Nat.eq_zero_or_pos x.toNat with h0 | h0
        · obtain rfl : x = 0 := UInt8.toNat_inj.1 (by simpa using h0)
          rfl
        · obtain rfl : x = 1 := UInt8.toNat_inj.1 (by simp; omega)
          rfl
      have HF : Hid (flagF (x :: r) = (0, x == 1, r)) := by show flagF (x :: r) = _; simp only [flagF]; rw [if_neg h1]
      have k3 : ∀ w, (Instr.slice 22 (.slice (some ⟨b, o, none⟩) (r.length + 1) c) (some (.int .i64 1)) none none).run Try.prog w = .ok (.slice (cutP (some ⟨b, o, none⟩) c 1) r.length (c - 1)) w := by
        intro w
        have := run_cut (P := Try.prog) Try.underlying22 s_u8 (some ⟨b, o, none⟩) (r.length + 1) c 1 1 rfl (by omega) w
        rwa [show r.length + 1 - 1 = r.length by omega] at this
      have hbh := HBN.behind (g := g) ⟨hh, hnb⟩ 1 (by omega)
      rw [show r.length + 1 - 1 = r.length by omega] at hbh
      simp only [List.drop_succ_cons, List.drop_zero] at hbh
      have f0 := hrd.free 0
      have HX : Hid (((x.toNat : Int) == 1) = (x == 1)) := hbx
      clear hh hnb hbx
      go_enter Try.func56, Try.ntmps56
      go_wp2_with (first | (go_at_call 57; refine k.mono ?_; rintro e w' ⟨rfl, hw⟩; have hw2 := hw.symm; clear hw; subst hw2))
      go_ret
      refine ⟨?_, ?_, (Only.refl g w).setCell 0 _⟩
      · rw [HF.out]
        refine congrArg (fun z => Ending.returned (Value.bool z)) ?_
        exact HX.out
      · rw [HF.out]
        exact ⟨cutP (some ⟨b, o, none⟩) c 1, c - 1, hrd.put0 _, hbh.only ((Only.refl g w).setCell 0 _)⟩

theorem uintF_le (l : List UInt8) (most : Int) : (uintF l most).2.2.length ≤ l.length := by
  cases l with
  | nil => simp [uintF]
  | cons x r =>
    simp only [uintF]
    repeat' split
    all_goals simp
    omega

theorem uintF_err (l : List UInt8) (most : Int) : (uintF l most).1 = 0 ∨ (uintF l most).1 = 3 ∨ (uintF l most).1 = 4 ∨ (uintF l most).1 = 5 := by
  cases l with
  | nil => simp [uintF]
  | cons x r =>
    simp only [uintF]
    repeat' split
    all_goals simp

theorem uintF_fell (l : List UInt8) (most : Int) (h : (uintF l most).1 ≠ 0) : (uintF l most).2 = (0, []) := by
  cases l with
  | nil => simp [uintF]
  | cons x r =>
    revert h
    simp only [uintF]
    repeat' split
    all_goals simp

/-- What Bytes answers. -/
def BytesSaid (g : Nat) (w : World) (l : List UInt8) (most : Int) (x : Ending) (w' : World) : Prop := ∃ p c, x = .returned (.slice p (bytesF l most).2.1.length c) ∧ HBN w' g (.slice p (bytesF l most).2.1.length c) (bytesF l most).2.1 ∧ RR w' g (bytesF l most).2.2 (bytesF l most).1 ∧ Only g w w'

set_option maxHeartbeats 1000000 in
theorem bytes_any (g : Nat) (l : List UInt8) (most : Int) (w : World) (h : RR w g l 0) (hsz : l.length ≤ 140737488355328) : Calls Try.prog 65 #[.pointer (some ⟨g, 0, none⟩), .int .i64 most] w (BytesSaid g w l most) := by
  have ku := uint_any g l most w h
  have hle := uintF_le l most
  have hfe : (uintF l most).1 ≠ 0 → (uintF l most).2.2 = [] := fun h => by rw [uintF_fell l most h]
  have hB : bytesF l most = if (uintF l most).1 ≠ 0 then ((uintF l most).1, [], []) else if (uintF l most).2.2.length < (uintF l most).2.1 then (3, [], []) else (0, (uintF l most).2.2.take (uintF l most).2.1, (uintF l most).2.2.drop (uintF l most).2.1) := rfl
  unfold UintSaid at ku
  unfold BytesSaid
  generalize bytesF l most = B at *
  generalize (uintF l most).1 = E at *
  generalize (uintF l most).2.1 = N at *
  generalize (uintF l most).2.2 = R at *
  clear h
  obtain ⟨i0, hi, hz0, hz1, hz2⟩ := info_parts i_u8
  by_cases hE : E = 0
  · subst hE
    rw [if_neg (by simp)] at hB
    by_cases hN : R.length < N
    · rw [if_pos hN] at hB
      have HB3 : Hid (B = (3, [], [])) := hB
      have hN2 : (R.length : Int) < (N : Int) := by omega
      clear hB
      go_enter Try.func65, Try.ntmps65
      go_wp2_with fail
      refine ku.mono ?_
      rintro e w1 ⟨rfl, hr1, ho1⟩
      have k1 := rr_err g R 0 w1 hr1
      obtain ⟨p, c, hrd, hh, hnb⟩ := hr1
      obtain ⟨c0, c1, c2⟩ := hrd.cells
      clear ku hh hnb
      go_wp2_with (first | (go_at_call 57; refine k1.mono ?_; rintro e w' ⟨rfl, hw⟩; have hw2 := hw.symm; clear hw; subst hw2) | (go_at_call 58; refine (fail_said g _ 3 _ hrd).mono ?_; rintro e w2 ⟨rfl, hr2, ho2⟩))
      go_ret
      rw [HB3.out]
      exact ⟨none, 0, rfl, HBN.nil _ _, hr2, ho1.trans ho2⟩
    · rw [if_neg hN] at hB
      have hN2 : (N : Int) ≤ (R.length : Int) := by omega
      have HB3 : Hid (B = (0, R.take N, R.drop N)) := hB
      have HTL : Hid ((R.take N).length = N) := by show _ = _; rw [List.length_take]; omega
      have HDL : Hid ((R.drop N).length = R.length - N) := by show _ = _; rw [List.length_drop]
      clear hB
      go_enter Try.func65, Try.ntmps65
      go_wp2_with fail
      refine ku.mono ?_
      rintro e w1 ⟨rfl, hr1, ho1⟩
      have k1 := rr_err g R 0 w1 hr1
      obtain ⟨p, c, hrd, hh, hnb⟩ := hr1
      obtain ⟨c0, c1, c2⟩ := hrd.cells
      have hgl := hrd.lt
      have hh1 : Hid (HB w1 (.slice p R.length c) R) := hh
      have hlen := hh.len.2
      unfold maxLen at hlen
      clear ku
      go_wp2_with (first | (go_at_call 57; refine k1.mono ?_; rintro e w' ⟨rfl, hw⟩; have hw2 := hw.symm; clear hw; subst hw2) | (at_make; refine wpList_make_full _ rfl _ _ 22 rfl w1.heap.size 5 i0 (.int .u8 0) 1 Try.underlying22 hi hz0 hz1 .i64 .i64 _ _ N rfl rfl ?qa ?qb ?qc ?qd ?qe ?_))
      case qa => rfl
      case qb => rfl
      case qc => rw [hz2]; omega
      case qd => unfold maxLen; omega
      case qe => exact Nat.le_refl _
      intro w2 hown2 hgrow2
      have hb2 : Below w1.heap.size w1 w2 := (Below.refl _ w1).grown hgrow2 (Nat.le_refl _) (by intro k hk; cases hk)
      have hrd2 := hrd.later hb2
      have hh2 := hh.later hb2
      obtain ⟨c0', _, _⟩ := hrd2.cells
      clear hgrow2 c0 c1 c2 hrd hh k1
      go_wp2_with (refine wpList_copy_part rfl (.tmp 24) (.tmp 28) 22 22 rfl 5 Try.underlying22 s_u8 w1.heap.size N _ _ _ rfl rfl w1.heap.size _ hown2 R hh2 ?ra ?_)
      case ra => omega
      intro w3 hown3 hgrow3
      have hb3 : Below w1.heap.size w1 w3 := hb2.grown hgrow3 hb2.size (by intro k hk; cases hk; exact Nat.le_refl _)
      have hrd3 : RD w3 g (.slice p R.length c) 0 true := by
        unfold RD
        rw [hb3.block g hgl, ← hb2.block g hgl]
        exact hrd2
      have hR3 : HBN w3 g (.slice p R.length c) R := by
        have h1 : HBN w1 g (.slice p R.length c) R := ⟨hh1.out, hnb⟩
        exact h1.later hb3
      clear hgrow3 hown2 hh2 c0' hrd2
      obtain ⟨c0, _, _⟩ := hrd3.cells
      have f0 := hrd3.free 0
      have k3 : ∀ w, (Instr.slice 22 (.slice p R.length c) (some (.int .i64 (N : Int))) none none).run Try.prog w = .ok (.slice (cutP p c N) (R.length - N) (c - N)) w := fun w => run_cut (P := Try.prog) Try.underlying22 s_u8 p R.length c N (N : Int) rfl (by omega) w
      have hbh := hR3.behind N (by omega)
      have htx : HBN w3 g (.slice (some ⟨w1.heap.size, 0, none⟩) N N) (R.take N) := ⟨HB.of_owns hown3, fun a n c e => ⟨by cases e; simp; omega, TY.of_owns hown3 e⟩⟩
      clear hown3 hR3
      go_wp2
      go_ret
      rw [HB3.out]
      have ho3 : Only g w1 w3 := Only.of_below hb3 (by omega)
      have hos : Only g w3 (w3.setCell ⟨g, 0, none⟩ (.slice (cutP p c N) (R.length - N) (c - N))) := (Only.refl g w3).setCell 0 _
      refine ⟨some ⟨w1.heap.size, 0, none⟩, N, ?_, ?_, ⟨cutP p c N, c - N, ?_, ?_⟩, (ho1.trans ho3).trans hos⟩
      · simp only [HTL.out]; rfl
      · simp only [HTL.out]; exact htx.only hos
      · simp only [HDL.out]; exact hrd3.put0 _
      · simp only [HDL.out]; exact hbh.only hos
  · rw [if_pos hE] at hB
    have HB3 : Hid (B = (E, [], [])) := hB
    have hd : (E == 0) = false := by simpa using hE
    clear hB
    go_enter Try.func65, Try.ntmps65
    go_wp2_with fail
    refine ku.mono ?_
    rintro e w1 ⟨rfl, hr1, ho1⟩
    have k1 := rr_err g R E w1 hr1
    clear ku
    go_wp2_with (first | (go_at_call 57; refine k1.mono ?_; rintro e w' ⟨rfl, hw⟩; have hw2 := hw.symm; clear hw; subst hw2))
    go_ret
    rw [HB3.out]
    rw [hfe hE] at hr1
    exact ⟨none, 0, rfl, HBN.nil _ _, hr1, ho1⟩

set_option maxHeartbeats 1000000 in
theorem open_any (v : Value) (l : List UInt8) (w : World) (h : HB w v l) (hsz : l.length ≤ 140737488355328) :
    Calls Try.prog 29 #[v] w fun x w' => ∃ g, w.heap.size ≤ g ∧ x = .returned (.pointer (some ⟨g, 0, none⟩)) ∧ RR w' g l 0 ∧ Below w.heap.size w w' := by
  obtain ⟨p, c, rfl⟩ := h.shape
  go_enter Try.func29, Try.ntmps29
  go_wp2_with (first | (at_builtin; refine wpList_append_hb rfl (.const (.slice none 0 0)) (.tmp 3) 22 rfl w.heap.size 5 Try.underlying22 i_u8 _ 0 [] rfl (World.ownsRow_nil w _ _ _) _ _ _ l rfl h ?qa ?qb ?_))
  case qa => omega
  case qb => exact Nat.le_refl _
  intro v1 w1 hown1 hgrow1
  have hb1 : Below w.heap.size w w1 := (Below.refl _ w).grown hgrow1 (Nat.le_refl _) (by intro k hk; cases hk)
  have hown1' : w1.ownsRow w.heap.size 5 1 v1 l.length (bcs l) := by simpa using hown1
  have hlt := hown1'.lt
  obtain ⟨p1, c1, rfl⟩ := owns_shape hown1'
  have hh := HB.of_owns hown1'
  have hty := fun a n c (e : Value.slice p1 l.length c1 = .slice (some a) n c) => TY.of_owns hown1' e
  clear hgrow1 hown1 hown1'
  go_wp2
  go_ret
  refine ⟨w1.heap.size, hb1.size, rfl, ⟨p1, c1, heap_alloc_new w1 _, hh.later ((Below.refl _ w1).alloc (Nat.le_refl _) _), fun a n c e => ?_⟩, hb1.alloc hb1.size _⟩
  have := (hlt a.block (by rw [e]; rfl)).2
  exact ⟨by omega, (hty a n c e).later ((Below.refl _ w1).alloc (Nat.le_refl _) _)⟩

end Go.Proofs.Ytldmbfemoepfkaa
