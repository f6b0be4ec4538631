/- What this text proves: the walks of the reader's counted and Uint over this program. -/
import Derived.Test.YtldmbfemoepfkaaRdVocab
namespace Go.Proofs.Ytldmbfemoepfkaa
open Go.RowKit

theorem wrapI (n : Nat) (h : n ≤ 9223372036854775807) : IntKind.i64.wrap (n : Int) = (n : Int) := by
  rw [IntKind.wrap_i64]
  omega

set_option maxHeartbeats 1000000 in
theorem counted_short (g : Nat) (l : List UInt8) (w : World) (h : RR w g l 0) (hs : ∀ c r, l = c :: r → r.length < c.toNat) :
    Calls Try.prog 66 #[.pointer (some ⟨g, 0, none⟩)] w fun x w' => x = .returned (.tuple #[.slice none 0 0, .bool false]) ∧ ∃ n, w' = w.drewN n := by
  obtain ⟨p, c, hrd, hh, _⟩ := h
  obtain ⟨c0, c1, c2⟩ := hrd.cells
  cases l with
  | nil =>
    clear hrd hh hs
    simp only [List.length_nil] at c0
    go_enter Try.func66, Try.ntmps66
    go_wp2
    go_quiet (fail)
    go_wp2
    go_ret2
    exact ⟨rfl, _, rfl⟩
  | cons x r =>
    have hlt := hs x r rfl
    obtain ⟨b, o, rfl, hc⟩ := hh.addr (by simp)
    have cx := hc 0 x rfl
    unfold bc at cx
    simp only [Nat.add_zero] at cx
    have hm := hh.len.2.2.1
    have hlc := hh.len.2.1
    unfold maxLen at hm
    simp only [List.length_cons] at c0 hlc
    have hx := x.toNat_lt
    have hlt2 : (r.length : Int) < (x.toNat : Int) := by omega
    have hw1 := wrapI r.length (by omega)
    have hw2 := wrapI x.toNat (by omega)
    clear hrd hh hs hc
    go_enter Try.func66, Try.ntmps66
    go_wp2
    go_quiet (fail)
    go_wp2
    go_ret2
    exact ⟨rfl, _, rfl⟩

set_option maxHeartbeats 1000000 in
theorem counted_ok (g : Nat) (x : UInt8) (r : List UInt8) (w : World) (b o c : Nat) (hrd : RD w g (.slice (some ⟨b, o, none⟩) (r.length + 1) c) 0 true) (hh : HB w (.slice (some ⟨b, o, none⟩) (r.length + 1) c) (x :: r)) (hs : x.toNat ≤ r.length) :
    Calls Try.prog 66 #[.pointer (some ⟨g, 0, none⟩)] w fun y w' => y = .returned (.tuple #[.slice (cutP (some ⟨b, o, none⟩) c 1) x.toNat (c - 1), .bool true]) ∧ ∃ n, w' = w.drewN n := by
  obtain ⟨c0, c1, c2⟩ := hrd.cells
  obtain ⟨b', o', e, hc⟩ := hh.addr (by simp)
  simp only [Option.some.injEq, Addr.mk.injEq, and_true] at e
  obtain ⟨rfl, rfl⟩ := e
  have cx := hc 0 x rfl
  unfold bc at cx
  simp only [Nat.add_zero] at cx
  have hm := hh.len.2.2.1
  have hlc := hh.len.2.1
  unfold maxLen at hm
  have hx := x.toNat_lt
  have hlt2 : (x.toNat : Int) ≤ (r.length : Int) := by omega
  have hw1 := wrapI r.length (by omega)
  have hw2 := wrapI x.toNat (by omega)
  have hw3 : IntKind.i64.wrap (1 + (x.toNat : Int)) = 1 + (x.toNat : Int) := by rw [IntKind.wrap_i64]; omega
  have k3 : ∀ w, (Instr.slice 22 (.slice (some ⟨b, o, none⟩) (r.length + 1) c) (some (.int .i64 1)) (some (.int .i64 (1 + (x.toNat : Int)))) none).run Try.prog w = .ok (.slice (cutP (some ⟨b, o, none⟩) c 1) x.toNat (c - 1)) w := by
    intro w
    have := run_cut2 (P := Try.prog) Try.underlying22 s_u8 (some ⟨b, o, none⟩) (r.length + 1) c 1 (1 + x.toNat) 1 (1 + (x.toNat : Int)) rfl (by omega) (by omega) (by omega) w
    rwa [show 1 + x.toNat - 1 = x.toNat by omega] at this
  have hd : decide ((r.length : Int) < (x.toNat : Int)) = false := by simp; omega
  have hdn : decide (r.length < x.toNat) = false := by simp; omega
  have hz : ((r.length : Int) + 1 == 0) = false := by simp; omega
  clear hrd hh hs hc
  go_enter Try.func66, Try.ntmps66
  go_wp2
  go_quiet (fail)
  have c0' : (w.drewN nq).cell? ⟨g, 0, none⟩ = some (.slice (some ⟨b, o, none⟩) (r.length + 1) c) := c0
  have cx' : (w.drewN nq).cell? ⟨b, o, none⟩ = some (.int .u8 (x.toNat : Int)) := cx
  have hwn : Hid (∃ n, w.drewN nq = w.drewN n) := ⟨_, rfl⟩
  clear c0 cx c1 c2
  generalize w.drewN nq = w2 at *
  go_wp2
  go_quiet (fail)
  go_wp2
  go_ret2
  obtain ⟨n2, hwn⟩ := hwn.out
  refine ⟨rfl, n2 + nq, ?_⟩
  rw [hwn, World.drewN_drewN]

end Go.Proofs.Ytldmbfemoepfkaa
