/- What this text proves: the walk of annalsref16.SameAnswer over this program, at two answers that hold the same: true. (By program: mktlsame.py.) -/
import Derived.Test.YtldmbfemoepfkaaTlVoc
import Derived.Test.YtldmbfemoepfkaaOwn
namespace Go.Proofs.Ytldmbfemoepfkaa
open Go.RowKit

theorem hid_is {p : Prop} (h : p) : Hid p := h

set_option maxRecDepth 100000 in
set_option maxHeartbeats 3000000 in
theorem sameA_true (a : AA) (k1 i1 e1 k2 i2 e2 : Value) (w : World) (h1 : AnsV w a k1 i1 e1) (h2 : AnsV w a k2 i2 e2) :
    Calls Try.prog 11 #[.agg (ansC a k1 i1 e1), .agg (ansC a k2 i2 e2)] w fun x w' => x = .returned (.bool true) ∧ Below w.heap.size w w' := by
  obtain ⟨hk1, hi1, he1⟩ := h1
  obtain ⟨hk2, hi2, he2⟩ := h2
  obtain ⟨pk1, ck1, rfl⟩ := hk1.shape
  obtain ⟨pk2, ck2, rfl⟩ := hk2.shape
  obtain ⟨pi1, ci1, rfl⟩ := hi1.shape
  obtain ⟨pi2, ci2, rfl⟩ := hi2.shape
  obtain ⟨pe1, ce1, rfl⟩ := he1.shape
  obtain ⟨pe2, ce2, rfl⟩ := he2.shape
  obtain ⟨_, capi, _, mi1, mi2, _⟩ := id hi1
  obtain ⟨_, cape, _, me1, me2, _⟩ := id he1
  unfold maxLen at mi2 me2
  unfold ansC
  have b1 := (Below.refl w.heap.size w).alloc (Nat.le_refl _) (.cells #[.int .i64 a.code, .int .i64 a.ep, .bool a.pr, .bool a.sa, .slice pk1 a.key.length ck1, .int .i64 a.si, .slice pi1 a.its.length ci1, .slice pe1 a.evs.length ce1, .bool a.mo] 27)
  have a1 := CB.made 27 w #[.int .i64 a.code, .int .i64 a.ep, .bool a.pr, .bool a.sa, .slice pk1 a.key.length ck1, .int .i64 a.si, .slice pi1 a.its.length ci1, .slice pe1 a.evs.length ce1, .bool a.mo]
  have s1 : (w.alloc (.cells #[.int .i64 a.code, .int .i64 a.ep, .bool a.pr, .bool a.sa, .slice pk1 a.key.length ck1, .int .i64 a.si, .slice pi1 a.its.length ci1, .slice pe1 a.evs.length ce1, .bool a.mo] 27)).heap.size = w.heap.size + 1 := World.size_alloc _ _
  obtain ⟨w1, hw1⟩ : ∃ x, x = w.alloc (.cells #[.int .i64 a.code, .int .i64 a.ep, .bool a.pr, .bool a.sa, .slice pk1 a.key.length ck1, .int .i64 a.si, .slice pi1 a.its.length ci1, .slice pe1 a.evs.length ce1, .bool a.mo] 27) := ⟨_, rfl⟩
  rw [← hw1] at b1 a1 s1
  have b2 := (Below.refl w1.heap.size w1).alloc (Nat.le_refl _) (.cells #[.int .i64 a.code, .int .i64 a.ep, .bool a.pr, .bool a.sa, .slice pk2 a.key.length ck2, .int .i64 a.si, .slice pi2 a.its.length ci2, .slice pe2 a.evs.length ce2, .bool a.mo] 27)
  have a2 := CB.made 27 w1 #[.int .i64 a.code, .int .i64 a.ep, .bool a.pr, .bool a.sa, .slice pk2 a.key.length ck2, .int .i64 a.si, .slice pi2 a.its.length ci2, .slice pe2 a.evs.length ce2, .bool a.mo]
  rw [s1] at a2
  have A1 := a1.later b2
  have bX := b1.trans (b2.mono b1.size)
  have c1 := (hk1.later bX).str (P := Try.prog) 22 5 9 Try.underlying22 Try.underlying5 Try.underlying9
  have c2 := (hk2.later bX).str (P := Try.prog) 22 5 9 Try.underlying22 Try.underlying5 Try.underlying9
  have x0 := A1.cell (i := 0) rfl
  have x1 := A1.cell (i := 1) rfl
  have x2 := A1.cell (i := 2) rfl
  have x3 := A1.cell (i := 3) rfl
  have x4 := A1.cell (i := 4) rfl
  have x5 := A1.cell (i := 5) rfl
  have x6 := A1.cell (i := 6) rfl
  have x7 := A1.cell (i := 7) rfl
  have x8 := A1.cell (i := 8) rfl
  have y0 := a2.cell (i := 0) rfl
  have y1 := a2.cell (i := 1) rfl
  have y2 := a2.cell (i := 2) rfl
  have y3 := a2.cell (i := 3) rfl
  have y4 := a2.cell (i := 4) rfl
  have y5 := a2.cell (i := 5) rfl
  have y6 := a2.cell (i := 6) rfl
  have y7 := a2.cell (i := 7) rfl
  have y8 := a2.cell (i := 8) rfl
  have HA := hid_is A1
  have HB2 := hid_is a2
  have HX := hid_is bX
  rw [hw1] at c1 c2 x0 x1 x2 x3 x4 x5 x6 x7 x8 y0 y1 y2 y3 y4 y5 y6 y7 y8 HA HB2 HX
  clear hw1 a1 b1 b2 a2 A1 bX s1 hk1 hk2
  go_enter Try.func11, Try.ntmps11
  go_wp2
  go_loopw [5, 81] (fun _ i wr => ∃ k : Nat, k ≤ a.its.length ∧ i = .int .i64 (k : Int) ∧ Below w.heap.size w wr ∧ CB 27 wr w.heap.size #[.int .i64 a.code, .int .i64 a.ep, .bool a.pr, .bool a.sa, .slice pk1 a.key.length ck1, .int .i64 a.si, .slice pi1 a.its.length ci1, .slice pe1 a.evs.length ce1, .bool a.mo] ∧ CB 27 wr (w.heap.size + 1) #[.int .i64 a.code, .int .i64 a.ep, .bool a.pr, .bool a.sa, .slice pk2 a.key.length ck2, .int .i64 a.si, .slice pi2 a.its.length ci2, .slice pe2 a.evs.length ce2, .bool a.mo]) (fun _ i _ => a.its.length - (intOf i).toNat)
  case atStart => exact ⟨0, Nat.zero_le _, rfl, HX.out, HA.out, HB2.out⟩
  case round =>
    obtain ⟨k, hk, rfl, hb, hA, hB⟩ := hrel
    by_cases hlt : k < a.its.length
    · have hne : a.its ≠ [] := by intro h; rw [h] at hlt; simp at hlt
      obtain ⟨b1, o1, hp1, hx1⟩ := hi1.addr hne
      obtain ⟨b2, o2, hp2, hx2⟩ := hi2.addr hne
      obtain ⟨x, hxk⟩ : ∃ x, a.its[k]? = some x := ⟨_, List.getElem?_eq_getElem hlt⟩
      obtain ⟨q1, d1, r1, f1, g1⟩ := hx1 k x hxk
      obtain ⟨q2, d2, r2, f2, g2⟩ := hx2 k x hxk
      have hlt2 : (k : Int) < (a.its.length : Int) := by omega
      have bB1 := (Below.refl wr.heap.size wr).alloc (Nat.le_refl _) (.cells #[.slice q1 x.id.length d1, .slice r1 x.key.length f1, .int .i64 x.si] 58)
      have X1 := CB.made 58 wr #[.slice q1 x.id.length d1, .slice r1 x.key.length f1, .int .i64 x.si]
      have u1 := g1.later hb
      have hB1 := hB.later bB1
      have u2 := (g2.later hb).later bB1
      obtain ⟨W1, hW1⟩ : ∃ z, z = wr.alloc (.cells #[.slice q1 x.id.length d1, .slice r1 x.key.length f1, .int .i64 x.si] 58) := ⟨_, rfl⟩
      rw [← hW1] at bB1 X1 hB1 u2
      have bB2 := (Below.refl W1.heap.size W1).alloc (Nat.le_refl _) (.cells #[.slice q2 x.id.length d2, .slice r2 x.key.length f2, .int .i64 x.si] 58)
      have X2 := CB.made 58 W1 #[.slice q2 x.id.length d2, .slice r2 x.key.length f2, .int .i64 x.si]
      have hs1 : W1.heap.size = wr.heap.size + 1 := by rw [hW1]; simp
      rw [hs1] at X2
      have Y1 := X1.later bB2
      have bb : Below wr.heap.size wr _ := bB1.trans (bB2.mono bB1.size)
      have e1 := (g1.2.1.later (hb.trans (bb.mono hb.size))).str (P := Try.prog) 22 5 9 Try.underlying22 Try.underlying5 Try.underlying9
      have e2 := (g1.2.2.later (hb.trans (bb.mono hb.size))).str (P := Try.prog) 22 5 9 Try.underlying22 Try.underlying5 Try.underlying9
      have e3 := (g2.2.1.later (hb.trans (bb.mono hb.size))).str (P := Try.prog) 22 5 9 Try.underlying22 Try.underlying5 Try.underlying9
      have e4 := (g2.2.2.later (hb.trans (bb.mono hb.size))).str (P := Try.prog) 22 5 9 Try.underlying22 Try.underlying5 Try.underlying9
      have m0 := Y1.cell (i := 0) rfl
      have m1 := Y1.cell (i := 1) rfl
      have m2 := Y1.cell (i := 2) rfl
      have l0 := X2.cell (i := 0) rfl
      have l1 := X2.cell (i := 1) rfl
      have l2 := X2.cell (i := 2) rfl
      have cB := hB1.cell (i := 6) rfl
      obtain ⟨⟨s0, s1, s2⟩, _, _⟩ := u1
      obtain ⟨⟨t0, t1, t2⟩, _, _⟩ := u2
      have hb3 := hid_is (hb.trans (bb.mono hb.size))
      have hA3 := hid_is (hA.later bb)
      have hB3 := hid_is (hB.later bb)
      subst hp1 hp2
      rw [hW1] at cB t0 t1 t2 e1 e2 e3 e4 m0 m1 m2 l0 l1 l2 hb3 hA3 hB3
      clear hW1 X1 X2 Y1 bB1 bB2 bb hA hB hB1 g1 g2 hx1 hx2 hxk hb
      go_wp2
      go_roundw
      case rel => first | exact ⟨k + 1, by omega, by go_num, hb3.out, hA3.out, hB3.out⟩ | ((repeat apply Exists.intro); exact ⟨⟨k + 1, by omega, by go_num, hb3.out, hA3.out, hB3.out⟩, rfl⟩)
      case measure => simp [intOf]; omega
    · obtain rfl : k = a.its.length := by omega
      have m7 : wr.cell? ⟨w.heap.size, 7, none⟩ = some (.slice pe1 a.evs.length ce1) := hA.cell rfl
      go_wp2
      clear m7
      go_loopw [8, 118] (fun _ i wr => ∃ k : Nat, k ≤ a.evs.length ∧ i = .int .i64 (k : Int) ∧ Below w.heap.size w wr ∧ CB 27 wr w.heap.size #[.int .i64 a.code, .int .i64 a.ep, .bool a.pr, .bool a.sa, .slice pk1 a.key.length ck1, .int .i64 a.si, .slice pi1 a.its.length ci1, .slice pe1 a.evs.length ce1, .bool a.mo] ∧ CB 27 wr (w.heap.size + 1) #[.int .i64 a.code, .int .i64 a.ep, .bool a.pr, .bool a.sa, .slice pk2 a.key.length ck2, .int .i64 a.si, .slice pi2 a.its.length ci2, .slice pe2 a.evs.length ce2, .bool a.mo]) (fun _ i _ => a.evs.length - (intOf i).toNat)
      case atStart => exact ⟨0, Nat.zero_le _, rfl, hb, hA, hB⟩
      case round =>
        obtain ⟨k, hk, rfl, hb, hA, hB⟩ := hrel
        by_cases hlt : k < a.evs.length
        · have hne : a.evs ≠ [] := by intro h; rw [h] at hlt; simp at hlt
          obtain ⟨b1, o1, hp1, hx1⟩ := he1.addr hne
          obtain ⟨b2, o2, hp2, hx2⟩ := he2.addr hne
          obtain ⟨x, hxk⟩ : ∃ x, a.evs[k]? = some x := ⟨_, List.getElem?_eq_getElem hlt⟩
          obtain ⟨q1, d1, r1, f1, g1⟩ := hx1 k x hxk
          obtain ⟨q2, d2, r2, f2, g2⟩ := hx2 k x hxk
          have hlt2 : (k : Int) < (a.evs.length : Int) := by omega
          have bB1 := (Below.refl wr.heap.size wr).alloc (Nat.le_refl _) (.cells #[.int .i64 x.e, .int .i64 x.i, .slice q1 x.id.length d1, .slice r1 x.key.length f1] 61)
          have X1 := CB.made 61 wr #[.int .i64 x.e, .int .i64 x.i, .slice q1 x.id.length d1, .slice r1 x.key.length f1]
          have u1 := g1.later hb
          have hB1 := hB.later bB1
          have u2 := (g2.later hb).later bB1
          obtain ⟨W1, hW1⟩ : ∃ z, z = wr.alloc (.cells #[.int .i64 x.e, .int .i64 x.i, .slice q1 x.id.length d1, .slice r1 x.key.length f1] 61) := ⟨_, rfl⟩
          rw [← hW1] at bB1 X1 hB1 u2
          have bB2 := (Below.refl W1.heap.size W1).alloc (Nat.le_refl _) (.cells #[.int .i64 x.e, .int .i64 x.i, .slice q2 x.id.length d2, .slice r2 x.key.length f2] 61)
          have X2 := CB.made 61 W1 #[.int .i64 x.e, .int .i64 x.i, .slice q2 x.id.length d2, .slice r2 x.key.length f2]
          have hs1 : W1.heap.size = wr.heap.size + 1 := by rw [hW1]; simp
          rw [hs1] at X2
          have Y1 := X1.later bB2
          have bb : Below wr.heap.size wr _ := bB1.trans (bB2.mono bB1.size)
          have e1 := (g1.2.1.later (hb.trans (bb.mono hb.size))).str (P := Try.prog) 22 5 9 Try.underlying22 Try.underlying5 Try.underlying9
          have e2 := (g1.2.2.later (hb.trans (bb.mono hb.size))).str (P := Try.prog) 22 5 9 Try.underlying22 Try.underlying5 Try.underlying9
          have e3 := (g2.2.1.later (hb.trans (bb.mono hb.size))).str (P := Try.prog) 22 5 9 Try.underlying22 Try.underlying5 Try.underlying9
          have e4 := (g2.2.2.later (hb.trans (bb.mono hb.size))).str (P := Try.prog) 22 5 9 Try.underlying22 Try.underlying5 Try.underlying9
          have m0 := Y1.cell (i := 0) rfl
          have m1 := Y1.cell (i := 1) rfl
          have m2 := Y1.cell (i := 2) rfl
          have m3 := Y1.cell (i := 3) rfl
          have l0 := X2.cell (i := 0) rfl
          have l1 := X2.cell (i := 1) rfl
          have l2 := X2.cell (i := 2) rfl
          have l3 := X2.cell (i := 3) rfl
          have cB := hB1.cell (i := 7) rfl
          obtain ⟨⟨s0, s1, s2, s3⟩, _, _⟩ := u1
          obtain ⟨⟨t0, t1, t2, t3⟩, _, _⟩ := u2
          have hb3 := hid_is (hb.trans (bb.mono hb.size))
          have hA3 := hid_is (hA.later bb)
          have hB3 := hid_is (hB.later bb)
          subst hp1 hp2
          rw [hW1] at cB t0 t1 t2 t3 e1 e2 e3 e4 m0 m1 m2 m3 l0 l1 l2 l3 hb3 hA3 hB3
          clear hW1 X1 X2 Y1 bB1 bB2 bb hA hB hB1 g1 g2 hx1 hx2 hxk hb
          go_wp2
          go_roundw
          case rel => first | exact ⟨k + 1, by omega, by go_num, hb3.out, hA3.out, hB3.out⟩ | ((repeat apply Exists.intro); exact ⟨⟨k + 1, by omega, by go_num, hb3.out, hA3.out, hB3.out⟩, rfl⟩)
          case measure => simp [intOf]; omega
        · obtain rfl : k = a.evs.length := by omega
          have bF := hb
          clear hb hA hB
          go_wp2
          go_ret
          exact ⟨rfl, bF⟩

end Go.Proofs.Ytldmbfemoepfkaa
