/- What this text proves: the walk of the document's Check (annalsref12) over this program: what is wrong with a batch. -/
import Derived.Test.YtcdikkgkjjopmaaGreatDoorJB1
namespace Go.Proofs.YtcdikkgkjjopmaaGreatDoor
open Go.RowKit

theorem run_bupto {P : Program} {t e : TypeId} (ht : P.underlying t = some (.slice e)) (hsz : (P.info? e).map (·.size) = some 2) (p : Option Addr) (n c h : Nat) (y : Int) (hy : y = (h : Int)) (hh : h ≤ c) (w : World) :
    (Instr.slice t (.slice p n c) none (some (.int .i64 y)) none).run P w = .ok (.slice p h c) w := by
  subst hy
  obtain ⟨i, hi, hs⟩ := Option.map_eq_some_iff.1 hsz
  have he : P.elem t = e := by simp [Program.elem, ht]
  rw [run_slice_h w t p n c (by rw [he]; exact ht) .i64 (h : Int) (by omega) (by omega), he]
  cases p <;> simp [Go.sizeOf, typeInfo, hi, hs, sliced, Result.andThen, Addr.add]

set_option maxRecDepth 100000 in
set_option maxHeartbeats 2000000 in
theorem rcheck_any (a b mi mk c' d' e' f' : Int) (v : Value) (bs : List (List UInt8 × List UInt8)) (w : World) (h : BA w v bs) :
    Calls Tryz.prog 40 #[.agg #[.int .i64 a, .int .i64 b, .int .i64 mi, .int .i64 mk, .int .i64 c', .int .i64 d', .int .i64 e', .int .i64 f'], v] w fun x w' => ∃ e, x = .returned (.int .i64 e) ∧ ChkIs mi mk bs e ∧ Below w.heap.size w w' := by
  obtain ⟨p, c, rfl⟩ := h.shape
  have hlen := h.len.2
  unfold maxLen at hlen
  have b0 := (Below.refl w.heap.size w).alloc (Nat.le_refl _) (.cells #[.int .i64 a, .int .i64 b, .int .i64 mi, .int .i64 mk, .int .i64 c', .int .i64 d', .int .i64 e', .int .i64 f'] 23)
  have g0 := heap_alloc_new w (.cells #[.int .i64 a, .int .i64 b, .int .i64 mi, .int .i64 mk, .int .i64 c', .int .i64 d', .int .i64 e', .int .i64 f'] 23)
  have s0 : (w.alloc (.cells #[.int .i64 a, .int .i64 b, .int .i64 mi, .int .i64 mk, .int .i64 c', .int .i64 d', .int .i64 e', .int .i64 f'] 23)).heap.size = w.heap.size + 1 := by simp
  obtain ⟨V, hV⟩ : ∃ V, V = w.alloc (.cells #[.int .i64 a, .int .i64 b, .int .i64 mi, .int .i64 mk, .int .i64 c', .int .i64 d', .int .i64 e', .int .i64 f'] 23) := ⟨_, rfl⟩
  rw [← hV] at b0 g0 s0
  have hV1 := h.later b0
  clear h
  by_cases hz : bs.length = 0
  · have H : Hid (ChkIs mi mk bs 82) := .inl ⟨List.eq_nil_of_length_eq_zero hz, rfl⟩
    have n0 : ((bs.length : Int) == 0) = true := beq_iff_eq.2 (by omega)
    clear hV1 g0
    go_enter Tryz.func40, Tryz.ntmps40
    go_wp2
    rw [← hV]
    go_ret
    exact ⟨_, rfl, H.out, b0⟩
  · have n0 : ((bs.length : Int) == 0) = false := beq_eq_false_iff_ne.2 (by omega)
    by_cases h32 : 32 < bs.length
    · have H : Hid (ChkIs mi mk bs 4) := .inr (.inl ⟨h32, rfl⟩)
      have n1 : (32 : Int) < (bs.length : Int) := by omega
      clear hV1 g0 hz
      go_enter Tryz.func40, Tryz.ntmps40
      go_wp2
      rw [← hV]
      go_ret
      exact ⟨_, rfl, H.out, b0⟩
    · have n1 : decide ((32 : Int) < (bs.length : Int)) = false := by simp; omega
      have hne : Hid (bs ≠ []) := fun e => hz (by rw [e]; rfl)
      clear hz
      go_enter Tryz.func40, Tryz.ntmps40
      go_wp2
      rw [← hV]
      clear hV
      go_loopw [19] (fun i wr => ∃ k : Nat, k ≤ bs.length ∧ i = .int .i64 (k : Int) ∧ Hid (¬ longB mi mk (bs.take k)) ∧ Below V.heap.size V wr) (fun i _ => bs.length - (Go.RowKit.intOf i).toNat)
      case atStart => exact ⟨0, Nat.zero_le _, rfl, (by rintro ⟨x, hx, _⟩; simp at hx), Below.refl _ _⟩
      case round =>
        obtain ⟨k, hk, rfl, hH, hb⟩ := hrel
        have hsz := hb.size
        by_cases hlt : k < bs.length
        · obtain ⟨bl, o, rfl⟩ := hV1.addr (by omega)
          obtain ⟨x, q, kc, r, d, hx, c1, c2, h1, h2⟩ := hV1.get k hlt
          have hlt2 : (k : Int) < (bs.length : Int) := by omega
          have e1 := cell_later hb c1
          have e2 := cell_later hb c2
          have gW : wr.heap[w.heap.size]? = some (.cells #[.int .i64 a, .int .i64 b, .int .i64 mi, .int .i64 mk, .int .i64 c', .int .i64 d', .int .i64 e', .int .i64 f'] 23 (0, 0)) := (hb.block _ (by omega)).trans g0
          have bA := (Below.refl wr.heap.size wr).alloc (Nat.le_refl _) (.cells #[.slice q x.1.length kc, .slice r x.2.length d] 62)
          have gA : (wr.alloc (.cells #[.slice q x.1.length kc, .slice r x.2.length d] 62)).heap[w.heap.size]? = some (.cells #[.int .i64 a, .int .i64 b, .int .i64 mi, .int .i64 mk, .int .i64 c', .int .i64 d', .int .i64 e', .int .i64 f'] 23 (0, 0)) := (bA.block _ (by omega)).trans gW
          have p2 : (wr.alloc (.cells #[.slice q x.1.length kc, .slice r x.2.length d] 62)).cell? ⟨w.heap.size, 2, none⟩ = some (.int .i64 mi) := by rw [cell_of_row _ _ 2 _ _ _ gA]; rfl
          have p3 : (wr.alloc (.cells #[.slice q x.1.length kc, .slice r x.2.length d] 62)).cell? ⟨w.heap.size, 3, none⟩ = some (.int .i64 mk) := by rw [cell_of_row _ _ 3 _ _ _ gA]; rfl
          have hb1 := hb.alloc hsz (.cells #[.slice q x.1.length kc, .slice r x.2.length d] 62)
          have htk : bs.take (k + 1) = bs.take k ++ [x] := by rw [List.take_add_one, hx]; rfl
          have hmem : x ∈ bs := List.mem_of_getElem? hx
          by_cases l1 : mi < (x.1.length : Int)
          · have H : Hid (ChkIs mi mk bs 1) := .inr (.inr (.inl ⟨hne.out, by omega, ⟨x, hmem, .inl l1⟩, rfl⟩))
            have HB0 : Hid (Below w.heap.size w (wr.alloc (.cells #[.slice q x.1.length kc, .slice r x.2.length d] 62))) := b0.trans (hb1.mono (by omega))
            clear hH hx h1 h2 bA c1 c2 htk hmem gA gW g0 hV1 hne hb hb1
            go_wp2
            go_ret
            exact ⟨_, rfl, H.out, HB0.out⟩
          · have d1 : decide (mi < (x.1.length : Int)) = false := by simpa using l1
            by_cases l2 : mk < (x.2.length : Int)
            · have H : Hid (ChkIs mi mk bs 1) := .inr (.inr (.inl ⟨hne.out, by omega, ⟨x, hmem, .inr l2⟩, rfl⟩))
              have HB0 : Hid (Below w.heap.size w (wr.alloc (.cells #[.slice q x.1.length kc, .slice r x.2.length d] 62))) := b0.trans (hb1.mono (by omega))
              clear hH hx h1 h2 bA c1 c2 htk hmem gA gW g0 hV1 hne hb hb1
              go_wp2
              go_ret
              exact ⟨_, rfl, H.out, HB0.out⟩
            · have d2 : decide (mk < (x.2.length : Int)) = false := by simpa using l2
              have HL : Hid (¬ longB mi mk (bs.take (k + 1))) := by
                rintro ⟨y, hy, hl⟩
                rw [htk] at hy
                rcases List.mem_append.1 hy with hy | hy
                · exact hH.out ⟨y, hy, hl⟩
                · simp at hy
                  subst hy
                  omega
              clear hH hx h1 h2 bA c1 c2 htk hmem gA gW g0 hV1 hne hb
              go_wp2
              go_roundw
              case rel => exact ⟨k + 1, by omega, by go_num, HL.out, hb1⟩
              case measure => simp [Go.RowKit.intOf]; omega
        · obtain rfl : k = bs.length := by omega
          have HL := hH.out
          rw [List.take_length] at HL
          have HL' : Hid (¬ longB mi mk bs) := HL
          have bW := b0.trans (hb.mono (by omega))
          have hW1 := hV1.later hb
          have hlc : bs.length ≤ c := hlen.1
          clear hH HL hV1 g0 hb b0
          go_wp2
          generalize wr = U at *
          go_loopw [40] (fun i wr => ∃ k : Nat, k ≤ bs.length ∧ i = .int .i64 (k : Int) ∧ Hid (¬ two bs k) ∧ Below U.heap.size U wr) (fun i _ => bs.length - (Go.RowKit.intOf i).toNat)
          case atStart => exact ⟨0, Nat.zero_le _, rfl, (by rintro ⟨i, j, _, _, h1, h2, _⟩; omega), Below.refl _ _⟩
          case round =>
            obtain ⟨k, hk, rfl, hH, hb⟩ := hrel
            have hsz := hb.size
            by_cases hlt : k < bs.length
            · obtain ⟨bl, o, rfl⟩ := hW1.addr (by omega)
              obtain ⟨x, q, kc, r, d, hx, c1, c2, h1, h2⟩ := hW1.get k hlt
              have hlt2 : (k : Int) < (bs.length : Int) := by omega
              have e1 := cell_later hb c1
              have e2 := cell_later hb c2
              have s1 : ∀ W, (Instr.slice 24 (.slice (some ⟨bl, o, none⟩) bs.length c) none (some (.int .i64 (k : Int))) none).run Tryz.prog W = .ok (.slice (some ⟨bl, o, none⟩) k c) W := fun W => run_bupto (P := Tryz.prog) Tryz.underlying24 s_bind (some ⟨bl, o, none⟩) bs.length c k (k : Int) rfl (by omega) W
              have gX := heap_alloc_new wr (.cells #[.slice q x.1.length kc, .slice r x.2.length d] 62)
              have bX := (Below.refl wr.heap.size wr).alloc (Nat.le_refl _) (.cells #[.slice q x.1.length kc, .slice r x.2.length d] 62)
              have hbX := hb.alloc hsz (.cells #[.slice q x.1.length kc, .slice r x.2.length d] 62)
              go_wp2
              have hsX : (wr.alloc (.cells #[.slice q x.1.length kc, .slice r x.2.length d] 62)).heap.size = wr.heap.size + 1 := by simp
              have cX : (wr.alloc (.cells #[.slice q x.1.length kc, .slice r x.2.length d] 62)).cell? ⟨wr.heap.size, 0, none⟩ = some (.slice q x.1.length kc) := by rw [cell_of_row _ _ 0 _ _ _ gX]; rfl
              generalize wr.alloc (.cells #[.slice q x.1.length kc, .slice r x.2.length d] 62) = X at *
              have hX1 := hW1.later hbX
              have hx1 := h1.later hbX
              clear bX gX s1 e1 e2 c1 c2 h1 h2 hb
              generalize hwn : wr.heap.size = N at *
              clear hwn
              go_loopw [49] (fun i w2 => ∃ j : Nat, j ≤ k ∧ i = .int .i64 (j : Int) ∧ Hid (∀ i (y : List UInt8 × List UInt8), i < j → bs[i]? = some y → y.1 ≠ x.1) ∧ Below X.heap.size X w2) (fun i _ => k - (Go.RowKit.intOf i).toNat)
              case atStart => exact ⟨0, Nat.zero_le _, rfl, (fun i y h => by omega), Below.refl _ _⟩
              case round =>
                obtain ⟨j, hj, rfl, hJ, hb2⟩ := hrel
                have hs2 := hb2.size
                by_cases hjk : j < k
                · obtain ⟨y, q', kc', r', d', hy, c1, c2, h1, h2⟩ := hX1.get j (by omega)
                  have hjk2 : (j : Int) < (k : Int) := by omega
                  have e1 := cell_later hb2 c1
                  have e2 := cell_later hb2 c2
                  have bY := (Below.refl wr.heap.size wr).alloc (Nat.le_refl _) (.cells #[.slice q' y.1.length kc', .slice r' y.2.length d'] 62)
                  have hbY := hb2.alloc hs2 (.cells #[.slice q' y.1.length kc', .slice r' y.2.length d'] 62)
                  have cY := cell_later hbY cX
                  have sx := (hx1.later hbY).str (P := Tryz.prog) 27 5 9 Tryz.underlying27 Tryz.underlying5 Tryz.underlying9
                  have sy := (h1.later hbY).str (P := Tryz.prog) 27 5 9 Tryz.underlying27 Tryz.underlying5 Tryz.underlying9
                  by_cases hxy : x.1 = y.1
                  · have H : Hid (ChkIs mi mk bs 80) := .inr (.inr (.inr (.inl ⟨hne.out, by omega, HL'.out, ⟨j, k, y, x, hjk, by omega, hy, hx, hxy.symm⟩, rfl⟩)))
                    have f1 : (x.1 == y.1) = true := by simpa using hxy
                    have HB3 : Hid (Below w.heap.size w (wr.alloc (.cells #[.slice q' y.1.length kc', .slice r' y.2.length d'] 62))) := bW.trans ((hbX.trans (hbY.mono hbX.size)).mono bW.size)
                    clear hH HL' hne hW1 hX1 hx1 h1 h2 c1 c2 hy hx hJ bY hbY hxy
                    go_wp2
                    go_ret
                    exact ⟨_, rfl, H.out, HB3.out⟩
                  · have HJ2 : Hid (∀ i (z : List UInt8 × List UInt8), i < j + 1 → bs[i]? = some z → z.1 ≠ x.1) := by
                      intro i z hi hz
                      rcases Nat.lt_or_ge i j with h | h
                      · exact hJ.out i z h hz
                      · obtain rfl : i = j := by omega
                        have := hy.out
                        rw [this] at hz
                        simp only [Option.some.injEq] at hz
                        subst hz
                        exact fun e => hxy e.symm
                    have f1 : (x.1 == y.1) = false := by simpa using hxy
                    clear hH HL' hne hW1 hX1 hx1 h1 h2 c1 c2 hy hx hJ bY
                    go_wp2
                    go_roundw
                    case rel => exact ⟨j + 1, by omega, by go_num, HJ2.out, hbY⟩
                    case measure => simp [Go.RowKit.intOf]; omega
                · obtain rfl : j = k := by omega
                  have HN : Hid (¬ two bs (j + 1)) := by
                    rintro ⟨i1, i2, a1, a2, q1, q2, q3, q4, q5⟩
                    rcases Nat.lt_or_ge i2 j with h | h
                    · exact hH.out ⟨i1, i2, a1, a2, q1, h, q3, q4, q5⟩
                    · obtain rfl : i2 = j := by omega
                      have := hx.out
                      rw [this] at q4
                      simp only [Option.some.injEq] at q4
                      subst q4
                      exact hJ.out i1 a1 q1 q3 q5
                  have hbZ := hbX.trans (hb2.mono hbX.size)
                  clear hH hW1 hX1 hx1 hx hJ
                  go_wp2
                  go_roundw
                  case rel => exact ⟨j + 1, by omega, by go_num, HN.out, hbZ⟩
                  case measure => simp [Go.RowKit.intOf]; omega
            · obtain rfl : k = bs.length := by omega
              have H : Hid (ChkIs mi mk bs 0) := .inr (.inr (.inr (.inr ⟨hne.out, by omega, HL'.out, hH.out, rfl⟩)))
              have hb3 := bW.trans (hb.mono bW.size)
              clear hH HL' hne hW1
              go_wp2
              go_ret
              exact ⟨_, rfl, H.out, hb3⟩

end Go.Proofs.YtcdikkgkjjopmaaGreatDoor
