/- What this text proves: the walk of the statement AdmitBack over this program: whatever the parameters and the bytes, it answers true. -/
import Derived.Test.YthelmlacgoancaaAdRead
import Derived.Test.YthelmlacgoancaaAdWrite
import Derived.Test.YthelmlacgoancaaAdNeedsLaw
import Derived.Test.YthelmlacgoancaaEqual
namespace Go.Proofs.Ythelmlacgoancaa
open Go.RowKit

set_option maxRecDepth 100000 in
set_option maxHeartbeats 1000000 in
theorem admitBack_walk (s h mi mk ch ar ca pg : Int) (v : Value) (l : List UInt8) (w : World) (hv : HB w v l) (hl : l.length ≤ 140737488351232) : Calls Try.prog 5 #[.agg #[.int .i64 s, .int .i64 h, .int .i64 mi, .int .i64 mk, .int .i64 ch, .int .i64 ar, .int .i64 ca, .int .i64 pg], v] w fun x w' => x = .returned (.bool true) ∧ Below w.heap.size w w' := by
  have b0 := (Below.refl w.heap.size w).alloc (Nat.le_refl _) (.cells #[.int .i64 s, .int .i64 h, .int .i64 mi, .int .i64 mk, .int .i64 ch, .int .i64 ar, .int .i64 ca, .int .i64 pg] 23)
  have g0 := heap_alloc_new w (.cells #[.int .i64 s, .int .i64 h, .int .i64 mi, .int .i64 mk, .int .i64 ch, .int .i64 ar, .int .i64 ca, .int .i64 pg] 23)
  obtain ⟨V, hV⟩ : ∃ V, w.alloc (.cells #[.int .i64 s, .int .i64 h, .int .i64 mi, .int .i64 mk, .int .i64 ch, .int .i64 ar, .int .i64 ca, .int .i64 pg] 23) = V := ⟨_, rfl⟩
  rw [hV] at b0 g0
  obtain ⟨q0, q1, q2, q3, q4, q5, q6, q7⟩ := par_cells g0
  obtain ⟨pv, cv, rfl⟩ := hv.shape
  have H0 := fun W => chk_any s h mi mk ch ar ca pg W
  have H1 := fun W => rchk_any s h mi mk ch ar ca pg W
  by_cases hz : chkV s h mi mk ch ar ca pg = 0
  case neg =>
    obtain ⟨N, hN⟩ : ∃ N, chkV s h mi mk ch ar ca pg = N := ⟨_, rfl⟩
    rw [hN] at H0 H1 hz
    have hz2 : (N == 0) = false := by simpa using hz
    clear hN hv
    go_enter Try.func5, Try.ntmps5
    go_wp2_with (first
      | (go_at_call 7; refine (H0 _).mono ?_; rintro e w1 ⟨rfl, c1⟩; have hb1 := b0.trans (c1.mono b0.size); have g1 := (c1.block _ (Array.getElem?_eq_some_iff.1 g0).1).trans g0; obtain ⟨p0, p1, p2, p3, p4, p5, p6, p7⟩ := par_cells g1)
      | (go_at_call 8; refine (H1 _).mono ?_; rintro e w2 ⟨rfl, c2⟩; have hb2 := hb1.trans (c2.mono hb1.size))
      | (go_at_call 19; refine (adAwake_any _).mono ?_; rintro e w3 ⟨rfl, c3⟩; have hb3 := hb2.trans (c3.mono hb2.size)))
    go_ret
    exact ⟨by simp, hb3⟩
  case pos =>
    obtain ⟨hm, ha1, ha2, _⟩ := chk_zero hz
    rw [hz] at H0
    unfold mayP at hm
    have hA := auS_back l [s, h, mi, mk, ch, ar, ca, pg] (by intro n hn; simp at hn; omega) 8 (Nat.le_refl _)
    have hA2 : auS (wrN [] [s, h, mi, mk, ch, ar, ca, pg] ++ l) 8 = ([s.toNat, h.toNat, mi.toNat, mk.toNat, ch.toNat, ar.toNat, ca.toNat, pg.toNat], l, 0) := hA
    have HT : Hid (∀ n0 n1 n2 n3 n4 n5 n6 n7 : Nat, [n0, n1, n2, n3, n4, n5, n6, n7] = [s.toNat, h.toNat, mi.toNat, mk.toNat, ch.toNat, ar.toNat, ca.toNat, pg.toNat] → (n0 : Int) = s ∧ (n1 : Int) = h ∧ (n2 : Int) = mi ∧ (n3 : Int) = mk ∧ (n4 : Int) = ch ∧ (n5 : Int) = ar ∧ (n6 : Int) = ca ∧ (n7 : Int) = pg) := by
      intro n0 n1 n2 n3 n4 n5 n6 n7 e
      simp only [List.cons.injEq, and_true] at e
      omega
    have hF := wrN_len [] [s, h, mi, mk, ch, ar, ca, pg]
    have hW := fun W hw => adwrite_any (.slice none 0 0) [] s h mi mk ch ar ca pg W hw (by simp)
    obtain ⟨F, hFe⟩ : ∃ F, F = wrN [] [s, h, mi, mk, ch, ar, ca, pg] := ⟨_, rfl⟩
    rw [← hFe] at hA2 hF hW
    simp only [List.length_cons, List.length_nil] at hF
    clear hFe hA hm ha1 ha2 hz
    go_enter Try.func5, Try.ntmps5
    go_wp2_with (first
      | (go_at_call 7; refine (H0 _).mono ?_; rintro e w1 ⟨rfl, c1⟩; have hb1 := b0.trans (c1.mono b0.size); have g1 := (c1.block _ (Array.getElem?_eq_some_iff.1 g0).1).trans g0; obtain ⟨p0, p1, p2, p3, p4, p5, p6, p7⟩ := par_cells g1) | fail)
    have hW1 := hW w1 (HB.nil _)
    clear hW H0 H1 q0 q1 q2 q3 q4 q5 q6 q7 g0 hV b0 c1
    go_wp2_with fail
    refine hW1.mono ?_
    rintro x w2 ⟨v2, rfl, h2, o2, c2⟩
    have hb2 := hb1.trans (c2.mono hb1.size)
    have g2 := (c2.block _ (Array.getElem?_eq_some_iff.1 g1).1).trans g1
    have hl2 := hv.later hb2
    obtain ⟨p2', c2', rfl⟩ := owns_shape o2
    clear hW1 h2 g1 p0 p1 p2 p3 p4 p5 p6 p7
    go_wp2_with (first | (at_builtin; refine wpList_append_hb rfl (.tmp 19) (.tmp 20) 29 rfl w1.heap.size 5 Try.underlying29 i_u8 _ F.length (bcs F) rfl o2 _ _ _ l rfl hl2 ?qa ?qb ?_))
    case qa => simp at hF; omega
    case qb => exact c2.size
    intro v3 w3 o3 gr3
    have hb3 : Below w1.heap.size w1 w3 := c2.grown gr3 c2.size (by intro k hk; exact (o2.lt k hk).1)
    have hbw3 := hb1.trans (hb3.mono hb1.size)
    have o3' : w3.ownsRow w1.heap.size 5 1 v3 (F ++ l).length (bcs (F ++ l)) := by simpa [bcs_append] using o3
    have h3 := HB.of_owns o3'
    have hRd := adread_any v3 (F ++ l) w3 h3 (by simp at hF; simp; omega)
    rw [hA2] at hRd
    have hRd2 : Calls Try.prog 21 #[v3] w3 (AdTold 0 [s.toNat, h.toNat, mi.toNat, mk.toNat, ch.toNat, ar.toNat, ca.toNat, pg.toNat] l w3) := hRd
    clear hRd
    have g3 : w3.heap[w.heap.size]? = some (.cells #[.int .i64 s, .int .i64 h, .int .i64 mi, .int .i64 mk, .int .i64 ch, .int .i64 ar, .int .i64 ca, .int .i64 pg] 23 (0, 0)) := TK.of_grown o2 gr3 _ _ _ _ g2 (by decide)
    generalize F ++ l = G at *
    obtain ⟨p3, c3, rfl⟩ := owns_shape o3'
    clear hb2 c2 g2 hl2 o2 o3 gr3 o3' h3 hA2 hF hb3
    go_wp2_with fail
    refine hRd2.mono ?_
    rintro x w4 ⟨n0, n1, n2, n3, n4, n5, n6, n7, v4, rfl, e4, h4, c4⟩
    rw [if_pos rfl] at e4 h4
    obtain ⟨rfl, rfl, rfl, rfl, rfl, rfl, rfl, rfl⟩ := HT.out _ _ _ _ _ _ _ _ e4
    have hb4 := hbw3.trans (c4.mono hbw3.size)
    have g4 := (c4.block _ (Array.getElem?_eq_some_iff.1 g3).1).trans g3
    have bA := (Below.refl w4.heap.size w4).alloc (Nat.le_refl _) (.cells #[.int .i64 (n0 : Int), .int .i64 (n1 : Int), .int .i64 (n2 : Int), .int .i64 (n3 : Int), .int .i64 (n4 : Int), .int .i64 (n5 : Int), .int .i64 (n6 : Int), .int .i64 (n7 : Int)] 23)
    have g5 := (bA.block _ (Array.getElem?_eq_some_iff.1 g4).1).trans g4
    obtain ⟨p0, p1, p2, p3', p4, p5, p6, p7⟩ := par_cells g5
    have hb5 := hb4.trans (bA.mono hb4.size)
    have h5 := h4.later bA
    have hl5 := hv.later hb5
    have hq := equal_t _ _ _ _ _ h5 hl5 rfl
    obtain ⟨p4', c4', rfl⟩ := h4.shape
    clear hRd2 HT e4 h4 c4 g3 g4 bA g5 hb4 hbw3 hb1 hv h5 hl5
    go_wp2_with (first
      | (go_at_call 23; refine hq.mono ?_; rintro e w6 ⟨rfl, hw⟩; subst hw)
      | (go_at_call 19; refine (adAwake_any _).mono ?_; rintro e w7 ⟨rfl, c7⟩; have hb7 := hb5.trans (c7.mono hb5.size)))
    go_ret
    exact ⟨by simp, hb7⟩

end Go.Proofs.Ythelmlacgoancaa
