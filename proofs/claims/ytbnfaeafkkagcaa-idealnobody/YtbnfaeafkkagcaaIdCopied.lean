/- What this text proves: the walk of ideal.copied over this program: a batch in memory of its own. -/
import Derived.Test.YtbnfaeafkkagcaaIdRow
import Derived.Test.YtbnfaeafkkagcaaCloneO
import Derived.Test.YtbnfaeafkkagcaaRegHeld
namespace Go.Proofs.Ytbnfaeafkkagcaa
open Go.RowKit

theorem drewC {w : World} {a : Addr} {v : Value} (h : w.cell? a = some v) : w.drew.cell? a = some v := h

theorem cell_onyA {g b i : Nat} {w w' : World} {v : Value} (ho : Only g w w') (h : w.cell? ⟨b, i, none⟩ = some v) (hne : b ≠ g) : w'.cell? ⟨b, i, none⟩ = some v := by
  rw [World.cell?_of_block (w := w) (ho.block b hne (cell_lt h))]
  exact h

set_option maxRecDepth 100000 in
set_option maxHeartbeats 1600000 in
theorem copiedB_any (v : Value) (bs : List (List UInt8 × List UInt8)) (w : World) (h : BA w v bs) (hn : bs.length ≤ 100) (hl : ∀ x ∈ bs, x.1.length ≤ 140737488355328 ∧ x.2.length ≤ 140737488355328) :
    Calls Try.prog 18 #[v] w fun e w' => ∃ gR, e = .returned (.slice (some ⟨gR, 0, none⟩) bs.length bs.length) ∧ w.heap.size ≤ gR ∧ BR w' gR gR bs.length bs ∧ Below w.heap.size w w' := by
  obtain ⟨p, c, rfl⟩ := h.shape
  obtain ⟨i0, hi, hz0, hz1, hz2⟩ := info_parts i_bind
  go_enter Try.func18, Try.ntmps18
  go_wp2_with (first | (at_make; refine wpList_make_full _ rfl _ _ 23 rfl w.heap.size 57 i0 _ 2 Try.underlying23 hi hz0 hz1 .i64 .i64 _ _ bs.length rfl rfl ?qa ?qb ?qc ?qd ?qe ?_))
  case qa => rfl
  case qb => rfl
  case qc => rw [hz2]; omega
  case qd => unfold maxLen; omega
  case qe => exact Nat.le_refl _
  intro w4 hown4 hgrow4
  have hb4 : Below w.heap.size w w4 := (Below.refl _ w).grown hgrow4 (Nat.le_refl _) (by intro k hk; cases hk)
  have br4 : BR w4 w.heap.size w.heap.size bs.length [] := by
    rcases hown4.2 with ⟨e, _⟩ | ⟨g', cap, cur, e, _, hg', hl, _, hcs, _⟩
    · cases e
    · simp only [Value.slice.injEq, Option.some.injEq, Addr.mk.injEq, and_true, true_and] at e
      obtain ⟨rfl, rfl⟩ := e
      exact ⟨cur, hg', hcs, fun j x hx => by simp at hx⟩
  have hgR : w.heap.size ≤ w.heap.size := Nat.le_refl _
  obtain ⟨gR, hgg⟩ : ∃ gR, w.heap.size = gR := ⟨_, rfl⟩
  rw [hgg] at br4 ⊢
  rw [hgg] at hb4
  clear hown4 hgrow4 hgR
  go_wp2
  go_loopw [11] (fun i wr => ∃ k : Nat, k ≤ bs.length ∧ i = .int .i64 (k : Int) ∧ BR wr gR gR bs.length (bs.take k) ∧ Below gR w wr) (fun i _ => bs.length - (intOf i).toNat)
  case atStart => exact ⟨0, Nat.zero_le _, rfl, by simpa using br4, hb4⟩
  case round =>
    clear br4 hb4
    obtain ⟨k, hk, rfl, br, hbe⟩ := hrel
    by_cases hlt : k < bs.length
    · have hlt2 : (k : Int) < (bs.length : Int) := by omega
      obtain ⟨bl, o, rfl⟩ := h.addr (by omega)
      obtain ⟨x, q, kc, r, d, hx, c1, c2, h1, h2⟩ := h.get k hlt
      have hbw : Below w.heap.size w wr := by rw [hgg]; exact hbe
      have e1 := cell_later hbw c1
      have e2 := cell_later hbw c2
      have hxl := hl x (List.mem_of_getElem? hx.out)
      obtain ⟨⟨gcs, gty⟩⟩ : Nonempty (∃ cs, wr.heap[gR]? = some (.cells cs 57 (0, 0))) := ⟨br.choose, br.choose_spec.1⟩
      have hgl : gR < wr.heap.size := (Array.getElem?_eq_some_iff.1 gty).1
      have bA := (Below.refl wr.heap.size wr).alloc (Nat.le_refl _) (.cells #[.slice q x.1.length kc, .slice r x.2.length d] 57)
      have gA := heap_alloc_new wr (.cells #[.slice q x.1.length kc, .slice r x.2.length d] 57)
      obtain ⟨V, hV⟩ : ∃ V, wr.alloc (.cells #[.slice q x.1.length kc, .slice r x.2.length d] 57) = V := ⟨_, rfl⟩
      rw [hV] at bA gA
      have bV := hbw.trans (bA.mono hbw.size)
      have bD : Below V.heap.size V V.drew := (Below.refl _ _).drew
      have bVD := bV.trans (bD.mono bV.size)
      obtain ⟨gb, hgb⟩ : ∃ gb, wr.heap.size = gb := ⟨_, rfl⟩
      have hne : gb ≠ gR := by omega
      have k0 : V.cell? ⟨gb, 0, none⟩ = some (.slice q x.1.length kc) := by rw [← hgb, cell_of_row _ _ 0 _ _ _ gA]; rfl
      have k1 : V.cell? ⟨gb, 1, none⟩ = some (.slice r x.2.length d) := by rw [← hgb, cell_of_row _ _ 1 _ _ _ gA]; rfl
      have hQ : V.cell? ⟨gb, 0, none⟩ = some (.slice q x.1.length kc) ∧ V.cell? ⟨gb, 1, none⟩ = some (.slice r x.2.length d) := ⟨k0, k1⟩
      have hQd : V.drew.cell? ⟨gb, 0, none⟩ = some (.slice q x.1.length kc) ∧ V.drew.cell? ⟨gb, 1, none⟩ = some (.slice r x.2.length d) := ⟨drewC k0, drewC k1⟩
      have hC1 := clone_own _ x.1 V.drew (h1.later bVD) hxl.1
      have hC2 := fun W hb => clone_own _ x.2 W (h2.later hb) hxl.2
      have gV := (bA.block _ hgl).trans gty
      have brV := br.tk (TK.of_below (T := 3) bA) (by decide) (by decide)
      have gD := (bD.block _ (Array.getElem?_eq_some_iff.1 gV).1).trans gV
      have brD := brV.tk (TK.of_below (T := 3) bD) (by decide) (by decide)
      have htl : (bs.take k).length = k := by simp; omega
      have HX : Hid (bs.take (k + 1) = bs.take k ++ [x]) := by show _ = _; rw [List.take_add_one, hx.out]; rfl
      clear br hbe hbw bA gA bV brV gV gty h1 h2 hl hxl c1 c2
      go_wp2
      go_region_held3 (fun w' => w'.cell? ⟨gb, 0, none⟩ = some (.slice q x.1.length kc) ∧ w'.cell? ⟨gb, 1, none⟩ = some (.slice r x.2.length d)) (first | with_reducible exact hQ | with_reducible exact hQd | with_reducible exact hD1 | with_reducible exact hD2 | with_reducible exact hF) (first
        | (go_at_call 35; have hz := hD1; refine (hC2 _ b5w).mono ?_; rintro e w6 ⟨p6, c6, rfl, o6, b6⟩; have b6w := b5w.trans (b6.mono b5w.size); have hD2 : w6.cell? ⟨gb, 0, none⟩ = some (.slice q x.1.length kc) ∧ w6.cell? ⟨gb, 1, none⟩ = some (.slice r x.2.length d) := ⟨cell_later b6 hD1.1, cell_later b6 hD1.2⟩; have br6 := br5.tk (TK.of_below (T := 3) b6) (by decide) (by decide); have g6 := (b6.block _ (Array.getElem?_eq_some_iff.1 g5).1).trans g5; obtain ⟨⟨z1, y1⟩, f1, _⟩ := br6.cell (k * 2) (by omega); obtain ⟨⟨z2, y2⟩, f2, _⟩ := br6.cell (k * 2 + 1) (by omega); have hon : Only gR w6 ((w6.setCell ⟨gR, k * 2, none⟩ (.slice p5 x.1.length c5)).setCell ⟨gR, k * 2 + 1, none⟩ (.slice p6 x.2.length c6)) := ((Only.refl gR w6).setCell _ _).setCell _ _; have hF : ((w6.setCell ⟨gR, k * 2, none⟩ (.slice p5 x.1.length c5)).setCell ⟨gR, k * 2 + 1, none⟩ (.slice p6 x.2.length c6)).cell? ⟨gb, 0, none⟩ = some (.slice q x.1.length kc) ∧ ((w6.setCell ⟨gR, k * 2, none⟩ (.slice p5 x.1.length c5)).setCell ⟨gR, k * 2 + 1, none⟩ (.slice p6 x.2.length c6)).cell? ⟨gb, 1, none⟩ = some (.slice r x.2.length d) := ⟨cell_onyA hon hD2.1 hne, cell_onyA hon hD2.2 hne⟩; have n5 := (hbn_of_owns (g := gR) o5 g5 (by decide)).later b6; have n6 := hbn_of_owns (g := gR) o6 g6 (by decide))
        | (go_at_call 35; refine hC1.mono ?_; rintro e w5 ⟨p5, c5, rfl, o5, b5⟩; have b5w := bVD.trans (b5.mono bVD.size); have hD1 : w5.cell? ⟨gb, 0, none⟩ = some (.slice q x.1.length kc) ∧ w5.cell? ⟨gb, 1, none⟩ = some (.slice r x.2.length d) := ⟨cell_later b5 hQd.1, cell_later b5 hQd.2⟩; have br5 := brD.tk (TK.of_below (T := 3) b5) (by decide) (by decide); have g5 := (b5.block _ (Array.getElem?_eq_some_iff.1 gD).1).trans gD))
      have t7 := br6.put1 (.slice p5 x.1.length c5)
      have bu7 := br6.bru (.slice p5 x.1.length c5) (by omega)
      rw [htl] at t7 bu7
      obtain ⟨t7, br7⟩ := t7
      have t8 := br7.put2 (by rw [htl]; exact bu7) (n5.tk t7 (by decide)) (n6.tk t7 (by decide)) (by omega)
      rw [htl, ← HX.out] at t8
      have br8 := t8.2
      have b8w := b6w.trans (hon.below (by rw [hgg]; exact Nat.le_refl _))
      rw [hgg] at b8w
      clear hQ hQd hD1 hD2 hF br5 br6 br7 bu7 t7 t8 n5 n6 o5 o6 b5 b6 g5 g6 hC1 hC2 gD brD hon b5w b6w bD bVD k0 k1 hV y1 y2 f1 f2 e1 e2
      go_wp2
      go_roundw
      case rel => first | exact ⟨k + 1, by omega, by go_num, br8, b8w⟩ | ((repeat apply Exists.intro); exact ⟨⟨k + 1, by omega, by go_num, br8, b8w⟩, rfl⟩)
      case measure => simp [intOf]; omega
    · obtain rfl : k = bs.length := by omega
      have hnk : ¬ (bs.length : Int) < (bs.length : Int) := by omega
      rw [List.take_length] at br
      go_wp2
      go_ret
      exact ⟨gR, rfl, Nat.le_refl _, br, hbe⟩

end Go.Proofs.Ytbnfaeafkkagcaa
