/- What this text proves: the walk of history.add of the first entry over this program. (By program: mkhyadd.py.) -/
import Derived.Test.YtcgpgnajmfemhaaGreatDoorJH1
import Derived.Test.YtcgpgnajmfemhaaGreatDoorJV3
import Derived.Test.YtcgpgnajmfemhaaGreatDoorJK3
namespace Go.Proofs.YtcgpgnajmfemhaaGreatDoor.Vf
open Go.RowKit

theorem i_recH : (Tryz.prog.info? 40).map (fun i => (i.zero, i.size, i.bytes)) = some (some (.agg #[.int .i64 0, .int .i64 0, .slice none 0 0, .int .i64 0, .slice none 0 0, .slice none 0 0]), 6, 96) := by kernel_rfl

theorem ent_twoH {w : World} {b : Nat} {t : Int} {u : Value} (g : w.heap[b]? = some (.cells #[.int .i64 t, u] 66 (0, 0))) : w.cell? ⟨b, 0, none⟩ = some (.int .i64 t) ∧ w.cell? ⟨b, 1, none⟩ = some u :=
  ⟨by rw [cell_of_row _ _ _ _ _ _ g]; rfl, by rw [cell_of_row _ _ _ _ _ _ g]; rfl⟩

theorem own_ne {T T' : TypeId} {w : World} {base s n m c g o : Nat} {xs : List Value} {cs : Array Value} {fr : Nat × Nat} (h : w.ownsRow base T s (.slice (some ⟨o, 0, none⟩) m c) n xs) (hg : w.heap[g]? = some (.cells cs T' fr)) (hT : T ≠ T') : o ≠ g := by
  rcases h.2 with ⟨e, _⟩ | ⟨g', cap, cur, e, _, hg', _⟩
  · cases e
  · simp only [Value.slice.injEq, Option.some.injEq, Addr.mk.injEq, and_true] at e
    obtain ⟨rfl, _, _⟩ := e
    rintro rfl
    rw [hg'] at hg
    simp only [Option.some.injEq, Obj.cells.injEq] at hg
    exact hT hg.2.1

theorem ba_oneV {id key : List UInt8} {w : World} {bl : Nat} {vi vk : Value} (hL : BK w bl (.cells #[vi, vk] 90 (0, 0))) (hI : HB w vi id) (hK : HB w vk key) : BA w (.slice (some ⟨bl, 0, none⟩) 1 1) [(id, key)] := by
  obtain ⟨pi, ci, rfl⟩ := hI.shape
  obtain ⟨pk, ck, rfl⟩ := hK.shape
  exact ba_one hL hI hK

/-- Trees of no epoch but 0, and a batch of one binding. -/
def SB (w : World) (gt ga b1 b2 gR : Nat) (vi vk : Value) (id key : List UInt8) : Prop :=
  SN w gt 3 3 2 4 30 2400 1 3 ga (.slice (some ⟨b1, 0, none⟩) 1 1) (.slice (some ⟨b2, 0, none⟩) 1 1) (.slice none 0 0) ∧ BK w b2 (.cells #[.int .i64 0, .int .i64 (-1)] 146 (0, 0)) ∧ AG w ga 3 2400 none 0 0 ∧ BK w gR (.cells #[vi, vk] 90 (0, 0)) ∧ HX w vi id ∧ HX w vk key

theorem SB.sty {w w' : World} {gt ga b1 b2 gR : Nat} {vi vk : Value} {id key : List UInt8} (h : SB w gt ga b1 b2 gR vi vk id key) (s : ∀ T, 22 ≠ T → 32 ≠ T → Sty T w w') : SB w' gt ga b1 b2 gR vi vk id key :=
  ⟨s 128 (by decide) (by decide) _ _ _ h.1, h.2.1.sty (s _ (by decide) (by decide)), s 134 (by decide) (by decide) _ _ _ h.2.2.1, h.2.2.2.1.sty (s _ (by decide) (by decide)), h.2.2.2.2.1.sty (s _ (by decide) (by decide)), h.2.2.2.2.2.sty (s _ (by decide) (by decide))⟩

set_option maxRecDepth 100000 in
set_option maxHeartbeats 8000000 in
theorem hadd_one {id key : List UInt8} {w : World} {base g gl gk gt bb br gR ga b1 b2 : Nat} {tv lv vi vk : Value} {tr li : List UInt8} {t u : Int} (H : HY w g gl gk gt (.slice (some ⟨bb, 0, none⟩) 1 1) (.slice (some ⟨br, 0, none⟩) 1 1) t) (hBB : BK w bb (.cells #[.slice none 0 0] 22 (0, 0))) (hR : R0 w br tv lv) (ht : HT w tv tr) (hl : HT w lv li)
    (hSB : SB w gt ga b1 b2 gR vi vk id key) (hB1 : BK w b1 (.cells #[.slice none 0 0] 22 (0, 0))) (hne : b1 ≠ bb) (h255 : id.length ≤ 255) (hkl : key.length ≤ 65535) (hck : ChkIs 2 4 [(id, key)] 0) (hT : ∀ W, Below base w W → Tabs W ∧ TD W)
    (q1 : base ≤ g) (q2 : base ≤ gt) (q3 : base ≤ ga) (q4 : base ≤ b1) (q5 : base ≤ bb) (q6 : base ≤ b2) (q7 : base ≤ br) (qw : base ≤ w.heap.size) :
    Calls Tryz.prog 25 #[.pointer (some ⟨g, 0, none⟩), .agg #[.int .i64 u, .slice (some ⟨gR, 0, none⟩) 1 1]] w fun x w' => x = .returned (.tuple #[]) ∧ (∃ pb cb pr cr, HY w' g gl gk gt (.slice pb 2 cb) (.slice pr 2 cr) t) ∧ Below base w w' := by
  have b0 := (Below.refl w.heap.size w).alloc (Nat.le_refl _) (.cells #[.int .i64 u, .slice (some ⟨gR, 0, none⟩) 1 1] 66)
  have g0 := heap_alloc_new w (.cells #[.int .i64 u, .slice (some ⟨gR, 0, none⟩) 1 1] 66)
  obtain ⟨ge, hge⟩ : ∃ ge, ge = w.heap.size := ⟨_, rfl⟩
  obtain ⟨V, hV⟩ : ∃ V, w.alloc (.cells #[.int .i64 u, .slice (some ⟨gR, 0, none⟩) 1 1] 66) = V := ⟨_, rfl⟩
  rw [hV] at b0 g0
  rw [← hge] at g0
  have HGE : Hid (ge = w.heap.size) := hge
  clear hge
  have c12 := (H.later b0).cells.2.2.2.2.1
  obtain ⟨j0, hj, jz0, jz1, jz2⟩ := info_parts i_bindsN
  obtain ⟨r0, hr, rz0, rz1, rz2⟩ := info_parts i_recH
  go_enter Tryz.func25, Tryz.ntmps25
  go_wp2_with fail
  try rw [hV]
  rw [← HGE.out]
  obtain ⟨X, hX⟩ : ∃ X, X = V.drew := ⟨_, rfl⟩
  have bX : Below w.heap.size w X := by rw [hX]; exact b0.drew
  have gX : X.heap[ge]? = some (.cells #[.int .i64 u, .slice (some ⟨gR, 0, none⟩) 1 1] 66 (0, 0)) := by rw [hX]; exact g0
  have hHeld : X.cell? ⟨g, 11, none⟩ = some (.slice (some ⟨bb, 0, none⟩) 1 1) ∧ X.cell? ⟨ge, 1, none⟩ = some (.slice (some ⟨gR, 0, none⟩) 1 1) := ⟨(H.later bX).cells.2.2.2.1, (ent_twoH gX).2⟩
  clear b0 g0 c12 hV HGE
  refine wp_region_split (by kernel_rfl) (fun W => W.cell? ⟨g, 11, none⟩ = some (.slice (some ⟨bb, 0, none⟩) 1 1) ∧ W.cell? ⟨ge, 1, none⟩ = some (.slice (some ⟨gR, 0, none⟩) 1 1)) 9 3 #[⟨some 10, .move (.tmp 0), 23, "history.go:57", #[], none⟩, ⟨some 11, .move (.tmp 0), 23, "history.go:57", #[], none⟩, ⟨some 12, .nilCheck (.tmp 11), 0, "history.go:57", #[⟨1, .data⟩], none⟩, ⟨some 13, .fieldAddr 32 (.tmp 12) 4, 0, "history.go:57", #[⟨2, .data⟩], none⟩, ⟨some 14, .load 29 (.tmp 13), 29, "history.go:57", #[⟨3, .data⟩], none⟩, ⟨some 15, .fieldAddr 66 (.tmp 3) 1, 0, "history.go:57", #[], none⟩, ⟨some 16, .load 22 (.tmp 15), 22, "history.go:57", #[⟨5, .data⟩], none⟩, ⟨some 17, .buildSlice 29 1 #[(0, .tmp 16)], 29, "history.go:57", #[⟨6, .data⟩], none⟩, ⟨some 18, .call { callee := .builtin .append, args := #[.tmp 14, .tmp 17], argTypes := #[29, 29] }, 29, "history.go:57", #[⟨4, .data⟩, ⟨7, .data⟩], none⟩] (by kernel_rfl) (by kernel_rfl) ?_
  rw [← hX]
  clear hX
  refine tkY 0 ⟨some 10, .move (.tmp 0), 23, "history.go:57", #[], none⟩ ?v0z1 hHeld ?y0z1 ?r0z1
  case y0z1 => (intro w hSw; (try dsimp only at hSw); go_simp) <;> with_reducible rfl
  try simp only [Act.put, List.setIfInBounds_toArray, List.set_cons_zero, List.set_cons_succ]
  refine tkY 1 ⟨some 11, .move (.tmp 0), 23, "history.go:57", #[], none⟩ ?v1z2 hHeld ?y1z2 ?r1z2
  case y1z2 => (intro w hSw; (try dsimp only at hSw); go_simp) <;> with_reducible rfl
  try simp only [Act.put, List.setIfInBounds_toArray, List.set_cons_zero, List.set_cons_succ]
  refine tkY 2 ⟨some 12, .nilCheck (.tmp 11), 0, "history.go:57", #[⟨1, .data⟩], none⟩ ?v2z3 hHeld ?y2z3 ?r2z3
  case y2z3 => (intro w hSw; (try dsimp only at hSw); go_simp) <;> with_reducible rfl
  try simp only [Act.put, List.setIfInBounds_toArray, List.set_cons_zero, List.set_cons_succ]
  refine tkY 3 ⟨some 13, .fieldAddr 32 (.tmp 12) 4, 0, "history.go:57", #[⟨2, .data⟩], none⟩ ?v3z4 hHeld ?y3z4 ?r3z4
  case y3z4 => (intro w hSw; (try dsimp only at hSw); go_simp) <;> with_reducible rfl
  try simp only [Act.put, List.setIfInBounds_toArray, List.set_cons_zero, List.set_cons_succ]
  refine tkY 4 ⟨some 14, .load 29 (.tmp 13), 29, "history.go:57", #[⟨3, .data⟩], none⟩ ?v4z5 hHeld ?y4z5 ?r4z5
  case y4z5 => (intro w hSw; (try dsimp only at hSw); go_simp) <;> with_reducible rfl
  try simp only [Act.put, List.setIfInBounds_toArray, List.set_cons_zero, List.set_cons_succ]
  refine tkY 5 ⟨some 15, .fieldAddr 66 (.tmp 3) 1, 0, "history.go:57", #[], none⟩ ?v5z6 hHeld ?y5z6 ?r5z6
  case y5z6 => (intro w hSw; (try dsimp only at hSw); go_simp) <;> with_reducible rfl
  try simp only [Act.put, List.setIfInBounds_toArray, List.set_cons_zero, List.set_cons_succ]
  refine tkY 6 ⟨some 16, .load 22 (.tmp 15), 22, "history.go:57", #[⟨5, .data⟩], none⟩ ?v6z7 hHeld ?y6z7 ?r6z7
  case y6z7 => (intro w hSw; (try dsimp only at hSw); go_simp) <;> with_reducible rfl
  try simp only [Act.put, List.setIfInBounds_toArray, List.set_cons_zero, List.set_cons_succ]
  refine wpAnyH_ready (rs := [7]) (by kernel_rfl) (by simp) ?_
  refine AllReadyH.cons (o := ⟨some 17, .buildSlice 29 1 #[(0, .tmp 16)], 29, "history.go:57", #[⟨6, .data⟩], none⟩) rfl (fun K hK => ?_) AllReadyH.nil
  go_simp
  have k7 := (Below.refl X.heap.size X).alloc (Nat.le_refl _) (.cells #[.slice (some ⟨gR, 0, none⟩) 1 1] 22)
  have g7' := heap_alloc_new X (.cells #[.slice (some ⟨gR, 0, none⟩) 1 1] 22)
  replace hHeld := (show _ ∧ _ from ⟨cell_later k7 hHeld.1, cell_later k7 hHeld.2⟩)
  refine hK.out _ _ ?_ (fun _ => ?_)
  · exact hHeld
  clear hK K
  try simp only [Act.put, List.setIfInBounds_toArray, List.set_cons_zero, List.set_cons_succ]
  refine wpAnyH_ready (rs := [8]) (by kernel_rfl) (by simp) ?_
  refine AllReadyH.cons (o := ⟨some 18, .call { callee := .builtin .append, args := #[.tmp 14, .tmp 17], argTypes := #[29, 29] }, 29, "history.go:57", #[⟨4, .data⟩, ⟨7, .data⟩], none⟩) rfl (fun K hK => ?_) AllReadyH.nil
  have kX7 := bX.trans (k7.mono bX.size)
  have Z1 := hBB.later kX7
  have OWN : (X.alloc (.cells #[.slice (some ⟨gR, 0, none⟩) 1 1] 22)).ownsRow base 22 1 (.slice (some ⟨bb, 0, none⟩) 1 1) 1 [.slice none 0 0] := ⟨rfl, .inr ⟨bb, 1, _, rfl, q5, Z1, Nat.le_refl _, by decide, rfl, rfl⟩⟩
  refine step_append_lies _ (by rfl) _ _ _ (by rfl) base 22 j0 _ 1 24 Tryz.underlying29 hj jz0 jz1 jz2 rfl (by decide) _ 1 [.slice none 0 0] (by rfl) OWN ⟨X.heap.size, 0, none⟩ 1 1 [.slice (some ⟨gR, 0, none⟩) 1 1] (by rfl) (by rfl) (World.news_of_block (cs := #[.slice (some ⟨gR, 0, none⟩) 1 1]) (t := 22) (fr := (0, 0)) g7') (by simp [Value.oneCell']) (by omega) (by unfold maxLen; omega) (by omega) (by have := kX7.size; omega) _ rfl ?_
  intro g7 cap7 w7 ow7 gr7 hat7 hlt7
  have t7 := TK.of_grown OWN gr7
  have s7 : Hid (∀ T, 22 ≠ T → Sty T w w7) := fun T h => (Sty.of_below kX7).trans (sty_tk t7 h)
  have H7 := H.sty (s7.out _ (by decide))
  have B17 : BK w7 b1 (.cells #[.slice none 0 0] 22 (0, 0)) := (gr7.block b1 (hB1.later kX7).lt (by simp [Value.ownBlock]; exact hne)).trans (hB1.later kX7)
  have c71 : w7.cell? ⟨g7, 1, none⟩ = some (.slice (some ⟨gR, 0, none⟩) 1 1) := by rw [ow7.cellAt 1 (by decide)]; rfl
  have n7 := own_ne ow7 H7 (by decide)
  have K7 : Below base w w7 := (kX7.mono qw).grown gr7 (by have := kX7.size; omega) (fun k hk => by simp [Value.ownBlock] at hk; omega)
  have gE7 : w7.heap[ge]? = some (.cells #[.int .i64 u, .slice (some ⟨gR, 0, none⟩) 1 1] 66 (0, 0)) := t7 _ _ _ _ ((k7.block _ (Array.getElem?_eq_some_iff.1 gX).1).trans gX) (by decide)
  replace hHeld := (show _ ∧ _ from ⟨H7.cells.2.2.2.1, (ent_twoH gE7).2⟩)
  refine hK.out _ _ ?_ (fun _ => ?_)
  · exact hHeld
  clear hK K
  try simp only [Act.put, List.setIfInBounds_toArray, List.set_cons_zero, List.set_cons_succ]
  refine wpAnyH_done (by kernel_rfl) ?_ _
  refine headPost_rest [⟨some 19, .nilCheck (.tmp 10), 0, "history.go:57", #[⟨0, .data⟩, ⟨0, .phase⟩, ⟨1, .phase⟩, ⟨2, .phase⟩, ⟨3, .phase⟩, ⟨4, .phase⟩, ⟨5, .phase⟩, ⟨6, .phase⟩, ⟨7, .phase⟩, ⟨8, .phase⟩], none⟩, ⟨some 20, .fieldAddr 32 (.tmp 19) 4, 0, "history.go:57", #[⟨9, .data⟩, ⟨0, .phase⟩, ⟨1, .phase⟩, ⟨2, .phase⟩, ⟨3, .phase⟩, ⟨4, .phase⟩, ⟨5, .phase⟩, ⟨6, .phase⟩, ⟨7, .phase⟩, ⟨8, .phase⟩], none⟩, ⟨none, .store 29 (.tmp 20) (.tmp 18), 0, "history.go:57", #[⟨10, .data⟩, ⟨8, .data⟩, ⟨8, .chain⟩, ⟨0, .phase⟩, ⟨1, .phase⟩, ⟨2, .phase⟩, ⟨3, .phase⟩, ⟨4, .phase⟩, ⟨5, .phase⟩, ⟨6, .phase⟩, ⟨7, .phase⟩, ⟨8, .phase⟩], none⟩] (by kernel_rfl) rfl (by kernel_rfl) ?_
  clear hHeld
  have fz11 := H7.frozen 11
  have c11 := H7.cells.2.2.2.1
  have m8 := heap_setCell_same w7 g 11 _ _ (.slice (some ⟨g7, 0, none⟩) 2 cap7) H7
  obtain ⟨w8, hw8⟩ : ∃ w8, w7.setCell ⟨g, 11, none⟩ (.slice (some ⟨g7, 0, none⟩) 2 cap7) = w8 := ⟨_, rfl⟩
  have on8 : Only g w7 w8 := by rw [← hw8]; exact (Only.refl g w7).setCell _ _
  rw [hw8] at m8
  have H8 : HY w8 g gl gk gt (.slice (some ⟨g7, 0, none⟩) 2 cap7) (.slice (some ⟨br, 0, none⟩) 1 1) t := by
    unfold HY
    rw [m8]
    simp
  have s8 : Hid (∀ T, 22 ≠ T → 32 ≠ T → Sty T w w8) := fun T h h2 => (s7.out T h).trans (sty_onlyT on8 H7 h2)
  have B18 := B17.sty (sty_onlyT on8 H7 (by decide))
  have c81 : w8.cell? ⟨g7, 1, none⟩ = some (.slice (some ⟨gR, 0, none⟩) 1 1) := by
    rw [World.cell?_of_block (on8.block g7 n7 hlt7)]
    exact c71
  have K8 : Below base w w8 := K7.trans (on8.below q1)
  have gE8 := (sty_onlyT on8 H7 (T := 66) (by decide)) _ _ _ gE7
  have hB8 := hSB.sty s8.out
  have hTT := hT w8 K8
  have sz8 := K8.size
  have lge := (Array.getElem?_eq_some_iff.1 gE8).1
  have hGr := fun (Y : World) (kY : Below w8.heap.size w8 Y) => hgrow_one (base := base) (H8.later kY) (cell_later kY c81) (hB8.sty fun _ _ _ => Sty.of_below kY).1 (B18.later kY) (hB8.sty fun _ _ _ => Sty.of_below kY).2.1 (hB8.sty fun _ _ _ => Sty.of_below kY).2.2.1 (hB8.sty fun _ _ _ => Sty.of_below kY).2.2.2.1 (hB8.sty fun _ _ _ => Sty.of_below kY).2.2.2.2.1 (hB8.sty fun _ _ _ => Sty.of_below kY).2.2.2.2.2 h255 hkl hck (hTT.1.later kY) q2 q3 q4 q6 (by have := kY.size; omega)
  have R8 := hR.sty (s8.out _ (by decide) (by decide))
  have t8' := ht.sty (s8.out _ (by decide) (by decide))
  have l8 := hl.sty (s8.out _ (by decide) (by decide))
  clear H7 s7 B17 c71 n7 K7 gE7 ow7 gr7 hat7 hlt7 t7 OWN Z1 kX7 k7 g7' hBB hB1 H hTT hne on8 m8 B18 c81 hR ht hl sz8 gX bX
  go_wp2_with fail
  try rw [hw8]
  clear fz11 c11 hw8
  obtain ⟨Y, hY⟩ : ∃ Y, Y = w8.drew := ⟨_, rfl⟩
  have kY : Below w8.heap.size w8 Y := by rw [hY]; exact (Below.refl _ w8).drew
  have HHY := H8.later kY
  have gEY := (kY.block _ (Array.getElem?_eq_some_iff.1 gE8).1).trans gE8
  have hHeld := (show _ ∧ _ ∧ _ ∧ _ from ⟨HHY.cells.2.2.2.2.1, (ent_twoH gEY).1, (ent_twoH gEY).2, HHY.par 0 (by decide)⟩)
  refine wp_region_split (by kernel_rfl) (fun W => W.cell? ⟨g, 12, none⟩ = some (.slice (some ⟨br, 0, none⟩) 1 1) ∧ W.cell? ⟨ge, 0, none⟩ = some (.int .i64 u) ∧ W.cell? ⟨ge, 1, none⟩ = some (.slice (some ⟨gR, 0, none⟩) 1 1) ∧ W.cell? ⟨g, 0, none⟩ = some (.int .i64 3)) 27 3 #[⟨some 21, .move (.tmp 0), 23, "history.go:58", #[], none⟩, ⟨some 22, .move (.tmp 0), 23, "history.go:58", #[], none⟩, ⟨some 23, .nilCheck (.tmp 22), 0, "history.go:58", #[⟨1, .data⟩], none⟩, ⟨some 24, .fieldAddr 32 (.tmp 23) 5, 0, "history.go:58", #[⟨2, .data⟩], none⟩, ⟨some 25, .load 30 (.tmp 24), 30, "history.go:58", #[⟨3, .data⟩], none⟩, ⟨some 26, .move (.tmp 4), 3, "history.go:58", #[], none⟩, ⟨some 27, .fieldAddr 66 (.tmp 3) 0, 0, "history.go:58", #[], none⟩, ⟨some 28, .load 3 (.tmp 27), 3, "history.go:58", #[⟨6, .data⟩], none⟩, ⟨some 29, .move (.tmp 0), 23, "history.go:58", #[], none⟩, ⟨some 30, .call { callee := .value (.func 50), args := #[.tmp 29], argTypes := #[23] }, 37, "history.go:59", #[⟨8, .data⟩], none⟩, ⟨some 31, .fieldAddr 66 (.tmp 3) 1, 0, "history.go:58", #[], none⟩, ⟨some 32, .load 22 (.tmp 31), 22, "history.go:58", #[⟨10, .data⟩], none⟩, ⟨some 33, .call { callee := .builtin .len, args := #[.tmp 32], argTypes := #[22] }, 3, "history.go:58", #[⟨11, .data⟩], none⟩, ⟨some 34, .move (.tmp 0), 23, "history.go:58", #[], none⟩, ⟨some 35, .nilCheck (.tmp 34), 0, "history.go:58", #[⟨13, .data⟩], none⟩, ⟨some 36, .fieldAddr 32 (.tmp 35) 0, 0, "history.go:58", #[⟨14, .data⟩], none⟩, ⟨some 37, .fieldAddr 25 (.tmp 36) 0, 0, "history.go:58", #[⟨15, .data⟩], none⟩, ⟨some 38, .load 3 (.tmp 37), 3, "history.go:58", #[⟨16, .data⟩], none⟩, ⟨some 39, .fieldAddr 66 (.tmp 3) 1, 0, "history.go:58", #[], none⟩, ⟨some 40, .load 22 (.tmp 39), 22, "history.go:58", #[⟨18, .data⟩], none⟩, ⟨some 41, .call { callee := .value (.func 51), args := #[.tmp 38, .tmp 40], argTypes := #[3, 22] }, 37, "history.go:60", #[⟨17, .data⟩, ⟨19, .data⟩, ⟨9, .chain⟩], none⟩, ⟨some 42, .move (.tmp 0), 23, "history.go:58", #[], none⟩, ⟨some 43, .move (.tmp 4), 3, "history.go:58", #[], none⟩, ⟨some 44, .call { callee := .value (.func 52), args := #[.tmp 42, .tmp 43], argTypes := #[23, 3] }, 38, "history.go:60", #[⟨21, .data⟩, ⟨22, .data⟩, ⟨20, .chain⟩], none⟩, ⟨some 45, .build 40 #[(0, .tmp 26), (1, .tmp 28), (2, .tmp 30), (3, .tmp 33), (4, .tmp 41), (5, .tmp 44)], 40, "history.go:58", #[⟨5, .data⟩, ⟨7, .data⟩, ⟨9, .data⟩, ⟨12, .data⟩, ⟨20, .data⟩, ⟨23, .data⟩], none⟩, ⟨some 46, .buildSlice 30 1 #[(0, .tmp 45)], 30, "history.go:58", #[⟨24, .data⟩], none⟩, ⟨some 47, .call { callee := .builtin .append, args := #[.tmp 25, .tmp 46], argTypes := #[30, 30] }, 30, "history.go:58", #[⟨4, .data⟩, ⟨25, .data⟩, ⟨23, .chain⟩], none⟩] (by kernel_rfl) (by kernel_rfl) ?_
  rw [← hY]
  clear hY
  refine tkY 0 ⟨some 21, .move (.tmp 0), 23, "history.go:58", #[], none⟩ ?v0z8 hHeld ?y0z8 ?r0z8
  case y0z8 => (intro w hSw; (try dsimp only at hSw); go_simp) <;> with_reducible rfl
  try simp only [Act.put, List.setIfInBounds_toArray, List.set_cons_zero, List.set_cons_succ]
  refine tkY 1 ⟨some 22, .move (.tmp 0), 23, "history.go:58", #[], none⟩ ?v1z9 hHeld ?y1z9 ?r1z9
  case y1z9 => (intro w hSw; (try dsimp only at hSw); go_simp) <;> with_reducible rfl
  try simp only [Act.put, List.setIfInBounds_toArray, List.set_cons_zero, List.set_cons_succ]
  refine tkY 2 ⟨some 23, .nilCheck (.tmp 22), 0, "history.go:58", #[⟨1, .data⟩], none⟩ ?v2z10 hHeld ?y2z10 ?r2z10
  case y2z10 => (intro w hSw; (try dsimp only at hSw); go_simp) <;> with_reducible rfl
  try simp only [Act.put, List.setIfInBounds_toArray, List.set_cons_zero, List.set_cons_succ]
  refine tkY 3 ⟨some 24, .fieldAddr 32 (.tmp 23) 5, 0, "history.go:58", #[⟨2, .data⟩], none⟩ ?v3z11 hHeld ?y3z11 ?r3z11
  case y3z11 => (intro w hSw; (try dsimp only at hSw); go_simp) <;> with_reducible rfl
  try simp only [Act.put, List.setIfInBounds_toArray, List.set_cons_zero, List.set_cons_succ]
  refine tkY 4 ⟨some 25, .load 30 (.tmp 24), 30, "history.go:58", #[⟨3, .data⟩], none⟩ ?v4z12 hHeld ?y4z12 ?r4z12
  case y4z12 => (intro w hSw; (try dsimp only at hSw); go_simp) <;> with_reducible rfl
  try simp only [Act.put, List.setIfInBounds_toArray, List.set_cons_zero, List.set_cons_succ]
  refine tkY 5 ⟨some 26, .move (.tmp 4), 3, "history.go:58", #[], none⟩ ?v5z13 hHeld ?y5z13 ?r5z13
  case y5z13 => (intro w hSw; (try dsimp only at hSw); go_simp) <;> with_reducible rfl
  try simp only [Act.put, List.setIfInBounds_toArray, List.set_cons_zero, List.set_cons_succ]
  refine tkY 6 ⟨some 27, .fieldAddr 66 (.tmp 3) 0, 0, "history.go:58", #[], none⟩ ?v6z14 hHeld ?y6z14 ?r6z14
  case y6z14 => (intro w hSw; (try dsimp only at hSw); go_simp) <;> with_reducible rfl
  try simp only [Act.put, List.setIfInBounds_toArray, List.set_cons_zero, List.set_cons_succ]
  refine tkY 7 ⟨some 28, .load 3 (.tmp 27), 3, "history.go:58", #[⟨6, .data⟩], none⟩ ?v7z15 hHeld ?y7z15 ?r7z15
  case y7z15 => (intro w hSw; (try dsimp only at hSw); go_simp) <;> with_reducible rfl
  try simp only [Act.put, List.setIfInBounds_toArray, List.set_cons_zero, List.set_cons_succ]
  refine tkY 8 ⟨some 29, .move (.tmp 0), 23, "history.go:58", #[], none⟩ ?v8z16 hHeld ?y8z16 ?r8z16
  case y8z16 => (intro w hSw; (try dsimp only at hSw); go_simp) <;> with_reducible rfl
  try simp only [Act.put, List.setIfInBounds_toArray, List.set_cons_zero, List.set_cons_succ]
  refine tkY 10 ⟨some 31, .fieldAddr 66 (.tmp 3) 1, 0, "history.go:58", #[], none⟩ ?v10z17 hHeld ?y10z17 ?r10z17
  case y10z17 => (intro w hSw; (try dsimp only at hSw); go_simp) <;> with_reducible rfl
  try simp only [Act.put, List.setIfInBounds_toArray, List.set_cons_zero, List.set_cons_succ]
  refine tkY 11 ⟨some 32, .load 22 (.tmp 31), 22, "history.go:58", #[⟨10, .data⟩], none⟩ ?v11z18 hHeld ?y11z18 ?r11z18
  case y11z18 => (intro w hSw; (try dsimp only at hSw); go_simp) <;> with_reducible rfl
  try simp only [Act.put, List.setIfInBounds_toArray, List.set_cons_zero, List.set_cons_succ]
  refine tkY 12 ⟨some 33, .call { callee := .builtin .len, args := #[.tmp 32], argTypes := #[22] }, 3, "history.go:58", #[⟨11, .data⟩], none⟩ ?v12z19 hHeld ?y12z19 ?r12z19
  case y12z19 => (intro w hSw; (try dsimp only at hSw); go_simp) <;> with_reducible rfl
  try simp only [Act.put, List.setIfInBounds_toArray, List.set_cons_zero, List.set_cons_succ]
  refine tkY 13 ⟨some 34, .move (.tmp 0), 23, "history.go:58", #[], none⟩ ?v13z20 hHeld ?y13z20 ?r13z20
  case y13z20 => (intro w hSw; (try dsimp only at hSw); go_simp) <;> with_reducible rfl
  try simp only [Act.put, List.setIfInBounds_toArray, List.set_cons_zero, List.set_cons_succ]
  refine tkY 14 ⟨some 35, .nilCheck (.tmp 34), 0, "history.go:58", #[⟨13, .data⟩], none⟩ ?v14z21 hHeld ?y14z21 ?r14z21
  case y14z21 => (intro w hSw; (try dsimp only at hSw); go_simp) <;> with_reducible rfl
  try simp only [Act.put, List.setIfInBounds_toArray, List.set_cons_zero, List.set_cons_succ]
  refine tkY 15 ⟨some 36, .fieldAddr 32 (.tmp 35) 0, 0, "history.go:58", #[⟨14, .data⟩], none⟩ ?v15z22 hHeld ?y15z22 ?r15z22
  case y15z22 => (intro w hSw; (try dsimp only at hSw); go_simp) <;> with_reducible rfl
  try simp only [Act.put, List.setIfInBounds_toArray, List.set_cons_zero, List.set_cons_succ]
  refine tkY 16 ⟨some 37, .fieldAddr 25 (.tmp 36) 0, 0, "history.go:58", #[⟨15, .data⟩], none⟩ ?v16z23 hHeld ?y16z23 ?r16z23
  case y16z23 => (intro w hSw; (try dsimp only at hSw); go_simp) <;> with_reducible rfl
  try simp only [Act.put, List.setIfInBounds_toArray, List.set_cons_zero, List.set_cons_succ]
  refine tkY 17 ⟨some 38, .load 3 (.tmp 37), 3, "history.go:58", #[⟨16, .data⟩], none⟩ ?v17z24 hHeld ?y17z24 ?r17z24
  case y17z24 => (intro w hSw; (try dsimp only at hSw); go_simp) <;> with_reducible rfl
  try simp only [Act.put, List.setIfInBounds_toArray, List.set_cons_zero, List.set_cons_succ]
  refine tkY 18 ⟨some 39, .fieldAddr 66 (.tmp 3) 1, 0, "history.go:58", #[], none⟩ ?v18z25 hHeld ?y18z25 ?r18z25
  case y18z25 => (intro w hSw; (try dsimp only at hSw); go_simp) <;> with_reducible rfl
  try simp only [Act.put, List.setIfInBounds_toArray, List.set_cons_zero, List.set_cons_succ]
  refine tkY 19 ⟨some 40, .load 22 (.tmp 39), 22, "history.go:58", #[⟨18, .data⟩], none⟩ ?v19z26 hHeld ?y19z26 ?r19z26
  case y19z26 => (intro w hSw; (try dsimp only at hSw); go_simp) <;> with_reducible rfl
  try simp only [Act.put, List.setIfInBounds_toArray, List.set_cons_zero, List.set_cons_succ]
  refine tkY 21 ⟨some 42, .move (.tmp 0), 23, "history.go:58", #[], none⟩ ?v21z27 hHeld ?y21z27 ?r21z27
  case y21z27 => (intro w hSw; (try dsimp only at hSw); go_simp) <;> with_reducible rfl
  try simp only [Act.put, List.setIfInBounds_toArray, List.set_cons_zero, List.set_cons_succ]
  refine tkY 22 ⟨some 43, .move (.tmp 4), 3, "history.go:58", #[], none⟩ ?v22z28 hHeld ?y22z28 ?r22z28
  case y22z28 => (intro w hSw; (try dsimp only at hSw); go_simp) <;> with_reducible rfl
  try simp only [Act.put, List.setIfInBounds_toArray, List.set_cons_zero, List.set_cons_succ]
  refine wpAnyH_ready (rs := [9]) (by kernel_rfl) (by simp) ?_
  refine AllReadyH.cons (o := ⟨some 30, .call { callee := .value (.func 50), args := #[.tmp 29], argTypes := #[23] }, 37, "history.go:59", #[⟨8, .data⟩], none⟩) rfl (fun K hK => ?_) AllReadyH.nil
  go_simp
  refine (hGr Y kY).mono ?_
  rintro e1 w3 ⟨p3, c3, rfl, b3', s3'⟩
  have s3 : ∀ T, 134 ≠ T → 22 ≠ T → 128 ≠ T → 146 ≠ T → Sty T w8 w3 := fun T h1 h2 h3 h4 => (Sty.of_below kY).trans (s3' T h1 h2 h3 h4)
  have b3 : Below base w8 w3 := (kY.mono (by have := K8.size; omega)).trans b3'
  clear s3' b3' hGr
  have H3 := H8.sty (s3 _ (by decide) (by decide) (by decide) (by decide))
  have gE3 := s3 66 (by decide) (by decide) (by decide) (by decide) _ _ _ gE8
  have R3 := R8.sty (s3 _ (by decide) (by decide) (by decide) (by decide))
  have t3 := t8'.sty (s3 _ (by decide) (by decide) (by decide) (by decide))
  have l3 := l8.sty (s3 _ (by decide) (by decide) (by decide) (by decide))
  have L3 := hB8.2.2.2.1.sty (s3 _ (by decide) (by decide) (by decide) (by decide))
  have I3 := hB8.2.2.2.2.1.sty (s3 _ (by decide) (by decide) (by decide) (by decide))
  have J3 := hB8.2.2.2.2.2.sty (s3 _ (by decide) (by decide) (by decide) (by decide))
  have K3 : Below base w w3 := K8.trans b3
  clear s3
  have hBA3 := ba_oneV L3 I3.1 J3.1
  replace hHeld := (show _ ∧ _ ∧ _ ∧ _ from ⟨H3.cells.2.2.2.2.1, (ent_twoH gE3).1, (ent_twoH gE3).2, H3.par 0 (by decide)⟩)
  refine hK.out _ _ ?_ (fun _ => ?_)
  · exact hHeld
  clear hK K
  try simp only [Act.put, List.setIfInBounds_toArray, List.set_cons_zero, List.set_cons_succ]
  refine wpAnyH_ready (rs := [20]) (by kernel_rfl) (by simp) ?_
  refine AllReadyH.cons (o := ⟨some 41, .call { callee := .value (.func 51), args := #[.tmp 38, .tmp 40], argTypes := #[3, 22] }, 37, "history.go:60", #[⟨17, .data⟩, ⟨19, .data⟩, ⟨9, .chain⟩], none⟩) rfl (fun K hK => ?_) AllReadyH.nil
  go_simp
  refine (list12_any 3 _ [(id, key)] w3 hBA3 (by simp) (hT _ K3).1).mono ?_
  rintro e2 w4 ⟨p4, c4, rfl, _, b4⟩
  generalize (rootF 3 ([(id, key)].map (clF 3))).length = n4 at *
  have K4 : Below base w w4 := K3.trans (b4.mono (by have := K3.size; omega))
  have H4 := H3.later b4
  have gE4 := (b4.block _ (Array.getElem?_eq_some_iff.1 gE3).1).trans gE3
  replace hHeld := (show _ ∧ _ ∧ _ ∧ _ from ⟨H4.cells.2.2.2.2.1, (ent_twoH gE4).1, (ent_twoH gE4).2, H4.par 0 (by decide)⟩)
  refine hK.out _ _ ?_ (fun _ => ?_)
  · exact hHeld
  clear hK K
  try simp only [Act.put, List.setIfInBounds_toArray, List.set_cons_zero, List.set_cons_succ]
  refine wpAnyH_ready (rs := [23]) (by kernel_rfl) (by simp) ?_
  refine AllReadyH.cons (o := ⟨some 44, .call { callee := .value (.func 52), args := #[.tmp 42, .tmp 43], argTypes := #[23, 3] }, 38, "history.go:60", #[⟨21, .data⟩, ⟨22, .data⟩, ⟨20, .chain⟩], none⟩) rfl (fun K hK => ?_) AllReadyH.nil
  go_simp
  refine (hlinks_one H4 (R3.later b4) (t3.1.later b4) (l3.1.later b4) (hT _ K4).1 (hT _ K4).2).mono ?_
  rintro e3 w5 ⟨p5, c5, v5, rfl, _, _, b5⟩
  have K5 : Below base w w5 := K4.trans (b5.mono (by have := K4.size; omega))
  have H5 := H4.later b5
  have gE5 := (b5.block _ (Array.getElem?_eq_some_iff.1 gE4).1).trans gE4
  replace hHeld := (show _ ∧ _ ∧ _ ∧ _ from ⟨H5.cells.2.2.2.2.1, (ent_twoH gE5).1, (ent_twoH gE5).2, H5.par 0 (by decide)⟩)
  refine hK.out _ _ ?_ (fun _ => ?_)
  · exact hHeld
  clear hK K
  try simp only [Act.put, List.setIfInBounds_toArray, List.set_cons_zero, List.set_cons_succ]
  refine tkY 24 ⟨some 45, .build 40 #[(0, .tmp 26), (1, .tmp 28), (2, .tmp 30), (3, .tmp 33), (4, .tmp 41), (5, .tmp 44)], 40, "history.go:58", #[⟨5, .data⟩, ⟨7, .data⟩, ⟨9, .data⟩, ⟨12, .data⟩, ⟨20, .data⟩, ⟨23, .data⟩], none⟩ ?v24z29 hHeld ?y24z29 ?r24z29
  case y24z29 => (intro w hSw; (try dsimp only at hSw); go_simp) <;> with_reducible rfl
  try simp only [Act.put, List.setIfInBounds_toArray, List.set_cons_zero, List.set_cons_succ]
  refine wpAnyH_ready (rs := [25]) (by kernel_rfl) (by simp) ?_
  refine AllReadyH.cons (o := ⟨some 46, .buildSlice 30 1 #[(0, .tmp 45)], 30, "history.go:58", #[⟨24, .data⟩], none⟩) rfl (fun K hK => ?_) AllReadyH.nil
  go_simp
  have k6 := (Below.refl w5.heap.size w5).alloc (Nat.le_refl _) (.cells #[.int .i64 1, .int .i64 u, .slice p3 3 c3, .int .i64 1, .slice p4 n4 c4, .slice p5 1 c5] 40)
  have g6' := heap_alloc_new w5 (.cells #[.int .i64 1, .int .i64 u, .slice p3 3 c3, .int .i64 1, .slice p4 n4 c4, .slice p5 1 c5] 40)
  have H6 := H5.later k6
  have gE6 := (k6.block _ (Array.getElem?_eq_some_iff.1 gE5).1).trans gE5
  replace hHeld := (show _ ∧ _ ∧ _ ∧ _ from ⟨H6.cells.2.2.2.2.1, (ent_twoH gE6).1, (ent_twoH gE6).2, H6.par 0 (by decide)⟩)
  refine hK.out _ _ ?_ (fun _ => ?_)
  · exact hHeld
  clear hK K
  try simp only [Act.put, List.setIfInBounds_toArray, List.set_cons_zero, List.set_cons_succ]
  refine wpAnyH_ready (rs := [26]) (by kernel_rfl) (by simp) ?_
  refine AllReadyH.cons (o := ⟨some 47, .call { callee := .builtin .append, args := #[.tmp 25, .tmp 46], argTypes := #[30, 30] }, 30, "history.go:58", #[⟨4, .data⟩, ⟨25, .data⟩, ⟨23, .chain⟩], none⟩) rfl (fun K hK => ?_) AllReadyH.nil
  have R6 := (R3.later b4).later (b5.trans (k6.mono b5.size))
  have K6 : Below base w (w5.alloc (.cells #[.int .i64 1, .int .i64 u, .slice p3 3 c3, .int .i64 1, .slice p4 n4 c4, .slice p5 1 c5] 40)) := K5.trans (k6.mono (by have := K5.size; omega))
  obtain ⟨cv, hcv⟩ : ∃ cv, cv = [.int .i64 0, .int .i64 0, tv, .int .i64 0, lv, .slice none 0 0] := ⟨_, rfl⟩
  have OWN : (w5.alloc (.cells #[.int .i64 1, .int .i64 u, .slice p3 3 c3, .int .i64 1, .slice p4 n4 c4, .slice p5 1 c5] 40)).ownsRow base 40 6 (.slice (some ⟨br, 0, none⟩) 1 1) 1 cv := by
    rw [hcv]
    exact ⟨rfl, .inr ⟨br, 1, _, rfl, q7, R6, Nat.le_refl _, by decide, rfl, rfl⟩⟩
  refine step_append_lies _ (by rfl) _ _ _ (by rfl) base 40 r0 _ 6 96 Tryz.underlying30 hr rz0 rz1 rz2 rfl (by decide) _ 1 cv (by rfl) OWN ⟨w5.heap.size, 0, none⟩ 1 1 [.int .i64 1, .int .i64 u, .slice p3 3 c3, .int .i64 1, .slice p4 n4 c4, .slice p5 1 c5] (by rfl) (by rfl) (World.news_of_block (cs := #[.int .i64 1, .int .i64 u, .slice p3 3 c3, .int .i64 1, .slice p4 n4 c4, .slice p5 1 c5]) (t := 40) (fr := (0, 0)) g6') (by simp [Value.oneCell']) (by omega) (by unfold maxLen; omega) (by omega) (by have := K6.size; omega) _ rfl ?_
  intro g9 cap9 w9 ow9 gr9 hat9 hlt9
  have t9 := TK.of_grown OWN gr9
  have H9 := H6.sty (sty_tk t9 (by decide))
  have gE9 := sty_tk t9 (T := 66) (by decide) _ _ _ gE6
  have K9 : Below base w w9 := K6.grown gr9 (by have := K6.size; omega) (fun k hk => by simp [Value.ownBlock] at hk; omega)
  replace hHeld := (show _ ∧ _ ∧ _ ∧ _ from ⟨H9.cells.2.2.2.2.1, (ent_twoH gE9).1, (ent_twoH gE9).2, H9.par 0 (by decide)⟩)
  refine hK.out _ _ ?_ (fun _ => ?_)
  · exact hHeld
  clear hK K
  try simp only [Act.put, List.setIfInBounds_toArray, List.set_cons_zero, List.set_cons_succ]
  refine wpAnyH_done (by kernel_rfl) ?_ _
  refine headPost_rest [⟨some 48, .nilCheck (.tmp 21), 0, "history.go:58", #[⟨0, .data⟩, ⟨0, .phase⟩, ⟨1, .phase⟩, ⟨2, .phase⟩, ⟨3, .phase⟩, ⟨4, .phase⟩, ⟨5, .phase⟩, ⟨6, .phase⟩, ⟨7, .phase⟩, ⟨8, .phase⟩, ⟨9, .phase⟩, ⟨10, .phase⟩, ⟨11, .phase⟩, ⟨12, .phase⟩, ⟨13, .phase⟩, ⟨14, .phase⟩, ⟨15, .phase⟩, ⟨16, .phase⟩, ⟨17, .phase⟩, ⟨18, .phase⟩, ⟨19, .phase⟩, ⟨20, .phase⟩, ⟨21, .phase⟩, ⟨22, .phase⟩, ⟨23, .phase⟩, ⟨24, .phase⟩, ⟨25, .phase⟩, ⟨26, .phase⟩], none⟩, ⟨some 49, .fieldAddr 32 (.tmp 48) 5, 0, "history.go:58", #[⟨27, .data⟩, ⟨0, .phase⟩, ⟨1, .phase⟩, ⟨2, .phase⟩, ⟨3, .phase⟩, ⟨4, .phase⟩, ⟨5, .phase⟩, ⟨6, .phase⟩, ⟨7, .phase⟩, ⟨8, .phase⟩, ⟨9, .phase⟩, ⟨10, .phase⟩, ⟨11, .phase⟩, ⟨12, .phase⟩, ⟨13, .phase⟩, ⟨14, .phase⟩, ⟨15, .phase⟩, ⟨16, .phase⟩, ⟨17, .phase⟩, ⟨18, .phase⟩, ⟨19, .phase⟩, ⟨20, .phase⟩, ⟨21, .phase⟩, ⟨22, .phase⟩, ⟨23, .phase⟩, ⟨24, .phase⟩, ⟨25, .phase⟩, ⟨26, .phase⟩], none⟩, ⟨none, .store 30 (.tmp 49) (.tmp 47), 0, "history.go:58", #[⟨28, .data⟩, ⟨26, .data⟩, ⟨26, .chain⟩, ⟨0, .phase⟩, ⟨1, .phase⟩, ⟨2, .phase⟩, ⟨3, .phase⟩, ⟨4, .phase⟩, ⟨5, .phase⟩, ⟨6, .phase⟩, ⟨7, .phase⟩, ⟨8, .phase⟩, ⟨9, .phase⟩, ⟨10, .phase⟩, ⟨11, .phase⟩, ⟨12, .phase⟩, ⟨13, .phase⟩, ⟨14, .phase⟩, ⟨15, .phase⟩, ⟨16, .phase⟩, ⟨17, .phase⟩, ⟨18, .phase⟩, ⟨19, .phase⟩, ⟨20, .phase⟩, ⟨21, .phase⟩, ⟨22, .phase⟩, ⟨23, .phase⟩, ⟨24, .phase⟩, ⟨25, .phase⟩, ⟨26, .phase⟩], none⟩] (by kernel_rfl) rfl (by kernel_rfl) ?_
  clear hHeld
  have fz12 := H9.frozen 12
  have c12 := H9.cells.2.2.2.2.1
  have m10 := heap_setCell_same w9 g 12 _ _ (.slice (some ⟨g9, 0, none⟩) 2 cap9) H9
  obtain ⟨w10, hw10⟩ : ∃ w10, w9.setCell ⟨g, 12, none⟩ (.slice (some ⟨g9, 0, none⟩) 2 cap9) = w10 := ⟨_, rfl⟩
  have on10 : Only g w9 w10 := by rw [← hw10]; exact (Only.refl g w9).setCell _ _
  rw [hw10] at m10
  have H10 : HY w10 g gl gk gt (.slice (some ⟨g7, 0, none⟩) 2 cap7) (.slice (some ⟨g9, 0, none⟩) 2 cap9) t := by
    unfold HY
    rw [m10]
    simp
  have K10 : Below base w w10 := K9.trans (on10.below q1)
  clear m10 on10 K9 H9 gE9 t9 gr9 hat9 hlt9 ow9 OWN K6 R6 H6 gE6 k6 g6' K5 H5 gE5 b5 K4 H4 gE4 b4 K3 hBA3 L3 I3 J3 t3 l3 R3 gE3 H3 b3
  go_wp2_with fail
  try rw [hw10]
  go_end0
  exact ⟨rfl, ⟨_, _, _, _, H10⟩, K10⟩

end Go.Proofs.YtcgpgnajmfemhaaGreatDoor.Vf
