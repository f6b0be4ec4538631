/- What this text proves: the walk of change.Write over this program: bytes, and a batch behind them. What this text proves: a law for a walk: a call of a Go function of two arguments at a step of a region that draws, met by its contract (any program). What this text proves: the walk of ask's writer's batch over this program. -/
import Derived.Test.YthkgbgkijdeaoaaBVocab
import Derived.Test.YthkgbgkijdeaoaaJK1
import Derived.Test.YthkgbgkijdeaoaaJN1
import Derived.Test.YthkgbgkijdeaoaaFacts
import Derived.Deep.RegionLaw
import Derived.Test.YthkgbgkijdeaoaaJF1
namespace Go.Proofs.Ythkgbgkijdeaoaa
open Go.RowKit

theorem binL_take (bs : List (List UInt8 × List UInt8)) (k : Nat) (x : List UInt8 × List UInt8) (h : bs[k]? = some x) : binL (bs.take (k + 1)) = binL (bs.take k) ++ bytesL x.1 ++ bytesL x.2 := by
  rw [List.take_add_one, h]
  show binL (bs.take k ++ [x]) = _
  rw [binL_snoc, List.append_assoc]

set_option maxRecDepth 100000 in
set_option maxHeartbeats 4000000 in
theorem cwrite_any (v u : Value) (l : List UInt8) (bs : List (List UInt8 × List UInt8)) (w : World) (hv : HB w v l) (hu : BA w u bs) (hl : l.length ≤ 1048576) (hb : bulkB bs ≤ 1048576) (hn : bs.length ≤ 40) :
    Calls Try.prog 85 #[v, u] w fun x w' => ∃ v', x = .returned v' ∧ w'.ownsRow w.heap.size 5 1 v' (l ++ wrL bs).length (bcs (l ++ wrL bs)) ∧ Below w.heap.size w w' := by
  obtain ⟨p, c, rfl⟩ := hu.shape
  have hU := cuint_any v l (bs.length : Int) w hv (by omega)
  rw [clampN_nat bs.length (by omega)] at hU
  have hnl : (numL bs.length).length ≤ 9 := by
    rw [numL_length]
    have := cnt_le8 bs.length (by omega)
    omega
  have HW : Hid (l ++ wrL bs = l ++ numL bs.length ++ binL (bs.take bs.length)) := by show _ = _; rw [List.take_length]; simp [wrL]
  obtain ⟨F, hF⟩ : ∃ F, F = l ++ numL bs.length := ⟨_, rfl⟩
  rw [← hF] at hU HW
  have hFl : F.length ≤ 1048585 := by rw [hF, List.length_append]; omega
  clear hF hv
  go_enter Try.func85, Try.ntmps85
  go_wp2_with fail
  refine hU.mono ?_
  rintro x w1 ⟨p1, c1, rfl, o1, b1⟩
  clear hU
  go_wp2
  go_loopw [0, 13] (fun v i wr => ∃ k : Nat, k ≤ bs.length ∧ i = .int .i64 (k : Int) ∧ wr.ownsRow w.heap.size 5 1 v (F ++ binL (bs.take k)).length (bcs (F ++ binL (bs.take k))) ∧ Below w.heap.size w wr) (fun _ i _ => bs.length - (intOf i).toNat)
  case atStart => exact ⟨0, Nat.zero_le _, rfl, by simpa [binL] using o1, b1⟩
  case round =>
    clear o1
    obtain ⟨k, hk, rfl, hown, hbe⟩ := hrel
    by_cases hlt : k < bs.length
    · obtain ⟨bl, o, rfl⟩ := hu.addr (by omega)
      obtain ⟨x, q, kc, r, d, hx, c1', c2', h1, h2⟩ := hu.get k hlt
      have hlt2 : (k : Int) < (bs.length : Int) := by omega
      have hmem := List.mem_of_getElem? hx.out
      have hxb := bulkB_mem hmem
      have hbt2 := bulkB_take bs k
      have hbt := binL_len (bs.take k) (by omega)
      have htl : (bs.take k).length ≤ 40 := by simp; omega
      have HB1 : Hid (F ++ binL (bs.take (k + 1)) = F ++ binL (bs.take k) ++ bytesL x.1 ++ bytesL x.2) := by show _ = _; rw [binL_take bs k x hx.out]; simp
      have e1 := bytesL_big x.1 (by omega)
      have e2 := bytesL_big x.2 (by omega)
      have hGl : (F ++ binL (bs.take k)).length ≤ 2200000 := by rw [List.length_append]; omega
      have x1 := cell_later hbe c1'
      have x2 := cell_later hbe c2'
      have bA := (Below.refl wr.heap.size wr).alloc (Nat.le_refl _) (.cells #[.slice q x.1.length kc, .slice r x.2.length d] 92)
      have gA := heap_alloc_new wr (.cells #[.slice q x.1.length kc, .slice r x.2.length d] 92)
      have bA0 := hbe.trans (bA.mono hbe.size)
      have hC := cbytes_any (.slice none 0 0) _ [] x.1 _ (HB.nil _) (h1.later bA0) (by simp; omega)
      rw [List.nil_append] at hC
      have hownA := owns_later hown bA
      obtain ⟨V, hV⟩ : ∃ V, V = wr.alloc (.cells #[.slice q x.1.length kc, .slice r x.2.length d] 92) := ⟨_, rfl⟩
      rw [← hV] at bA gA hC hownA bA0
      generalize hG : F ++ binL (bs.take k) = G at *
      generalize hM1 : bytesL x.1 = M1 at *
      have hgl : wr.heap.size < V.heap.size := (Array.getElem?_eq_some_iff.1 gA).1
      clear hx hbt htl hbt2 h1 hown hG hmem HW bA hM1 c1' c2'
      go_wp2_with fail
      rw [← hV]
      refine hC.mono ?_
      rintro y w2 ⟨p2, c2, rfl, o2, b2⟩
      have hownB := owns_later hownA b2
      have bB0 := bA0.trans (b2.mono bA0.size)
      have gB := (b2.block _ hgl).trans gA
      have hsB := HB.of_owns o2
      clear hC hV o2 b2 gA bA0 hownA x1 x2
      go_wp2_with (first | (at_builtin; refine wpList_append_hb rfl (.tmp 17) (.tmp 20) 22 rfl w.heap.size 5 Try.underlying22 i_u8 _ _ _ rfl hownB _ _ _ M1 rfl hsB ?qa ?qb ?_))
      case qa => omega
      case qb => exact bB0.size
      intro v3 w3 hown3 hgrow3
      have b30 : Below w.heap.size w w3 := bB0.grown hgrow3 bB0.size (fun k hk => (hownB.lt k hk).1)
      have g3 := (TK.of_grown hownB hgrow3) _ _ _ _ gB (by decide)
      rw [← bcs_append, ← List.length_append] at hown3
      have hGl3 : (G ++ M1).length ≤ 3300000 := by rw [List.length_append]; omega
      generalize hG3 : G ++ M1 = G3 at *
      have hC := cbytes_any (.slice none 0 0) _ [] x.2 w3 (HB.nil _) (h2.later b30) (by simp; omega)
      rw [List.nil_append] at hC
      generalize hM2 : bytesL x.2 = M2 at *
      have y2 : w3.cell? ⟨wr.heap.size, 1, none⟩ = some (.slice r x.2.length d) := by rw [cell_of_row _ _ _ _ _ _ g3]; rfl
      clear hgrow3 hownB hsB bB0 gB g3 h2 hM2 hG3
      go_wp2_with fail
      refine hC.mono ?_
      rintro y w4 ⟨p4, c4, rfl, o4, b4⟩
      have hownD := owns_later hown3 b4
      have b40 := b30.trans (b4.mono b30.size)
      have hsD := HB.of_owns o4
      clear hC o4 b4 hown3 b30 y2
      go_wp2_with (first | (at_builtin; refine wpList_append_hb rfl (.tmp 22) (.tmp 25) 22 rfl w.heap.size 5 Try.underlying22 i_u8 _ _ _ rfl hownD _ _ _ M2 rfl hsD ?ra ?rb ?_))
      case ra => omega
      case rb => exact b40.size
      intro v5 w5 hown5 hgrow5
      have b50 : Below w.heap.size w w5 := b40.grown hgrow5 b40.size (fun k hk => (hownD.lt k hk).1)
      rw [← bcs_append, ← List.length_append, ← HB1.out] at hown5
      clear hgrow5 hownD hsD b40
      go_wp2
      go_roundw
      case rel => first | exact ⟨k + 1, by omega, by go_num, hown5, b50⟩ | ((repeat apply Exists.intro); exact ⟨⟨k + 1, by omega, by go_num, hown5, b50⟩, rfl⟩)
      case measure => simp [intOf]; omega
    · obtain rfl : k = bs.length := by omega
      rw [← HW.out] at hown
      clear HW
      go_wp2
      go_ret
      exact ⟨_, rfl, hown, hbe⟩

end Go.Proofs.Ythkgbgkijdeaoaa

namespace Go.Proofs.Ythkgbgkijdeaoaa
open Go.RowKit

theorem step_calls2 {P : Program} {w : World} {ops : Array Oper} {o : Oper} {a : Act} {K : Act → World → Prop} {Q : Exit → Act → World → Prop} {E : Prop} (hgd : o.guard = none) (f : FuncId) (x y : Operand) (tx ty : TypeId)
    (ho : o.op = .call { callee := .value (.func f), args := #[x, y], argTypes := #[tx, ty] }) (vx vy : Value) (hx : a.eval x = vx) (hy : a.eval y = vy) (hf : (callFunc f #[vx, vy]).run P w = .ok (.enter f #[vx, vy]) w) (R : Value → World → Prop)
    (hC : Calls P f #[vx, vy] w fun e w' => ∃ v, e = .returned v ∧ R v w') (h : ∀ v w', R v w' → K (a.put o.dst v) w') :
    if Region.wanted o (yielded ops a.tmps) = true then Oper.wp P o a w K Q else E := by
  have hw : Region.wanted o (yielded ops a.tmps) = true := by simp [Region.wanted, hgd]
  rw [if_pos hw]
  unfold Oper.wp
  have h0 : a.eval (.func f) = .func (.func f) #[] #[] := rfl
  have he : (execOp a.eval o).run P w = .ok (.enter f #[vx, vy]) w := by
    simp only [execOp, ho, resolve, invoke, h0, List.map_toArray, List.map_cons, List.map_nil, hx, hy, Sem.run_bind]
    simpa [Deferred.ofValue] using hf
  rw [he, Oper.upon_enter]
  refine hC.mono ?_
  rintro e w' ⟨v, rfl, hr⟩
  exact h v w' hr

end Go.Proofs.Ythkgbgkijdeaoaa

namespace Go.Proofs.Ythkgbgkijdeaoaa
open Go.RowKit

set_option maxRecDepth 100000 in
set_option maxHeartbeats 2000000 in
theorem wbatch_any (g base : Nat) (a : Addr) (v : Value) (bs : List (List UInt8 × List UInt8)) (l : List UInt8) (w : World) (h : WRT 49 w g base l) (hg : base ≤ g) (ha : w.cell? a = some v) (hv : BA w v bs) (hb : bulkB bs ≤ 1048576) (hn : bs.length ≤ 40) (hl : l.length ≤ 1000000) :
    Calls Try.prog 82 #[.pointer (some ⟨g, 0, none⟩), .pointer (some a)] w fun e w' => e = .returned (.tuple #[]) ∧ Wrote 49 g base (l ++ wrL bs) w w' := by
  have hbase := h.choose_spec.choose_spec.2.2
  have hU := cwrite_any (.slice none 0 0) v [] bs w.drew (HB.nil _) hv (by simp) hb hn
  rw [List.nil_append] at hU
  have hR : (wrL bs).length ≤ 2000000 := by
    have h1 := binL_len bs hb
    have h2 := cnt_le8 bs.length (by omega)
    unfold wrL
    rw [List.length_append, numL_length]
    omega
  generalize wrL bs = R at hU hR ⊢
  obtain ⟨q, d, rfl⟩ := hv.shape
  go_enter Try.func82, Try.ntmps82
  go_wp2
  go_region_law (first
    | (refine step_calls2 rfl 85 _ _ _ _ rfl (.slice none 0 0) (.slice q bs.length d) rfl rfl rfl (fun r w' => w'.ownsRow w.heap.size 5 1 r R.length (bcs R) ∧ Below w.heap.size w w') (hU.mono fun e w' ⟨r, h1, h2, h3⟩ => ⟨r, h1, h2, (Below.drew (Below.refl w.heap.size w)).trans h3⟩) ?_; intro r w1 ⟨hown, hb1⟩)
    | (refine step_calls2 rfl 38 _ _ _ _ rfl (.pointer (some ⟨g, 0, none⟩)) r rfl rfl rfl (fun _ w' => Wrote 49 g base (l ++ R) w w') ((put_any 49 (by decide) g base r l R w1 (h.later hb1) hg (HB.of_owns hown) (by omega)).mono fun e w' ⟨h1, h2⟩ => ⟨_, h1, h2.after hb1 hbase⟩) ?_; intro _ w2 hW))
  go_wp2
  go_end0
  exact ⟨rfl, hW⟩

end Go.Proofs.Ythkgbgkijdeaoaa
