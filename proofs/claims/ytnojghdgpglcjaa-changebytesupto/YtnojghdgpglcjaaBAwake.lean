/- What this text proves: the walks of annalslaw12's few and awake over this program. -/
import Derived.Test.YtnojghdgpglcjaaBCheck
import Derived.Lib.SlBytesConst
namespace Go.Proofs.Ytnojghdgpglcjaa
open Go.RowKit

theorem run_bfew {P : Program} {t e : TypeId} (ht : P.underlying t = some (.slice e)) (hsz : (P.info? e).map (·.size) = some 2) (p : Option Addr) (n c h : Nat) (y : Int) (hy : y = (h : Int)) (hh : h ≤ c) (w : World) :
    (Instr.slice t (.slice p n c) none (some (.int .i64 y)) none).run P w = .ok (.slice p h c) w := by
  subst hy
  obtain ⟨i, hi, hs⟩ := Option.map_eq_some_iff.1 hsz
  have he : P.elem t = e := by simp [Program.elem, ht]
  rw [run_slice_h w t p n c (by rw [he]; exact ht) .i64 (h : Int) (by omega) (by omega), he]
  cases p <;> simp [Go.sizeOf, typeInfo, hi, hs, sliced, Result.andThen, Addr.add]

set_option maxHeartbeats 400000 in
theorem bfew_any (v : Value) (bs : List (List UInt8 × List UInt8)) (w : World) (h : BA w v bs) :
    Calls Try.prog 5 #[v] w fun e w' => ∃ p c, e = .returned (.slice p (bs.take 40).length c) ∧ BA w (.slice p (bs.take 40).length c) (bs.take 40) ∧ w' = w := by
  obtain ⟨p, c, rfl⟩ := h.shape
  have hl := h.len.2
  unfold maxLen at hl
  by_cases h10 : bs.length ≤ 40
  · have k1 := fun w => run_bfew (P := Try.prog) Try.underlying24 s_bind p bs.length c bs.length (bs.length : Int) rfl hl.1 w
    have e : bs.take 40 = bs := List.take_of_length_le h10
    rw [e]
    have H : Hid (BA w (.slice p bs.length c) bs) := h
    clear h e
    have hm : min (bs.length : Int) 40 = (bs.length : Int) := by omega
    go_enter Try.func5, Try.ntmps5
    go_wp2
    go_ret
    exact ⟨_, _, rfl, H.out, rfl⟩
  · have k1 := fun w => run_bfew (P := Try.prog) Try.underlying24 s_bind p bs.length c 40 40 rfl (by omega) w
    have hp : BA w (.slice p 40 c) (bs.take 40) := h.take 40 (by omega)
    rw [show (bs.take 40).length = 40 by simp; omega]
    have H : Hid (BA w (.slice p 40 c) (bs.take 40)) := hp
    clear h hp
    have hm : min (bs.length : Int) 40 = 40 := by omega
    go_enter Try.func5, Try.ntmps5
    go_wp2
    go_ret
    exact ⟨_, _, rfl, H.out, rfl⟩

theorem BA.nil (w : World) : BA w (.slice none 0 0) [] := ⟨none, 0, rfl, Nat.le_refl _, Nat.zero_le _, fun h => absurd rfl h⟩

theorem BA.lit2 (w : World) (u1 t1 u2 t2 : Value) (a b a' b' : List UInt8) (h1 : HB w u1 a) (h2 : HB w t1 b) (h3 : HB w u2 a') (h4 : HB w t2 b') : BA (w.alloc (.cells #[u1, t1, u2, t2] 42)) (.slice (some ⟨w.heap.size, 0, none⟩) 2 2) [(a, b), (a', b')] := by
  have bA := (Below.refl w.heap.size w).alloc (Nat.le_refl _) (.cells #[u1, t1, u2, t2] 42)
  obtain ⟨p1, c1, rfl⟩ := h1.shape
  obtain ⟨p2, c2, rfl⟩ := h2.shape
  obtain ⟨p3, c3, rfl⟩ := h3.shape
  obtain ⟨p4, c4, rfl⟩ := h4.shape
  have g := heap_alloc_new w (.cells #[.slice p1 a.length c1, .slice p2 b.length c2, .slice p3 a'.length c3, .slice p4 b'.length c4] 42)
  refine ⟨_, 2, rfl, Nat.le_refl _, by decide, fun _ => ⟨_, 0, rfl, fun k x hx => ?_⟩⟩
  match k with
  | 0 =>
    simp at hx
    subst hx
    exact ⟨p1, c1, p2, c2, by rw [cell_of_row _ _ _ _ _ _ g]; rfl, by rw [cell_of_row _ _ _ _ _ _ g]; rfl, h1.later bA, h2.later bA⟩
  | 1 =>
    simp at hx
    subst hx
    exact ⟨p3, c3, p4, c4, by rw [cell_of_row _ _ _ _ _ _ g]; rfl, by rw [cell_of_row _ _ _ _ _ _ g]; rfl, h3.later bA, h4.later bA⟩
  | n + 2 => simp at hx

theorem HB.litB (w : World) (e : TypeId) (l : List UInt8) (cs : Array Value) (n : Nat) (fr : Nat × Nat) (hc : cs = (bcs l).toArray) (hn : n = l.length) (hm : n ≤ maxLen) : HB (w.alloc (.cells cs e fr)) (.slice (some ⟨w.heap.size, 0, none⟩) n n) l := by
  subst hc; subst hn
  refine ⟨_, l.length, rfl, Nat.le_refl _, hm, (fun h => by cases h), fun _ => ⟨_, 0, rfl, fun i x hx => ?_⟩⟩
  rw [Nat.zero_add, cell_of_row _ _ i _ _ _ (heap_alloc_new w _)]
  simp [bcs, hx]

theorem chk_nil (mi mk : Int) : ChkIs mi mk [] 82 := .inl ⟨rfl, rfl⟩
theorem chk_aa : ChkIs 2 2 [([97], []), ([97], [])] 80 := by
  refine .inr (.inr (.inr (.inl ⟨by simp, by simp, ?_, ⟨0, 1, _, _, by omega, by simp, rfl, rfl, rfl⟩, rfl⟩)))
  rintro ⟨x, hx, h⟩
  simp at hx
  subst hx
  simp at h

set_option maxHeartbeats 2000000 in
theorem bawake_any (w : World) :
    Calls Try.prog 13 #[] w fun e w' => e = .returned (.bool true) ∧ Below w.heap.size w w' := by
  have cN : ∀ W, Calls Try.prog 14 #[.agg #[.int .i64 0, .int .i64 0, .int .i64 2, .int .i64 2, .int .i64 0, .int .i64 0, .int .i64 0, .int .i64 0], .slice none 0 0] W fun x w' => x = .returned (.int .i64 82) ∧ Below W.heap.size W w' := fun W => (check_any 0 0 2 2 0 0 0 0 _ [] W (BA.nil W)).mono fun x w' ⟨e, h1, h2, h3⟩ => ⟨by rw [h1, chk_one h2 (chk_nil 2 2)], h3⟩
  have cA : ∀ W v, BA W v [([97], []), ([97], [])] → Calls Try.prog 14 #[.agg #[.int .i64 0, .int .i64 0, .int .i64 2, .int .i64 2, .int .i64 0, .int .i64 0, .int .i64 0, .int .i64 0], v] W fun x w' => x = .returned (.int .i64 80) ∧ Below W.heap.size W w' := fun W v h => (check_any 0 0 2 2 0 0 0 0 _ _ W h).mono fun x w' ⟨e, h1, h2, h3⟩ => ⟨by rw [h1, chk_one h2 chk_aa], h3⟩
  have b0 := (Below.refl w.heap.size w).alloc (Nat.le_refl _) (.cells #[.int .i64 0, .int .i64 0, .int .i64 2, .int .i64 2, .int .i64 0, .int .i64 0, .int .i64 0, .int .i64 0] 23)
  have g0 := heap_alloc_new w (.cells #[.int .i64 0, .int .i64 0, .int .i64 2, .int .i64 2, .int .i64 0, .int .i64 0, .int .i64 0, .int .i64 0] 23)
  have kc := fun (w : World) (C : Array Value) (n c : Nat) => Lib.run_convert_bytes_const (P := Try.prog) w 25 5 C n c Try.underlying25 Try.underlying5
  have kc2 : ∀ (w1 : World), (convert 25 25 (.slice (some ⟨w1.heap.size + 1, 0, none⟩) 1 1)).run Try.prog ((w1.alloc (.cells #[.int .u8 97] 5 (1, 2))).alloc (.cells #[.int .u8 97] 5)) = .ok (.slice (some ⟨w1.heap.size + 1, 0, none⟩) 1 1) ((w1.alloc (.cells #[.int .u8 97] 5 (1, 2))).alloc (.cells #[.int .u8 97] 5 (1, 2))) := fun w1 => by
    simpa using kc (w1.alloc (.cells #[.int .u8 97] 5 (1, 2))) #[.int .u8 97] 1 1
  go_enter Try.func13, Try.ntmps13
  go_wp2_with fail
  generalize w.alloc (.cells #[.int .i64 0, .int .i64 0, .int .i64 2, .int .i64 2, .int .i64 0, .int .i64 0, .int .i64 0, .int .i64 0] 23) = V at *
  have hg : w.heap.size < V.heap.size := (Array.getElem?_eq_some_iff.1 g0).1
  refine (cN _).mono ?_
  rintro e w1 ⟨rfl, hb1⟩
  have g1 := (hb1.block _ hg).trans g0
  have b01 := b0.trans (hb1.mono b0.size)
  have l0 : w1.cell? ⟨w.heap.size, 0, none⟩ = some (.int .i64 0) := by rw [cell_of_row _ _ _ _ _ _ g1]; rfl
  have l1 : w1.cell? ⟨w.heap.size, 1, none⟩ = some (.int .i64 0) := by rw [cell_of_row _ _ _ _ _ _ g1]; rfl
  have l2 : w1.cell? ⟨w.heap.size, 2, none⟩ = some (.int .i64 2) := by rw [cell_of_row _ _ _ _ _ _ g1]; rfl
  have l3 : w1.cell? ⟨w.heap.size, 3, none⟩ = some (.int .i64 2) := by rw [cell_of_row _ _ _ _ _ _ g1]; rfl
  have l4 : w1.cell? ⟨w.heap.size, 4, none⟩ = some (.int .i64 0) := by rw [cell_of_row _ _ _ _ _ _ g1]; rfl
  have l5 : w1.cell? ⟨w.heap.size, 5, none⟩ = some (.int .i64 0) := by rw [cell_of_row _ _ _ _ _ _ g1]; rfl
  have l6 : w1.cell? ⟨w.heap.size, 6, none⟩ = some (.int .i64 0) := by rw [cell_of_row _ _ _ _ _ _ g1]; rfl
  have l7 : w1.cell? ⟨w.heap.size, 7, none⟩ = some (.int .i64 0) := by rw [cell_of_row _ _ _ _ _ _ g1]; rfl
  clear cN g0 g1 b0 hb1 hg
  have bL := (Below.refl _ w1).alloc (Nat.le_refl _) (.cells #[.int .u8 97] 5 (1, 2))
  have bLL := bL.alloc bL.size (.cells #[.int .u8 97] 5 (1, 2))
  have bL2 : Below (w1.alloc (.cells #[.int .u8 97] 5 (1, 2))).heap.size (w1.alloc (.cells #[.int .u8 97] 5 (1, 2))) ((w1.alloc (.cells #[.int .u8 97] 5 (1, 2))).alloc (.cells #[.int .u8 97] 5 (1, 2))) := (Below.refl _ _).alloc (Nat.le_refl _) _
  have ha : HB ((w1.alloc (.cells #[.int .u8 97] 5 (1, 2))).alloc (.cells #[.int .u8 97] 5 (1, 2))) (.slice (some ⟨w1.heap.size, 0, none⟩) 1 1) [97] := (HB.litB w1 5 _ _ 1 _ rfl rfl (by unfold maxLen; omega)).later bL2
  have hk : HB ((w1.alloc (.cells #[.int .u8 97] 5 (1, 2))).alloc (.cells #[.int .u8 97] 5 (1, 2))) (.slice (some ⟨w1.heap.size + 1, 0, none⟩) 1 1) [97] := by
    have := HB.litB (w1.alloc (.cells #[.int .u8 97] 5 (1, 2))) 5 [97] #[.int .u8 97] 1 (1, 2) rfl rfl (by unfold maxLen; omega)
    simpa using this
  have hBA := BA.lit2 _ _ _ _ _ _ _ _ _ ha (HB.nil _) hk (HB.nil _)
  have sL : ((w1.alloc (.cells #[.int .u8 97] 5 (1, 2))).alloc (.cells #[.int .u8 97] 5 (1, 2))).heap.size = w1.heap.size + 1 + 1 := by simp
  rw [sL] at hBA
  have hA := cA _ _ hBA
  have bF := b01.trans (bLL.mono b01.size)
  have HF : Hid (Below w.heap.size w (((w1.alloc (.cells #[.int .u8 97] 5 (1, 2))).alloc (.cells #[.int .u8 97] 5 (1, 2))).alloc (.cells #[.slice (some ⟨w1.heap.size, 0, none⟩) 1 1, .slice none 0 0, .slice (some ⟨w1.heap.size + 1, 0, none⟩) 1 1, .slice none 0 0] 42))) := bF.alloc bF.size _
  clear cA ha hk hBA sL bL bLL bL2 bF b01
  go_wp2_with fail
  refine hA.mono ?_
  rintro e w2 ⟨rfl, hb2⟩
  have hb := HF.out.trans (hb2.mono HF.out.size)
  clear hA HF hb2 l0 l1 l2 l3 l4 l5 l6 l7
  go_wp2
  go_ret
  exact ⟨rfl, hb⟩

end Go.Proofs.Ytnojghdgpglcjaa
