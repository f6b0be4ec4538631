/- What this text proves: the walk of annalsref26.readOne over this program. What this text holds: rows of items and of events that the call owns, none of their bytes in the reader's block (no walk). (By program: mktlrow.py.) What this text proves: the walk of annalsref26.readDiff over this program. (By program: mktlrd.py.) What this text proves: the walk of annalsref26.readFeed over this program. (By program: mktlrd.py.) -/
import Derived.Test.YtldmbfemoepfkaaTlRX
import Derived.Test.YtldmbfemoepfkaaTlNine
import Derived.Test.YtldmbfemoepfkaaRdBase
namespace Go.Proofs.Ytldmbfemoepfkaa
open Go.RowKit

/-- What is told of the reader's block: where the bytes are not. -/
def OneT (g : Nat) (l : List UInt8) (e : Int) (a : AA) (iv ev : Value) (w : World) (x : Ending) (w' : World) : Prop :=
  ∃ kv, x = .returned (.agg (ansC (rdS l e a).2.2 kv iv ev)) ∧ HBN w' g kv (rdS l e a).2.2.key ∧ XR w' g (rdS l e a).2.1 (rdS l e a).1 ∧ Only g w w'

theorem rdS_fell (l : List UInt8) (e : Int) (a : AA) (he : e ≠ 0 → l = []) : (rdS l e a).1 ≠ 0 → (rdS l e a).2.1 = [] := by
  unfold rdS
  split
  · exact rdU_fellX _ _ _ (rdB_fell _ _ _ (rdG_fell _ _ he))
  · exact rdG_fell _ _ he

set_option maxHeartbeats 1000000 in
theorem rone_any (g : Nat) (l : List UInt8) (e : Int) (a : AA) (pk : Option Addr) (nk ck : Nat) (pi : Option Addr) (ni ci : Nat) (pe : Option Addr) (ne ce : Nat) (w : World) (h : XR w g l e) (he : e ≠ 0 → l = []) (hsz : l.length ≤ 140737488355328) (hk : HBN w g (.slice pk nk ck) a.key) :
    Calls Try.prog 18 #[.pointer (some ⟨g, 0, none⟩), .agg (ansC a (.slice pk nk ck) (.slice pi ni ci) (.slice pe ne ce))] w (OneT g l e a (.slice pi ni ci) (.slice pe ne ce) w) := by
  have hlt : g < w.heap.size := by obtain ⟨cs, f, hg⟩ := h.typed; exact (Array.getElem?_eq_some_iff.1 hg).1
  have b1 := (Below.refl w.heap.size w).alloc (Nat.le_refl _) (.cells (ansC a (.slice pk nk ck) (.slice pi ni ci) (.slice pe ne ce)) 27)
  have a1 := CB.made 27 w (ansC a (.slice pk nk ck) (.slice pi ni ci) (.slice pe ne ce))
  have s1 : (w.alloc (.cells (ansC a (.slice pk nk ck) (.slice pi ni ci) (.slice pe ne ce)) 27)).heap.size = w.heap.size + 1 := World.size_alloc _ _
  obtain ⟨w1, hw1⟩ : ∃ x, x = w.alloc (.cells (ansC a (.slice pk nk ck) (.slice pi ni ci) (.slice pe ne ce)) 27) := ⟨_, rfl⟩
  rw [← hw1] at b1 a1 s1
  have b2 := (Below.refl w1.heap.size w1).alloc (Nat.le_refl _) (.cells #[.int .i64 0, .int .i64 0, .bool false, .bool false, .slice none 0 0, .int .i64 0, .slice none 0 0, .slice none 0 0, .bool false] 27)
  have a2 := CB.made 27 w1 #[.int .i64 0, .int .i64 0, .bool false, .bool false, .slice none 0 0, .int .i64 0, .slice none 0 0, .slice none 0 0, .bool false]
  obtain ⟨w2, hw2⟩ : ∃ x, x = w1.alloc (.cells #[.int .i64 0, .int .i64 0, .bool false, .bool false, .slice none 0 0, .int .i64 0, .slice none 0 0, .slice none 0 0, .bool false] 27) := ⟨_, rfl⟩
  rw [← hw2] at b2 a2
  have hB := b1.trans (b2.mono b1.size)
  have h2 := h.later hB
  have hk2 := hk.later hB
  have A1 := a1.later b2
  rw [s1] at a2
  have O2 : Only g w w2 := Only.of_below hB (Nat.le_of_lt hlt)
  have hF := xflag_all g l e w2 h2 he hsz
  have HW : Hid (w2 = (w.alloc (.cells (ansC a (.slice pk nk ck) (.slice pi ni ci) (.slice pe ne ce)) 27)).alloc (.cells #[.int .i64 0, .int .i64 0, .bool false, .bool false, .slice none 0 0, .int .i64 0, .slice none 0 0, .slice none 0 0, .bool false] 27)) := by rw [hw2, hw1]; exact rfl
  rw [hw2, hw1] at hF
  have hfl := rdG_fell l e he
  have hln : (rdG l e).2.2.length ≤ l.length := (rdG_suf l e).length_le
  obtain ⟨R, hR⟩ : ∃ R, R = OneT g l e a (.slice pi ni ci) (.slice pe ne ce) w := ⟨_, rfl⟩
  have HR : Hid (R = OneT g l e a (.slice pi ni ci) (.slice pe ne ce) w) := hR
  rw [← hR]
  have hS1 : Hid ((rdG l e).2.1 = true → rdS l e a = ((rdU (rdB (rdG l e).2.2 (rdG l e).1 300).2.2 (rdB (rdG l e).2.2 (rdG l e).1 300).1 2147483648).1, (rdU (rdB (rdG l e).2.2 (rdG l e).1 300).2.2 (rdB (rdG l e).2.2 (rdG l e).1 300).1 2147483648).2.2, { a with pr := true, key := (rdB (rdG l e).2.2 (rdG l e).1 300).2.1, si := (rdU (rdB (rdG l e).2.2 (rdG l e).1 300).2.2 (rdB (rdG l e).2.2 (rdG l e).1 300).1 2147483648).2.1 })) := fun hh => if_pos hh
  have hS2 : Hid ((rdG l e).2.1 = false → rdS l e a = ((rdG l e).1, (rdG l e).2.2, { a with pr := false })) := fun hh => if_neg (by rw [hh]; decide)
  have ht := h2.typed
  clear hR hw1 hw2 a1 b1 b2 s1 hB h hk h2
  generalize (rdG l e).2.1 = y at *
  generalize (rdG l e).2.2 = l1 at *
  generalize (rdG l e).1 = e1 at *
  have fl2 := rdB_fell l1 e1 300 hfl
  have ln2 : (rdB l1 e1 300).2.2.length ≤ l1.length := (rdB_suf l1 e1 300).length_le
  have ng : ¬ g = w.heap.size := by omega
  have ng1 : ¬ g = w.heap.size + 1 := by omega
  have n01 : ¬ w.heap.size = w.heap.size + 1 := by omega
  unfold ansC at hF HW ⊢
  go_enter Try.func18, Try.ntmps18
  go_wp2_with fail
  refine hF.mono ?_
  clear hF
  rintro x w3 ⟨rfl, h3, o3⟩
  rw [← HW.out] at o3
  have t3 : TK 47 w2 w3 := TK.of_only o3 ht.choose_spec.choose_spec
  have A3 := t3 _ _ _ _ A1 (by decide)
  have B3 := t3 _ _ _ _ a2 (by decide)
  have A3 : CB 27 w3 w.heap.size #[.int .i64 a.code, .int .i64 a.ep, .bool a.pr, .bool a.sa, .slice pk nk ck, .int .i64 a.si, .slice pi ni ci, .slice pe ne ce, .bool a.mo] := A3
  have B3 : CB 27 w3 (w.heap.size + 1) #[.int .i64 0, .int .i64 0, .bool false, .bool false, .slice none 0 0, .int .i64 0, .slice none 0 0, .slice none 0 0, .bool false] := B3
  have hk3 := hk2.tk t3 (by decide)
  have X3 := nine A3
  have Y3 := nine B3
  have fb3 := fun i => B3.free i
  have A4 := A3.set 2 (.bool y) #[.int .i64 a.code, .int .i64 a.ep, .bool y, .bool a.sa, .slice pk nk ck, .int .i64 a.si, .slice pi ni ci, .slice pe ne ce, .bool a.mo] rfl
  have B4 := B3.other ⟨w.heap.size, 2, none⟩ (.bool y) (fun h => n01 h.symm)
  have t4 : TK 27 w3 (w3.setCell ⟨w.heap.size, 2, none⟩ (.bool y)) := TK.of_only ((Only.refl w.heap.size w3).setCell 2 _) A3
  have h4 := h3.tk t4 (by decide) (by decide)
  have hk4 := hk3.tk t4 (by decide)
  have O4 := (O2.trans o3).putN (Nat.le_of_lt hlt) (Nat.le_refl _) 2 (.bool y)
  have c2 : w3.cell? ⟨w.heap.size, 2, none⟩ = some (.bool a.pr) := A3.cell rfl
  have f3 := A3.free 2
  obtain ⟨V4, hV4⟩ : ∃ x, x = w3.setCell ⟨w.heap.size, 2, none⟩ (.bool y) := ⟨_, rfl⟩
  rw [← hV4] at A4 B4 h4 hk4 O4
  have HV4 : Hid (V4 = w3.setCell ⟨w.heap.size, 2, none⟩ (.bool y)) := hV4
  clear hV4 t4 hk3 h3 A1 a2 O2 o3 hk2 t3 B3 A3 HW
  cases y with
  | false =>
    have hR1 : Hid (rdS l e a = (e1, l1, { a with pr := false })) := hS2.out rfl
    have F := nine_tk (.int .i64 a.code) (.int .i64 a.ep) (.bool false) (.bool a.sa) (.slice pk nk ck) (.int .i64 a.si) (.slice pi ni ci) (.slice pe ne ce) (.bool a.mo) B4
    have hF1 := h4.tk F (by decide) (by decide)
    have hF2 := hk4.tk F (by decide)
    have hF3 := nine_only (.int .i64 a.code) (.int .i64 a.ep) (.bool false) (.bool a.sa) (.slice pk nk ck) (.int .i64 a.si) (.slice pi ni ci) (.slice pe ne ce) (.bool a.mo) O4 (show g ≤ w.heap.size + 1 by omega) (by omega)
    have HFIN : Hid _ := (show R (.returned (.agg #[.int .i64 a.code, .int .i64 a.ep, .bool false, .bool a.sa, .slice pk nk ck, .int .i64 a.si, .slice pi ni ci, .slice pe ne ce, .bool a.mo])) (nineS V4 (w.heap.size + 1) (.int .i64 a.code) (.int .i64 a.ep) (.bool false) (.bool a.sa) (.slice pk nk ck) (.int .i64 a.si) (.slice pi ni ci) (.slice pe ne ce) (.bool a.mo)) from by rw [HR.out]; unfold OneT; rw [hR1.out]; exact ⟨.slice pk nk ck, rfl, hF2, hF1, hF3⟩)
    obtain ⟨x0, x1, x2, x3, x4, x5, x6, x7, x8⟩ := X3
    obtain ⟨y0, y1, y2, y3, y4, y5, y6, y7, y8⟩ := Y3
    unfold nineS at HFIN
    rw [HV4.out] at HFIN
    clear F hF1 hF2 hF3 HR hS1 hS2 hR1 A4 B4 h4 hk4 O4 c2 HV4
    go_wp2
    refine bodyPost_ret (v := .agg #[.int .i64 a.code, .int .i64 a.ep, .bool false, .bool a.sa, .slice pk nk ck, .int .i64 a.si, .slice pi ni ci, .slice pe ne ce, .bool a.mo]) ?_ rfl HFIN.out
    simp only [results, Try.results18]
    go_simp
  | true =>
    have hR1 := hS1.out rfl
    have HR1 : Hid _ := hR1
    have hBt := xbytes_all g l1 e1 300 V4 h4 hfl (by omega)
    generalize (rdB l1 e1 300).2.1 = key at *
    generalize (rdB l1 e1 300).2.2 = l2 at *
    generalize (rdB l1 e1 300).1 = e2 at *
    have fl3 := rdU_fellX l2 e2 2147483648 fl2
    have ln3 : (rdU l2 e2 2147483648).2.2.length ≤ l2.length := (rdU_suf l2 e2 _).length_le
    rw [HV4.out] at hBt
    obtain ⟨cs4, f4, ht4⟩ := h4.typed
    clear hR1 X3 Y3 hS1 hS2 hfl ht h4 hk4 fb3
    go_wp2_with fail
    refine hBt.mono ?_
    clear hBt
    rintro x w5 ⟨v5, rfl, p5, c5, rfl, k5, h5, o5⟩
    rw [← HV4.out] at o5
    have t5 : TK 47 V4 w5 := TK.of_only o5 ht4
    have A5 : CB 27 w5 w.heap.size _ := t5 _ _ _ _ A4 (by decide)
    have B5 : CB 27 w5 (w.heap.size + 1) _ := t5 _ _ _ _ B4 (by decide)
    have X5 := nine A5
    have f5 := A5.free 4
    have A6 := A5.set 4 (.slice p5 key.length c5) #[.int .i64 a.code, .int .i64 a.ep, .bool true, .bool a.sa, .slice p5 key.length c5, .int .i64 a.si, .slice pi ni ci, .slice pe ne ce, .bool a.mo] rfl
    have B6 := B5.other ⟨w.heap.size, 4, none⟩ (.slice p5 key.length c5) (fun h => n01 h.symm)
    have t6 : TK 27 w5 (w5.setCell ⟨w.heap.size, 4, none⟩ (.slice p5 key.length c5)) := TK.of_only ((Only.refl w.heap.size w5).setCell 4 _) A5
    have h6 := h5.tk t6 (by decide) (by decide)
    have k6 := k5.tk t6 (by decide)
    have O6 := (O4.trans o5).putN (Nat.le_of_lt hlt) (Nat.le_refl _) 4 (.slice p5 key.length c5)
    have hUi := xuint_all g l2 e2 2147483648 _ h6 fl2 (by omega)
    obtain ⟨cs6, f6, ht6⟩ := h6.typed
    obtain ⟨V6, hV6⟩ : ∃ x, x = w5.setCell ⟨w.heap.size, 4, none⟩ (.slice p5 key.length c5) := ⟨_, rfl⟩
    have HV6 : Hid (V6 = w5.setCell ⟨w.heap.size, 4, none⟩ (.slice p5 key.length c5)) := hV6
    rw [← hV6] at A6 B6 O6 k6 ht6
    obtain ⟨z0, z1, z2, z3, z4, z5, z6, z7, z8⟩ := X5
    generalize (rdU l2 e2 2147483648).2.1 = si at *
    generalize (rdU l2 e2 2147483648).2.2 = l3 at *
    generalize (rdU l2 e2 2147483648).1 = e3 at *
    clear t5 A5 B5 t6 h6 hV6 k5 h5 o5 O4 A4 B4 ht4 HV4
    go_wp2_with fail
    refine hUi.mono ?_
    clear hUi
    rintro x w7 ⟨rfl, h7, o7⟩
    rw [← HV6.out] at o7
    have t7 : TK 47 V6 w7 := TK.of_only o7 ht6
    have A7 : CB 27 w7 w.heap.size #[.int .i64 a.code, .int .i64 a.ep, .bool true, .bool a.sa, .slice p5 key.length c5, .int .i64 a.si, .slice pi ni ci, .slice pe ne ce, .bool a.mo] := t7 _ _ _ _ A6 (by decide)
    have B7 : CB 27 w7 (w.heap.size + 1) #[.int .i64 0, .int .i64 0, .bool false, .bool false, .slice none 0 0, .int .i64 0, .slice none 0 0, .slice none 0 0, .bool false] := t7 _ _ _ _ B6 (by decide)
    have k7 := k6.tk t7 (by decide)
    obtain ⟨z0, z1, z2, z3, z4, z5, z6, z7, z8⟩ := nine A7
    obtain ⟨y0, y1, y2, y3, y4, y5, y6, y7, y8⟩ := nine B7
    have fA := A7.free 5
    have fB := fun i => B7.free i
    have B8 := B7.other ⟨w.heap.size, 5, none⟩ (.int .i64 (si : Int)) (fun h => n01 h.symm)
    have t8 : TK 27 w7 (w7.setCell ⟨w.heap.size, 5, none⟩ (.int .i64 (si : Int))) := TK.of_only ((Only.refl w.heap.size w7).setCell 5 _) A7
    have h8 := h7.tk t8 (by decide) (by decide)
    have k8 := k7.tk t8 (by decide)
    have O8 := (O6.trans o7).putN (Nat.le_of_lt hlt) (Nat.le_refl _) 5 (.int .i64 (si : Int))
    have F := nine_tk (.int .i64 a.code) (.int .i64 a.ep) (.bool true) (.bool a.sa) (.slice p5 key.length c5) (.int .i64 (si : Int)) (.slice pi ni ci) (.slice pe ne ce) (.bool a.mo) B8
    have hF1 := h8.tk F (by decide) (by decide)
    have hF2 := k8.tk F (by decide)
    have hF3 := nine_only (.int .i64 a.code) (.int .i64 a.ep) (.bool true) (.bool a.sa) (.slice p5 key.length c5) (.int .i64 (si : Int)) (.slice pi ni ci) (.slice pe ne ce) (.bool a.mo) O8 (show g ≤ w.heap.size + 1 by omega) (by omega)
    have HFIN : Hid _ := (show R (.returned (.agg #[.int .i64 a.code, .int .i64 a.ep, .bool true, .bool a.sa, .slice p5 key.length c5, .int .i64 (si : Int), .slice pi ni ci, .slice pe ne ce, .bool a.mo])) (nineS (w7.setCell ⟨w.heap.size, 5, none⟩ (.int .i64 (si : Int))) (w.heap.size + 1) (.int .i64 a.code) (.int .i64 a.ep) (.bool true) (.bool a.sa) (.slice p5 key.length c5) (.int .i64 (si : Int)) (.slice pi ni ci) (.slice pe ne ce) (.bool a.mo)) from by rw [HR.out]; unfold OneT; rw [HR1.out]; exact ⟨.slice p5 key.length c5, rfl, hF2, hF1, hF3⟩)
    unfold nineS at HFIN
    clear F hF1 hF2 hF3 HR HR1 A7 B7 B8 t7 t8 h8 k8 h7 k7 k6 O8 O6 o7 A6 B6 ht6 HV6
    go_wp2
    refine bodyPost_ret (v := .agg #[.int .i64 a.code, .int .i64 a.ep, .bool true, .bool a.sa, .slice p5 key.length c5, .int .i64 (si : Int), .slice pi ni ci, .slice pe ne ce, .bool a.mo]) ?_ rfl HFIN.out
    simp only [results, Try.results18]
    go_simp

end Go.Proofs.Ytldmbfemoepfkaa

namespace Go.Proofs.Ytldmbfemoepfkaa
open Go.RowKit

theorem owns2_tk {T e : TypeId} {w w' : World} {base n s : Nat} {v : Value} {xs : List Value} (h : w.ownsRow base e s v n xs) (t : TK T w w') (hT : e ≠ T) : w'.ownsRow base e s v n xs := by
  refine ⟨h.1, ?_⟩
  rcases h.2 with hn | ⟨g, cap, cur, rfl, hbg, hg, rest⟩
  · exact .inl hn
  · exact .inr ⟨g, cap, cur, rfl, hbg, t g cur _ _ hg hT, rest⟩
theorem owns2_only {T e : TypeId} {w w' : World} {base n s g : Nat} {v : Value} {xs : List Value} {cs : Array Value} {f : Nat × Nat} (h : w.ownsRow base e s v n xs) (ho : Only g w w') (hg : w.heap[g]? = some (.cells cs T f)) (hT : e ≠ T) : w'.ownsRow base e s v n xs :=
  owns2_tk h (TK.of_only ho hg) hT

/-- A row of items that the call owns. -/
def RIx (w : World) (base g : Nat) (y : Value) (its : List It) : Prop :=
  ∃ vs : List Value, w.ownsRow base 58 3 y its.length vs ∧ ∀ (j : Nat) x, its[j]? = some x → ∃ q c r d, (vs[j * 3]? = some (.slice q x.id.length c) ∧ vs[j * 3 + 1]? = some (.slice r x.key.length d) ∧ vs[j * 3 + 2]? = some (.int .i64 x.si)) ∧ HBN w g (.slice q x.id.length c) x.id ∧ HBN w g (.slice r x.key.length d) x.key
theorem RIx.nil (w : World) (base g : Nat) : RIx w base g (.slice none 0 0) [] := ⟨[], World.ownsRow_nil _ _ _ _, fun j x h => by simp at h⟩
theorem RIx.tk {T : TypeId} {w w' : World} {base g : Nat} {y : Value} {its : List It} (h : RIx w base g y its) (t : TK T w w') (hT : 5 ≠ T) (hI : 58 ≠ T) : RIx w' base g y its := by
  obtain ⟨vs, h1, h2⟩ := h
  refine ⟨vs, owns2_tk h1 t hI, fun j x hx => ?_⟩
  obtain ⟨q, c, r, d, k1, k2, k3⟩ := h2 j x hx
  exact ⟨q, c, r, d, k1, k2.tk t hT, k3.tk t hT⟩
theorem RIx.shape {w : World} {base g : Nat} {y : Value} {its : List It} (h : RIx w base g y its) : ∃ p c, y = .slice p its.length c := by
  obtain ⟨vs, h1, _⟩ := h
  rcases h1.2 with ⟨rfl, h0⟩ | ⟨b, cap, cur, rfl, _⟩
  · exact ⟨none, 0, by rw [h0]⟩
  · exact ⟨_, _, rfl⟩
theorem RIx.ia {w : World} {base g : Nat} {y : Value} {its : List It} (h : RIx w base g y its) : IA w y its := by
  obtain ⟨vs, h1, h2⟩ := h
  obtain ⟨h4, h5⟩ := h1
  rcases h5 with ⟨rfl, h0⟩ | ⟨g', cap, cur, rfl, hb, hg, hl, hm, hs, ht⟩
  · obtain rfl : its = [] := List.eq_nil_of_length_eq_zero h0
    exact IA.nil w
  · refine ⟨_, cap, rfl, hl, hm, fun _ => ⟨g', 0, rfl, fun k x hx => ?_⟩⟩
    obtain ⟨q, c, r, d, ⟨m0, m1, m2⟩, k2, k3⟩ := h2 k x hx
    have cellOf : ∀ i v, vs[i]? = some v → w.cell? ⟨g', i, none⟩ = some v := by
      intro i v hv
      rw [cell_of_row w g' i cur 58 (0, 0) hg]
      have hi : i < vs.length := (List.getElem?_eq_some_iff.1 hv).1
      rw [← ht, List.getElem?_take, if_pos (by omega)] at hv
      simpa using hv
    rw [Nat.zero_add]
    exact ⟨q, c, r, d, ⟨cellOf _ _ m0, cellOf _ _ m1, cellOf _ _ m2⟩, k2.1, k3.1⟩
theorem RIx.snoc {wA w' : World} {base g : Nat} {y v' : Value} {vs : List Value} {its : List It} {x : It} {q r : Option Addr} {c d : Nat} (h2 : wA.ownsRow base 58 3 y its.length vs) (h3 : ∀ (j : Nat) x, its[j]? = some x → ∃ q c r d, (vs[j * 3]? = some (.slice q x.id.length c) ∧ vs[j * 3 + 1]? = some (.slice r x.key.length d) ∧ vs[j * 3 + 2]? = some (.int .i64 x.si)) ∧ HBN wA g (.slice q x.id.length c) x.id ∧ HBN wA g (.slice r x.key.length d) x.key)
    (ha : HBN wA g (.slice q x.id.length c) x.id) (hb : HBN wA g (.slice r x.key.length d) x.key) (hg : wA.grownBy w' y.ownBlock) (ho : w'.ownsRow base 58 3 v' (its.length + 1) (vs ++ [.slice q x.id.length c, .slice r x.key.length d, .int .i64 x.si])) : RIx w' base g v' (its ++ [x]) := by
  have t := TK.of_grown h2 hg
  have hvl : vs.length = its.length * 3 := h2.1
  refine ⟨vs ++ [.slice q x.id.length c, .slice r x.key.length d, .int .i64 x.si], by simpa using ho, fun j z hz => ?_⟩
  by_cases hj : j < its.length
  · rw [List.getElem?_append_left hj] at hz
    obtain ⟨q', c', r', d', ⟨m0, m1, m2⟩, k2, k3⟩ := h3 j z hz
    refine ⟨q', c', r', d', ⟨?_, ?_, ?_⟩, k2.tk t (by decide), k3.tk t (by decide)⟩
    · rw [List.getElem?_append_left (by omega)]; exact m0
    · rw [List.getElem?_append_left (by omega)]; exact m1
    · rw [List.getElem?_append_left (by omega)]; exact m2
  · rw [List.getElem?_append_right (by omega)] at hz
    cases hj2 : j - its.length with
    | succ i => rw [hj2] at hz; simp at hz
    | zero =>
      rw [hj2] at hz
      simp at hz
      obtain rfl : j = its.length := by omega
      subst hz
      refine ⟨q, c, r, d, ⟨?_, ?_, ?_⟩, ha.tk t (by decide), hb.tk t (by decide)⟩
      · rw [List.getElem?_append_right (by omega), hvl, Nat.sub_self]; rfl
      · rw [List.getElem?_append_right (by omega), hvl, show its.length * 3 + 1 - its.length * 3 = 1 by omega]; rfl
      · rw [List.getElem?_append_right (by omega), hvl, show its.length * 3 + 2 - its.length * 3 = 2 by omega]; rfl

/-- A row of events that the call owns. -/
def REx (w : World) (base g : Nat) (y : Value) (its : List Ev) : Prop :=
  ∃ vs : List Value, w.ownsRow base 61 4 y its.length vs ∧ ∀ (j : Nat) x, its[j]? = some x → ∃ q c r d, (vs[j * 4]? = some (.int .i64 x.e) ∧ vs[j * 4 + 1]? = some (.int .i64 x.i) ∧ vs[j * 4 + 2]? = some (.slice q x.id.length c) ∧ vs[j * 4 + 3]? = some (.slice r x.key.length d)) ∧ HBN w g (.slice q x.id.length c) x.id ∧ HBN w g (.slice r x.key.length d) x.key
theorem REx.nil (w : World) (base g : Nat) : REx w base g (.slice none 0 0) [] := ⟨[], World.ownsRow_nil _ _ _ _, fun j x h => by simp at h⟩
theorem REx.tk {T : TypeId} {w w' : World} {base g : Nat} {y : Value} {its : List Ev} (h : REx w base g y its) (t : TK T w w') (hT : 5 ≠ T) (hI : 61 ≠ T) : REx w' base g y its := by
  obtain ⟨vs, h1, h2⟩ := h
  refine ⟨vs, owns2_tk h1 t hI, fun j x hx => ?_⟩
  obtain ⟨q, c, r, d, k1, k2, k3⟩ := h2 j x hx
  exact ⟨q, c, r, d, k1, k2.tk t hT, k3.tk t hT⟩
theorem REx.shape {w : World} {base g : Nat} {y : Value} {its : List Ev} (h : REx w base g y its) : ∃ p c, y = .slice p its.length c := by
  obtain ⟨vs, h1, _⟩ := h
  rcases h1.2 with ⟨rfl, h0⟩ | ⟨b, cap, cur, rfl, _⟩
  · exact ⟨none, 0, by rw [h0]⟩
  · exact ⟨_, _, rfl⟩
theorem REx.ia {w : World} {base g : Nat} {y : Value} {its : List Ev} (h : REx w base g y its) : EA w y its := by
  obtain ⟨vs, h1, h2⟩ := h
  obtain ⟨h4, h5⟩ := h1
  rcases h5 with ⟨rfl, h0⟩ | ⟨g', cap, cur, rfl, hb, hg, hl, hm, hs, ht⟩
  · obtain rfl : its = [] := List.eq_nil_of_length_eq_zero h0
    exact EA.nil w
  · refine ⟨_, cap, rfl, hl, hm, fun _ => ⟨g', 0, rfl, fun k x hx => ?_⟩⟩
    obtain ⟨q, c, r, d, ⟨m0, m1, m2, m3⟩, k2, k3⟩ := h2 k x hx
    have cellOf : ∀ i v, vs[i]? = some v → w.cell? ⟨g', i, none⟩ = some v := by
      intro i v hv
      rw [cell_of_row w g' i cur 61 (0, 0) hg]
      have hi : i < vs.length := (List.getElem?_eq_some_iff.1 hv).1
      rw [← ht, List.getElem?_take, if_pos (by omega)] at hv
      simpa using hv
    rw [Nat.zero_add]
    exact ⟨q, c, r, d, ⟨cellOf _ _ m0, cellOf _ _ m1, cellOf _ _ m2, cellOf _ _ m3⟩, k2.1, k3.1⟩
theorem REx.snoc {wA w' : World} {base g : Nat} {y v' : Value} {vs : List Value} {its : List Ev} {x : Ev} {q r : Option Addr} {c d : Nat} (h2 : wA.ownsRow base 61 4 y its.length vs) (h3 : ∀ (j : Nat) x, its[j]? = some x → ∃ q c r d, (vs[j * 4]? = some (.int .i64 x.e) ∧ vs[j * 4 + 1]? = some (.int .i64 x.i) ∧ vs[j * 4 + 2]? = some (.slice q x.id.length c) ∧ vs[j * 4 + 3]? = some (.slice r x.key.length d)) ∧ HBN wA g (.slice q x.id.length c) x.id ∧ HBN wA g (.slice r x.key.length d) x.key)
    (ha : HBN wA g (.slice q x.id.length c) x.id) (hb : HBN wA g (.slice r x.key.length d) x.key) (hg : wA.grownBy w' y.ownBlock) (ho : w'.ownsRow base 61 4 v' (its.length + 1) (vs ++ [.int .i64 x.e, .int .i64 x.i, .slice q x.id.length c, .slice r x.key.length d])) : REx w' base g v' (its ++ [x]) := by
  have t := TK.of_grown h2 hg
  have hvl : vs.length = its.length * 4 := h2.1
  refine ⟨vs ++ [.int .i64 x.e, .int .i64 x.i, .slice q x.id.length c, .slice r x.key.length d], by simpa using ho, fun j z hz => ?_⟩
  by_cases hj : j < its.length
  · rw [List.getElem?_append_left hj] at hz
    obtain ⟨q', c', r', d', ⟨m0, m1, m2, m3⟩, k2, k3⟩ := h3 j z hz
    refine ⟨q', c', r', d', ⟨?_, ?_, ?_, ?_⟩, k2.tk t (by decide), k3.tk t (by decide)⟩
    · rw [List.getElem?_append_left (by omega)]; exact m0
    · rw [List.getElem?_append_left (by omega)]; exact m1
    · rw [List.getElem?_append_left (by omega)]; exact m2
    · rw [List.getElem?_append_left (by omega)]; exact m3
  · rw [List.getElem?_append_right (by omega)] at hz
    cases hj2 : j - its.length with
    | succ i => rw [hj2] at hz; simp at hz
    | zero =>
      rw [hj2] at hz
      simp at hz
      obtain rfl : j = its.length := by omega
      subst hz
      refine ⟨q, c, r, d, ⟨?_, ?_, ?_, ?_⟩, ha.tk t (by decide), hb.tk t (by decide)⟩
      · rw [List.getElem?_append_right (by omega), hvl, Nat.sub_self]; rfl
      · rw [List.getElem?_append_right (by omega), hvl, show its.length * 4 + 1 - its.length * 4 = 1 by omega]; rfl
      · rw [List.getElem?_append_right (by omega), hvl, show its.length * 4 + 2 - its.length * 4 = 2 by omega]; rfl
      · rw [List.getElem?_append_right (by omega), hvl, show its.length * 4 + 3 - its.length * 4 = 3 by omega]; rfl

end Go.Proofs.Ytldmbfemoepfkaa

namespace Go.Proofs.Ytldmbfemoepfkaa
open Go.RowKit

theorem cells_new (w : World) (l : List Value) (t : TypeId) : ∀ j u, l[j]? = some u → (w.alloc (.cells l.toArray t)).cell? ((⟨w.heap.size, 0, none⟩ : Addr).add j) = some u := by
  intro j u hj
  have h := heap_alloc_new w (.cells l.toArray t)
  simp only [Addr.add, Nat.zero_add]
  split
  · rename_i h0
    subst h0
    rw [cell_of_row _ _ _ _ _ _ h]
    simpa using hj
  · rw [cell_of_row _ _ _ _ _ _ h]
    simpa using hj

theorem hid_of {p : Prop} (h : p) : Hid p := h

theorem i_itemR : (Try.prog.info? 58).map (fun i => (i.zero, i.size, i.bytes)) = some (some (.agg #[.slice none 0 0, .slice none 0 0, .int .i64 0]), 3, 56) := by kernel_rfl

theorem itS_fell (l : List UInt8) (e : Int) (he : e ≠ 0 → l = []) (k : Nat) : (itS l e k).1 ≠ 0 → (itS l e k).2.1 = [] := by
  induction k with
  | zero => exact he
  | succ k ih => exact rdU_fellX _ _ _ (rdB_fell _ _ _ (rdB_fell _ _ _ (ih)))

set_option maxHeartbeats 2000000 in
theorem rdiff_any (g : Nat) (l : List UInt8) (e : Int) (w : World) (h : XR w g l e) (he : e ≠ 0 → l = []) (hsz : l.length ≤ 140737488355328) :
    Calls Try.prog 20 #[.pointer (some ⟨g, 0, none⟩), .agg #[.int .i64 0, .int .i64 0, .bool false, .bool false, .slice none 0 0, .int .i64 0, .slice none 0 0, .slice none 0 0, .bool false]] w fun x w' => ∃ iv, x = .returned (.agg (ansC (rdD l e AA0).2.2 (.slice none 0 0) iv (.slice none 0 0))) ∧ RIx w' w.heap.size g iv (rdD l e AA0).2.2.its ∧ XR w' g (rdD l e AA0).2.1 (rdD l e AA0).1 ∧ Only g w w' := by
  have hlt : g < w.heap.size := by obtain ⟨cs, f, hg⟩ := h.typed; exact (Array.getElem?_eq_some_iff.1 hg).1
  have b1 := (Below.refl w.heap.size w).alloc (Nat.le_refl _) (.cells #[.int .i64 0, .int .i64 0, .bool false, .bool false, .slice none 0 0, .int .i64 0, .slice none 0 0, .slice none 0 0, .bool false] 27)
  have a1 := CB.made 27 w #[.int .i64 0, .int .i64 0, .bool false, .bool false, .slice none 0 0, .int .i64 0, .slice none 0 0, .slice none 0 0, .bool false]
  have s1 : (w.alloc (.cells #[.int .i64 0, .int .i64 0, .bool false, .bool false, .slice none 0 0, .int .i64 0, .slice none 0 0, .slice none 0 0, .bool false] 27)).heap.size = w.heap.size + 1 := World.size_alloc _ _
  obtain ⟨w1, hw1⟩ : ∃ x, x = w.alloc (.cells #[.int .i64 0, .int .i64 0, .bool false, .bool false, .slice none 0 0, .int .i64 0, .slice none 0 0, .slice none 0 0, .bool false] 27) := ⟨_, rfl⟩
  rw [← hw1] at b1 a1 s1
  have b2 := (Below.refl w1.heap.size w1).alloc (Nat.le_refl _) (.cells #[.int .i64 0, .int .i64 0, .bool false, .bool false, .slice none 0 0, .int .i64 0, .slice none 0 0, .slice none 0 0, .bool false] 27)
  have a2 := CB.made 27 w1 #[.int .i64 0, .int .i64 0, .bool false, .bool false, .slice none 0 0, .int .i64 0, .slice none 0 0, .slice none 0 0, .bool false]
  obtain ⟨w2, hw2⟩ : ∃ x, x = w1.alloc (.cells #[.int .i64 0, .int .i64 0, .bool false, .bool false, .slice none 0 0, .int .i64 0, .slice none 0 0, .slice none 0 0, .bool false] 27) := ⟨_, rfl⟩
  rw [← hw2] at b2 a2
  have hB := b1.trans (b2.mono b1.size)
  have h2 := h.later hB
  have A1 := a1.later b2
  rw [s1] at a2
  have O2 : Only g w w2 := Only.of_below hB (Nat.le_of_lt hlt)
  have hF := xuint_all g l e 32 w2 h2 he hsz
  have HW : Hid (w2 = (w.alloc (.cells #[.int .i64 0, .int .i64 0, .bool false, .bool false, .slice none 0 0, .int .i64 0, .slice none 0 0, .slice none 0 0, .bool false] 27)).alloc (.cells #[.int .i64 0, .int .i64 0, .bool false, .bool false, .slice none 0 0, .int .i64 0, .slice none 0 0, .slice none 0 0, .bool false] 27)) := by rw [hw2, hw1]; exact rfl
  rw [hw2, hw1] at hF
  have hfl := rdU_fellX l e 32 he
  have hln : (rdU l e 32).2.2.length ≤ l.length := (rdU_suf l e 32).length_le
  have hmo : ((rdU l e 32).2.1 : Int) ≤ 32 := rdU_most l e 32 (by decide)
  have hsf := fun k => (itS_suf (rdU l e 32).2.2 (rdU l e 32).1 k).length_le
  have hfe := itS_fell (rdU l e 32).2.2 (rdU l e 32).1 hfl
  have hle := itS_len (rdU l e 32).2.2 (rdU l e 32).1
  have HSk : Hid (∀ k, itS (rdU l e 32).2.2 (rdU l e 32).1 (k + 1) = ((rdI (itS (rdU l e 32).2.2 (rdU l e 32).1 k).2.1 (itS (rdU l e 32).2.2 (rdU l e 32).1 k).1).1, (rdI (itS (rdU l e 32).2.2 (rdU l e 32).1 k).2.1 (itS (rdU l e 32).2.2 (rdU l e 32).1 k).1).2.1, (itS (rdU l e 32).2.2 (rdU l e 32).1 k).2.2 ++ [(rdI (itS (rdU l e 32).2.2 (rdU l e 32).1 k).2.1 (itS (rdU l e 32).2.2 (rdU l e 32).1 k).1).2.2])) := fun _ => rfl
  have HS0 : Hid (itS (rdU l e 32).2.2 (rdU l e 32).1 0 = ((rdU l e 32).1, (rdU l e 32).2.2, [])) := rfl
  have HDi : Hid (rdDi l e = itS (rdU l e 32).2.2 (rdU l e 32).1 (rdU l e 32).2.1) := rfl
  obtain ⟨R, hR⟩ : ∃ R : Ending → World → Prop, R = fun x w' => ∃ iv, x = .returned (.agg (ansC (rdD l e AA0).2.2 (.slice none 0 0) iv (.slice none 0 0))) ∧ RIx w' w.heap.size g iv (rdD l e AA0).2.2.its ∧ XR w' g (rdD l e AA0).2.1 (rdD l e AA0).1 ∧ Only g w w' := ⟨_, rfl⟩
  have HR : Hid (R = fun x w' => ∃ iv, x = .returned (.agg (ansC (rdD l e AA0).2.2 (.slice none 0 0) iv (.slice none 0 0))) ∧ RIx w' w.heap.size g iv (rdD l e AA0).2.2.its ∧ XR w' g (rdD l e AA0).2.1 (rdD l e AA0).1 ∧ Only g w w') := hR
  rw [← hR]
  have ht := h2.typed
  clear hR hw1 hw2 a1 b1 b2 s1 hB h h2
  generalize itS (rdU l e 32).2.2 (rdU l e 32).1 = S at *
  generalize (rdU l e 32).2.1 = n at *
  generalize (rdU l e 32).2.2 = l1 at *
  generalize (rdU l e 32).1 = e1 at *
  have ng : ¬ g = w.heap.size := by omega
  have ng1 : ¬ g = w.heap.size + 1 := by omega
  have n01 : ¬ w.heap.size = w.heap.size + 1 := by omega
  go_enter Try.func20, Try.ntmps20
  go_wp2_with fail
  refine hF.mono ?_
  clear hF
  rintro x w3 ⟨rfl, h3, o3⟩
  rw [← HW.out] at o3
  have t3 : TK 47 w2 w3 := TK.of_only o3 ht.choose_spec.choose_spec
  have A3 : CB 27 w3 w.heap.size #[.int .i64 0, .int .i64 0, .bool false, .bool false, .slice none 0 0, .int .i64 0, .slice none 0 0, .slice none 0 0, .bool false] := t3 _ _ _ _ A1 (by decide)
  have B3 : CB 27 w3 (w.heap.size + 1) #[.int .i64 0, .int .i64 0, .bool false, .bool false, .slice none 0 0, .int .i64 0, .slice none 0 0, .slice none 0 0, .bool false] := t3 _ _ _ _ a2 (by decide)
  have O3 := O2.trans o3
  clear HW ht t3 A1 a2 O2 o3
  go_wp2
  go_loopw [8] (fun i wr => ∃ k : Nat, k ≤ n ∧ i = .int .i64 (k : Int) ∧ ∃ py cy, XR wr g (S k).2.1 (S k).1 ∧ CB 27 wr w.heap.size #[.int .i64 0, .int .i64 0, .bool false, .bool false, .slice none 0 0, .int .i64 0, .slice py (S k).2.2.length cy, .slice none 0 0, .bool false] ∧ CB 27 wr (w.heap.size + 1) #[.int .i64 0, .int .i64 0, .bool false, .bool false, .slice none 0 0, .int .i64 0, .slice none 0 0, .slice none 0 0, .bool false] ∧ RIx wr w.heap.size g (.slice py (S k).2.2.length cy) (S k).2.2 ∧ Only g w wr) (fun i _ => n - (intOf i).toNat)
  case atStart => exact ⟨0, Nat.zero_le _, rfl, none, 0, by rw [HS0.out]; exact h3, by rw [HS0.out]; exact A3, B3, by rw [HS0.out]; exact RIx.nil _ _ _, O3⟩
  case round =>
    clear h3 A3 B3 O3
    obtain ⟨k, hk, rfl, py, cy, hx, hA, hB, hrow, hO⟩ := hrel
    by_cases hlt2 : k < n
    · have hlt3 : (k : Int) < (n : Int) := by omega
      have hlk := hsf k
      have hfk := hfe k
      have hlek : Hid ((S k).2.2.length = k) := hle k
      have HSK := HSk.out k
      generalize (S k).2.1 = lk at *
      generalize (S k).1 = ek at *
      generalize (S k).2.2 = its at *
      have HSK2 : Hid (S (k + 1) = ((rdI lk ek).1, (rdI lk ek).2.1, its ++ [(rdI lk ek).2.2])) := HSK
      clear HSK
      obtain ⟨i0, hi0, hz0, hz1, hz2⟩ := info_parts i_itemR
      obtain ⟨cs0, f0, hg0⟩ := hx.typed
      have ln0 : (rdI1 lk ek).2.2.length ≤ lk.length := (rdB_suf _ _ _).length_le
      have fl0 : (rdI1 lk ek).1 ≠ 0 → (rdI1 lk ek).2.2 = [] := rdB_fell lk ek 300 hfk
      have ln1 : (rdI2 lk ek).2.2.length ≤ (rdI1 lk ek).2.2.length := (rdB_suf _ _ _).length_le
      have fl1 : (rdI2 lk ek).1 ≠ 0 → (rdI2 lk ek).2.2 = [] := rdB_fell (rdI1 lk ek).2.2 (rdI1 lk ek).1 300 fl0
      have ln2 : (rdI3 lk ek).2.2.length ≤ (rdI2 lk ek).2.2.length := (rdU_suf _ _ _).length_le
      have fl2 : (rdI3 lk ek).1 ≠ 0 → (rdI3 lk ek).2.2 = [] := rdU_fellX (rdI2 lk ek).2.2 (rdI2 lk ek).1 2147483648 fl1
      have H0 := xbytes_all g lk ek 300 wr hx hfk (by omega)
      rw [show rdB lk ek 300 = rdI1 lk ek from rfl] at H0
      clear hx
      go_wp2_with fail
      refine H0.mono ?_
      clear H0
      rintro x u0 ⟨v0, rfl, p0, c0, rfl, k0, h0, o0⟩
      have t0 : TK 47 wr u0 := TK.of_only o0 hg0
      have P0 := o0
      have bB := (Below.refl u0.heap.size u0).alloc (Nat.le_refl _) (.cells #[.slice p0 (rdI1 lk ek).2.1.length c0, .slice none 0 0, .int .i64 0] 58)
      have X0 := CB.made 58 u0 #[.slice p0 (rdI1 lk ek).2.1.length c0, .slice none 0 0, .int .i64 0]
      obtain ⟨V0, hV0⟩ : ∃ x, x = u0.alloc (.cells #[.slice p0 (rdI1 lk ek).2.1.length c0, .slice none 0 0, .int .i64 0] 58) := ⟨_, rfl⟩
      have HV0 : Hid (V0 = u0.alloc (.cells #[.slice p0 (rdI1 lk ek).2.1.length c0, .slice none 0 0, .int .i64 0] 58)) := hV0
      rw [← hV0] at bB X0
      have hgu : g < u0.heap.size := by have := hO.1.size; have := o0.1.size; omega
      have hgw : w.heap.size < u0.heap.size := by have := hA.lt; have := o0.1.size; omega
      have hgw1 : w.heap.size + 1 < u0.heap.size := by have := hB.lt; have := o0.1.size; omega
      have Q0 : Only g wr V0 := P0.trans (Only.of_below bB (Nat.le_of_lt hgu))
      have x0 := h0.later bB
      have kk0 := k0.later bB
      have hwu : wr.heap.size ≤ u0.heap.size := o0.1.size
      clear bB t0 P0 h0 k0
      have H1 := xbytes_all g (rdI1 lk ek).2.2 (rdI1 lk ek).1 300 V0 x0 fl0 (by omega)
      rw [show rdB (rdI1 lk ek).2.2 (rdI1 lk ek).1 300 = rdI2 lk ek from rfl] at H1
      rw [HV0.out] at H1
      obtain ⟨cs1, f1, hg1⟩ := x0.typed
      go_wp2_with fail
      refine H1.mono ?_
      clear H1
      rintro x u1 ⟨v1, rfl, p1, c1, rfl, k1, h1, o1⟩
      rw [← HV0.out] at o1
      have t1 : TK 47 V0 u1 := TK.of_only o1 hg1
      have Y1 : CB 58 u1 u0.heap.size #[.slice p0 (rdI1 lk ek).2.1.length c0, .slice none 0 0, .int .i64 0] := t1 _ _ _ _ X0 (by decide)
      have X1 := Y1.set 1 (.slice p1 (rdI2 lk ek).2.1.length c1) #[.slice p0 (rdI1 lk ek).2.1.length c0, .slice p1 (rdI2 lk ek).2.1.length c1, .int .i64 0] rfl
      have y10 : u1.cell? ⟨u0.heap.size, 0, none⟩ = some (.slice p0 (rdI1 lk ek).2.1.length c0) := Y1.cell rfl
      have y11 : u1.cell? ⟨u0.heap.size, 1, none⟩ = some (.slice none 0 0) := Y1.cell rfl
      have y12 : u1.cell? ⟨u0.heap.size, 2, none⟩ = some (.int .i64 0) := Y1.cell rfl
      have z1 := Y1.free 1
      have s1 : TK 58 u1 (u1.setCell ⟨u0.heap.size, 1, none⟩ (.slice p1 (rdI2 lk ek).2.1.length c1)) := TK.of_only ((Only.refl u0.heap.size u1).setCell 1 _) Y1
      have x1 := h1.tk s1 (by decide) (by decide)
      have Q1 := (Q0.trans o1).putN (Nat.le_of_lt hgu) hwu 1 (.slice p1 (rdI2 lk ek).2.1.length c1)
      have kk0 := (kk0.tk t1 (by decide)).tk s1 (by decide)
      have kk1 := k1.tk s1 (by decide)
      obtain ⟨V1, hV1⟩ : ∃ x, x = u1.setCell ⟨u0.heap.size, 1, none⟩ (.slice p1 (rdI2 lk ek).2.1.length c1) := ⟨_, rfl⟩
      have HV1 : Hid (V1 = u1.setCell ⟨u0.heap.size, 1, none⟩ (.slice p1 (rdI2 lk ek).2.1.length c1)) := hV1
      rw [← hV1] at X1 x1 Q1 kk0 kk1
      clear hV1 HV0 t1 s1 o1 h1 k1 Y1
      have H2 := xuint_all g (rdI2 lk ek).2.2 (rdI2 lk ek).1 2147483648 V1 x1 fl1 (by omega)
      rw [show rdU (rdI2 lk ek).2.2 (rdI2 lk ek).1 2147483648 = rdI3 lk ek from rfl] at H2
      rw [HV1.out] at H2
      obtain ⟨cs2, f2, hg2⟩ := x1.typed
      go_wp2_with fail
      refine H2.mono ?_
      clear H2
      rintro x u2 ⟨rfl, h2, o2⟩
      rw [← HV1.out] at o2
      have t2 : TK 47 V1 u2 := TK.of_only o2 hg2
      have Y2 : CB 58 u2 u0.heap.size #[.slice p0 (rdI1 lk ek).2.1.length c0, .slice p1 (rdI2 lk ek).2.1.length c1, .int .i64 0] := t2 _ _ _ _ X1 (by decide)
      have X2 := Y2.set 2 (.int .i64 ((rdI3 lk ek).2.1 : Int)) #[.slice p0 (rdI1 lk ek).2.1.length c0, .slice p1 (rdI2 lk ek).2.1.length c1, .int .i64 ((rdI3 lk ek).2.1 : Int)] rfl
      have y20 : u2.cell? ⟨u0.heap.size, 0, none⟩ = some (.slice p0 (rdI1 lk ek).2.1.length c0) := Y2.cell rfl
      have y21 : u2.cell? ⟨u0.heap.size, 1, none⟩ = some (.slice p1 (rdI2 lk ek).2.1.length c1) := Y2.cell rfl
      have y22 : u2.cell? ⟨u0.heap.size, 2, none⟩ = some (.int .i64 0) := Y2.cell rfl
      have z2 := Y2.free 2
      have s2 : TK 58 u2 (u2.setCell ⟨u0.heap.size, 2, none⟩ (.int .i64 ((rdI3 lk ek).2.1 : Int))) := TK.of_only ((Only.refl u0.heap.size u2).setCell 2 _) Y2
      have x2 := h2.tk s2 (by decide) (by decide)
      have Q2 := (Q1.trans o2).putN (Nat.le_of_lt hgu) hwu 2 (.int .i64 ((rdI3 lk ek).2.1 : Int))
      have kk0 := (kk0.tk t2 (by decide)).tk s2 (by decide)
      have kk1 := (kk1.tk t2 (by decide)).tk s2 (by decide)
      obtain ⟨V2, hV2⟩ : ∃ x, x = u2.setCell ⟨u0.heap.size, 2, none⟩ (.int .i64 ((rdI3 lk ek).2.1 : Int)) := ⟨_, rfl⟩
      have HV2 : Hid (V2 = u2.setCell ⟨u0.heap.size, 2, none⟩ (.int .i64 ((rdI3 lk ek).2.1 : Int))) := hV2
      rw [← hV2] at X2 x2 Q2 kk0 kk1
      clear hV2 HV1 t2 s2 o2 h2 Y2
      have tQ : TK 47 wr V2 := TK.of_only Q2 hg0
      have AQ : CB 27 V2 w.heap.size #[.int .i64 0, .int .i64 0, .bool false, .bool false, .slice none 0 0, .int .i64 0, .slice py its.length cy, .slice none 0 0, .bool false] := tQ _ _ _ _ hA (by decide)
      have BQ : CB 27 V2 (w.heap.size + 1) #[.int .i64 0, .int .i64 0, .bool false, .bool false, .slice none 0 0, .int .i64 0, .slice none 0 0, .slice none 0 0, .bool false] := tQ _ _ _ _ hB (by decide)
      have RQ := hrow.tk tQ (by decide) (by decide)
      have b6 := (Below.refl V2.heap.size V2).alloc (Nat.le_refl _) (.cells #[.slice p0 (rdI1 lk ek).2.1.length c0, .slice p1 (rdI2 lk ek).2.1.length c1, .int .i64 ((rdI3 lk ek).2.1 : Int)] 58)
      have X6 := CB.made 58 V2 #[.slice p0 (rdI1 lk ek).2.1.length c0, .slice p1 (rdI2 lk ek).2.1.length c1, .int .i64 ((rdI3 lk ek).2.1 : Int)]
      have x6 := x2.later b6
      have hVs : u0.heap.size < V2.heap.size := X2.lt
      have hsz2 : V2.heap.size = u2.heap.size := by rw [HV2.out]; simp
      have Q6 : Only g wr _ := Q2.trans (Only.of_below b6 (by omega))
      have A6 := AQ.later b6
      have B6 := BQ.later b6
      have R6 := RQ.tk (TK.of_below (T := 47) b6) (by decide) (by decide)
      have kz0 := kk0.later b6
      have kz1 := kk1.later b6
      obtain ⟨vs, owB, hvs⟩ := R6
      have m6 : V2.cell? ⟨w.heap.size, 6, none⟩ = some (.slice py its.length cy) := AQ.cell rfl
      have HOW := hid_of owB
      rw [HV2.out] at m6 owB
      clear AQ BQ RQ tQ x2 X2 hA hB hrow kk0 kk1 b6
      go_wp2_with (first | (at_builtin; refine wpList_append_own _ rfl (.tmp 20) (.tmp 22) 24 rfl w.heap.size 58 i0 _ 3 56 Try.underlying24 hi0 hz0 hz1 hz2 rfl (by decide) _ _ _ rfl owB ⟨u2.heap.size, 0, none⟩ 1 1 [.slice p0 (rdI1 lk ek).2.1.length c0, .slice p1 (rdI2 lk ek).2.1.length c1, .int .i64 ((rdI3 lk ek).2.1 : Int)] rfl rfl ?ra ?rb ?rc ?rd ?re ?_))
      case ra => exact (by have hc := cells_new (u2.setCell ⟨u0.heap.size, 2, none⟩ (.int .i64 ((rdI3 lk ek).2.1 : Int))) [.slice p0 (rdI1 lk ek).2.1.length c0, .slice p1 (rdI2 lk ek).2.1.length c1, .int .i64 ((rdI3 lk ek).2.1 : Int)] 58; rwa [show (u2.setCell ⟨u0.heap.size, 2, none⟩ (.int .i64 ((rdI3 lk ek).2.1 : Int))).heap.size = u2.heap.size by simp] at hc)
      case rb => intro u hu; simp at hu; rcases hu with rfl | rfl | rfl <;> rfl
      case rc => have := hlek.out; unfold maxLen; omega
      case rd => have := hlek.out; omega
      case re => have := hlek.out; simp; omega
      intro y9 w9 ow9 gr9 _
      rw [← HV2.out] at gr9
      have hrow9 : RIx w9 w.heap.size g y9 (its ++ [(rdI lk ek).2.2]) := RIx.snoc (x := (rdI lk ek).2.2) HOW.out hvs kz0 kz1 gr9 ow9
      have tg := TK.of_grown HOW.out gr9
      have x9 := x6.tk tg (by decide) (by decide)
      have A9 : CB 27 w9 w.heap.size #[.int .i64 0, .int .i64 0, .bool false, .bool false, .slice none 0 0, .int .i64 0, .slice py its.length cy, .slice none 0 0, .bool false] := tg _ _ _ _ A6 (by decide)
      have B9 : CB 27 w9 (w.heap.size + 1) #[.int .i64 0, .int .i64 0, .bool false, .bool false, .slice none 0 0, .int .i64 0, .slice none 0 0, .slice none 0 0, .bool false] := tg _ _ _ _ B6 (by decide)
      have OV := hO.trans Q6
      have hb9 := (Below.refl w.heap.size _).grown gr9 OV.1.size (fun k hk => (HOW.out.lt k hk).1)
      have O9 : Only g w w9 := ⟨OV.1.trans (hb9.mono (Nat.le_of_lt hlt)), fun k hk hs => (hb9.block k hs).trans (OV.2 k hk hs)⟩
      clear gr9 ow9 owB HOW hvs tg x6 A6 B6 OV hb9 Q6 hO HV2 kz0 kz1
      obtain ⟨p9, c9, hy9⟩ := hrow9.shape
      rw [List.length_append, List.length_singleton] at hy9
      subst hy9
      have A10 := A9.set 6 (.slice p9 (its.length + 1) c9) #[.int .i64 0, .int .i64 0, .bool false, .bool false, .slice none 0 0, .int .i64 0, .slice p9 (its.length + 1) c9, .slice none 0 0, .bool false] rfl
      have B10 := B9.other ⟨w.heap.size, 6, none⟩ (.slice p9 (its.length + 1) c9) (fun h => n01 h.symm)
      have t10 : TK 27 w9 (w9.setCell ⟨w.heap.size, 6, none⟩ (.slice p9 (its.length + 1) c9)) := TK.of_only ((Only.refl w.heap.size w9).setCell 6 _) A9
      have x10 := x9.tk t10 (by decide) (by decide)
      have r10 := hrow9.tk t10 (by decide) (by decide)
      have O10 := O9.putN (Nat.le_of_lt hlt) (Nat.le_refl _) 6 (.slice p9 (its.length + 1) c9)
      have c9c : w9.cell? ⟨w.heap.size, 6, none⟩ = some (.slice py its.length cy) := A9.cell rfl
      have f9c := A9.free 6
      have REL : ∃ py cy, XR (w9.setCell ⟨w.heap.size, 6, none⟩ (.slice p9 (its.length + 1) c9)) g (S (k + 1)).2.1 (S (k + 1)).1 ∧ CB 27 (w9.setCell ⟨w.heap.size, 6, none⟩ (.slice p9 (its.length + 1) c9)) w.heap.size #[.int .i64 0, .int .i64 0, .bool false, .bool false, .slice none 0 0, .int .i64 0, .slice py (S (k + 1)).2.2.length cy, .slice none 0 0, .bool false] ∧ CB 27 (w9.setCell ⟨w.heap.size, 6, none⟩ (.slice p9 (its.length + 1) c9)) (w.heap.size + 1) #[.int .i64 0, .int .i64 0, .bool false, .bool false, .slice none 0 0, .int .i64 0, .slice none 0 0, .slice none 0 0, .bool false] ∧ RIx (w9.setCell ⟨w.heap.size, 6, none⟩ (.slice p9 (its.length + 1) c9)) w.heap.size g (.slice py (S (k + 1)).2.2.length cy) (S (k + 1)).2.2 ∧ Only g w (w9.setCell ⟨w.heap.size, 6, none⟩ (.slice p9 (its.length + 1) c9)) := by
        rw [HSK2.out]
        refine ⟨p9, c9, x10, ?_, B10, ?_, O10⟩ <;> (simp only [List.length_append, List.length_singleton]; assumption)
      have HREL := hid_of REL
      clear REL A10 B10 t10 x10 r10 O10 x9 A9 B9 O9 hrow9 HSK2
      go_wp2
      go_roundw
      case rel => first | exact ⟨k + 1, by omega, by go_num, HREL.out⟩ | ((repeat apply Exists.intro); exact ⟨⟨k + 1, by omega, by go_num, HREL.out⟩, rfl⟩)
      case measure => simp [intOf]; omega
    · obtain rfl : k = n := by omega
      have hF := xflag_all g (S k).2.1 (S k).1 wr hx (hfe k) (by have := hsf k; omega)
      have hl4 : (rdG (S k).2.1 (S k).1).2.2.length ≤ l.length := by have := (rdG_suf (S k).2.1 (S k).1).length_le; have := hsf k; omega
      have fl4 := rdG_fell (S k).2.1 (S k).1 (hfe k)
      have HRD : Hid (rdD l e AA0 = ((rdG (S k).2.1 (S k).1).1, (rdG (S k).2.1 (S k).1).2.2, { AA0 with its := (S k).2.2, mo := (rdG (S k).2.1 (S k).1).2.1 })) := by show _ = _; unfold rdD; rw [HDi.out]
      obtain ⟨cs0, f0, hg0⟩ := hx.typed
      clear hx hle HSk HS0 HDi hsf hfe
      generalize (rdG (S k).2.1 (S k).1).2.1 = y at *
      generalize (rdG (S k).2.1 (S k).1).2.2 = l4 at *
      generalize (rdG (S k).2.1 (S k).1).1 = e4 at *
      generalize (S k).2.2 = its at *
      go_wp2_with fail
      refine hF.mono ?_
      clear hF
      rintro x w4 ⟨rfl, h4, o4⟩
      have t4 : TK 47 wr w4 := TK.of_only o4 hg0
      have A4 : CB 27 w4 w.heap.size #[.int .i64 0, .int .i64 0, .bool false, .bool false, .slice none 0 0, .int .i64 0, .slice py its.length cy, .slice none 0 0, .bool false] := t4 _ _ _ _ hA (by decide)
      have B4 : CB 27 w4 (w.heap.size + 1) #[.int .i64 0, .int .i64 0, .bool false, .bool false, .slice none 0 0, .int .i64 0, .slice none 0 0, .slice none 0 0, .bool false] := t4 _ _ _ _ hB (by decide)
      have r4 := hrow.tk t4 (by decide) (by decide)
      obtain ⟨a0, a1, a2, a3, a4, a5, a6, a7, a8⟩ := nine A4
      obtain ⟨b0, b1, b2, b3, b4, b5, b6, b7, b8⟩ := nine B4
      have fA := A4.free 8
      have fB := fun i => B4.free i
      have A5 := A4.set 8 (.bool y) #[.int .i64 0, .int .i64 0, .bool false, .bool false, .slice none 0 0, .int .i64 0, .slice py its.length cy, .slice none 0 0, .bool y] rfl
      have B5 := B4.other ⟨w.heap.size, 8, none⟩ (.bool y) (fun h => n01 h.symm)
      have t5 : TK 27 w4 (w4.setCell ⟨w.heap.size, 8, none⟩ (.bool y)) := TK.of_only ((Only.refl w.heap.size w4).setCell 8 _) A4
      have h5 := h4.tk t5 (by decide) (by decide)
      have r5 := r4.tk t5 (by decide) (by decide)
      have O5 := (hO.trans o4).putN (Nat.le_of_lt hlt) (Nat.le_refl _) 8 (.bool y)
      have F := nine_tk (.int .i64 0) (.int .i64 0) (.bool false) (.bool false) (.slice none 0 0) (.int .i64 0) (.slice py its.length cy) (.slice none 0 0) (.bool y) B5
      have hF1 := h5.tk F (by decide) (by decide)
      have hF2 := r5.tk F (by decide) (by decide)
      have hF3 := nine_only (.int .i64 0) (.int .i64 0) (.bool false) (.bool false) (.slice none 0 0) (.int .i64 0) (.slice py its.length cy) (.slice none 0 0) (.bool y) O5 (show g ≤ w.heap.size + 1 by omega) (by omega)
      have HFIN := hid_of (show R (.returned (.agg #[.int .i64 0, .int .i64 0, .bool false, .bool false, .slice none 0 0, .int .i64 0, .slice py its.length cy, .slice none 0 0, .bool y])) (nineS (w4.setCell ⟨w.heap.size, 8, none⟩ (.bool y)) (w.heap.size + 1) (.int .i64 0) (.int .i64 0) (.bool false) (.bool false) (.slice none 0 0) (.int .i64 0) (.slice py its.length cy) (.slice none 0 0) (.bool y)) from by rw [HR.out, HRD.out]; exact ⟨_, rfl, hF2, hF1, hF3⟩)
      unfold nineS at HFIN
      clear F hF1 hF2 hF3 HR HRD A4 B4 r4 A5 B5 t5 h5 r5 O5 t4 h4 o4 hO hrow hA hB hg0 fl4
      go_wp2
      refine bodyPost_ret (v := .agg #[.int .i64 0, .int .i64 0, .bool false, .bool false, .slice none 0 0, .int .i64 0, .slice py its.length cy, .slice none 0 0, .bool y]) ?_ rfl HFIN.out
      simp only [results, Try.results20]
      go_simp

end Go.Proofs.Ytldmbfemoepfkaa

namespace Go.Proofs.Ytldmbfemoepfkaa
open Go.RowKit

theorem i_eventR : (Try.prog.info? 61).map (fun i => (i.zero, i.size, i.bytes)) = some (some (.agg #[.int .i64 0, .int .i64 0, .slice none 0 0, .slice none 0 0]), 4, 64) := by kernel_rfl

theorem evS_fell (l : List UInt8) (e : Int) (he : e ≠ 0 → l = []) (k : Nat) : (evS l e k).1 ≠ 0 → (evS l e k).2.1 = [] := by
  induction k with
  | zero => exact he
  | succ k ih => exact rdB_fell _ _ _ (rdB_fell _ _ _ (rdU_fellX _ _ _ (rdU_fellX _ _ _ (ih))))

set_option maxHeartbeats 2000000 in
theorem rfeed_any (g : Nat) (l : List UInt8) (e : Int) (w : World) (h : XR w g l e) (he : e ≠ 0 → l = []) (hsz : l.length ≤ 140737488355328) :
    Calls Try.prog 21 #[.pointer (some ⟨g, 0, none⟩), .agg #[.int .i64 0, .int .i64 0, .bool false, .bool false, .slice none 0 0, .int .i64 0, .slice none 0 0, .slice none 0 0, .bool false]] w fun x w' => ∃ iv, x = .returned (.agg (ansC (rdFd l e AA0).2.2 (.slice none 0 0) (.slice none 0 0) iv)) ∧ REx w' w.heap.size g iv (rdFd l e AA0).2.2.evs ∧ XR w' g (rdFd l e AA0).2.1 (rdFd l e AA0).1 ∧ Only g w w' := by
  have hlt : g < w.heap.size := by obtain ⟨cs, f, hg⟩ := h.typed; exact (Array.getElem?_eq_some_iff.1 hg).1
  have b1 := (Below.refl w.heap.size w).alloc (Nat.le_refl _) (.cells #[.int .i64 0, .int .i64 0, .bool false, .bool false, .slice none 0 0, .int .i64 0, .slice none 0 0, .slice none 0 0, .bool false] 27)
  have a1 := CB.made 27 w #[.int .i64 0, .int .i64 0, .bool false, .bool false, .slice none 0 0, .int .i64 0, .slice none 0 0, .slice none 0 0, .bool false]
  have s1 : (w.alloc (.cells #[.int .i64 0, .int .i64 0, .bool false, .bool false, .slice none 0 0, .int .i64 0, .slice none 0 0, .slice none 0 0, .bool false] 27)).heap.size = w.heap.size + 1 := World.size_alloc _ _
  obtain ⟨w1, hw1⟩ : ∃ x, x = w.alloc (.cells #[.int .i64 0, .int .i64 0, .bool false, .bool false, .slice none 0 0, .int .i64 0, .slice none 0 0, .slice none 0 0, .bool false] 27) := ⟨_, rfl⟩
  rw [← hw1] at b1 a1 s1
  have b2 := (Below.refl w1.heap.size w1).alloc (Nat.le_refl _) (.cells #[.int .i64 0, .int .i64 0, .bool false, .bool false, .slice none 0 0, .int .i64 0, .slice none 0 0, .slice none 0 0, .bool false] 27)
  have a2 := CB.made 27 w1 #[.int .i64 0, .int .i64 0, .bool false, .bool false, .slice none 0 0, .int .i64 0, .slice none 0 0, .slice none 0 0, .bool false]
  obtain ⟨w2, hw2⟩ : ∃ x, x = w1.alloc (.cells #[.int .i64 0, .int .i64 0, .bool false, .bool false, .slice none 0 0, .int .i64 0, .slice none 0 0, .slice none 0 0, .bool false] 27) := ⟨_, rfl⟩
  rw [← hw2] at b2 a2
  have hB := b1.trans (b2.mono b1.size)
  have h2 := h.later hB
  have A1 := a1.later b2
  rw [s1] at a2
  have O2 : Only g w w2 := Only.of_below hB (Nat.le_of_lt hlt)
  have hF := xuint_all g l e 32 w2 h2 he hsz
  have HW : Hid (w2 = (w.alloc (.cells #[.int .i64 0, .int .i64 0, .bool false, .bool false, .slice none 0 0, .int .i64 0, .slice none 0 0, .slice none 0 0, .bool false] 27)).alloc (.cells #[.int .i64 0, .int .i64 0, .bool false, .bool false, .slice none 0 0, .int .i64 0, .slice none 0 0, .slice none 0 0, .bool false] 27)) := by rw [hw2, hw1]; exact rfl
  rw [hw2, hw1] at hF
  have hfl := rdU_fellX l e 32 he
  have hln : (rdU l e 32).2.2.length ≤ l.length := (rdU_suf l e 32).length_le
  have hmo : ((rdU l e 32).2.1 : Int) ≤ 32 := rdU_most l e 32 (by decide)
  have hsf := fun k => (evS_suf (rdU l e 32).2.2 (rdU l e 32).1 k).length_le
  have hfe := evS_fell (rdU l e 32).2.2 (rdU l e 32).1 hfl
  have hle := evS_len (rdU l e 32).2.2 (rdU l e 32).1
  have HSk : Hid (∀ k, evS (rdU l e 32).2.2 (rdU l e 32).1 (k + 1) = ((rdV (evS (rdU l e 32).2.2 (rdU l e 32).1 k).2.1 (evS (rdU l e 32).2.2 (rdU l e 32).1 k).1).1, (rdV (evS (rdU l e 32).2.2 (rdU l e 32).1 k).2.1 (evS (rdU l e 32).2.2 (rdU l e 32).1 k).1).2.1, (evS (rdU l e 32).2.2 (rdU l e 32).1 k).2.2 ++ [(rdV (evS (rdU l e 32).2.2 (rdU l e 32).1 k).2.1 (evS (rdU l e 32).2.2 (rdU l e 32).1 k).1).2.2])) := fun _ => rfl
  have HS0 : Hid (evS (rdU l e 32).2.2 (rdU l e 32).1 0 = ((rdU l e 32).1, (rdU l e 32).2.2, [])) := rfl
  have HDi : Hid (rdFi l e = evS (rdU l e 32).2.2 (rdU l e 32).1 (rdU l e 32).2.1) := rfl
  obtain ⟨R, hR⟩ : ∃ R : Ending → World → Prop, R = fun x w' => ∃ iv, x = .returned (.agg (ansC (rdFd l e AA0).2.2 (.slice none 0 0) (.slice none 0 0) iv)) ∧ REx w' w.heap.size g iv (rdFd l e AA0).2.2.evs ∧ XR w' g (rdFd l e AA0).2.1 (rdFd l e AA0).1 ∧ Only g w w' := ⟨_, rfl⟩
  have HR : Hid (R = fun x w' => ∃ iv, x = .returned (.agg (ansC (rdFd l e AA0).2.2 (.slice none 0 0) (.slice none 0 0) iv)) ∧ REx w' w.heap.size g iv (rdFd l e AA0).2.2.evs ∧ XR w' g (rdFd l e AA0).2.1 (rdFd l e AA0).1 ∧ Only g w w') := hR
  rw [← hR]
  have ht := h2.typed
  clear hR hw1 hw2 a1 b1 b2 s1 hB h h2
  generalize evS (rdU l e 32).2.2 (rdU l e 32).1 = S at *
  generalize (rdU l e 32).2.1 = n at *
  generalize (rdU l e 32).2.2 = l1 at *
  generalize (rdU l e 32).1 = e1 at *
  have ng : ¬ g = w.heap.size := by omega
  have ng1 : ¬ g = w.heap.size + 1 := by omega
  have n01 : ¬ w.heap.size = w.heap.size + 1 := by omega
  go_enter Try.func21, Try.ntmps21
  go_wp2_with fail
  refine hF.mono ?_
  clear hF
  rintro x w3 ⟨rfl, h3, o3⟩
  rw [← HW.out] at o3
  have t3 : TK 47 w2 w3 := TK.of_only o3 ht.choose_spec.choose_spec
  have A3 : CB 27 w3 w.heap.size #[.int .i64 0, .int .i64 0, .bool false, .bool false, .slice none 0 0, .int .i64 0, .slice none 0 0, .slice none 0 0, .bool false] := t3 _ _ _ _ A1 (by decide)
  have B3 : CB 27 w3 (w.heap.size + 1) #[.int .i64 0, .int .i64 0, .bool false, .bool false, .slice none 0 0, .int .i64 0, .slice none 0 0, .slice none 0 0, .bool false] := t3 _ _ _ _ a2 (by decide)
  have O3 := O2.trans o3
  clear HW ht t3 A1 a2 O2 o3
  go_wp2
  go_loopw [8] (fun i wr => ∃ k : Nat, k ≤ n ∧ i = .int .i64 (k : Int) ∧ ∃ py cy, XR wr g (S k).2.1 (S k).1 ∧ CB 27 wr w.heap.size #[.int .i64 0, .int .i64 0, .bool false, .bool false, .slice none 0 0, .int .i64 0, .slice none 0 0, .slice py (S k).2.2.length cy, .bool false] ∧ CB 27 wr (w.heap.size + 1) #[.int .i64 0, .int .i64 0, .bool false, .bool false, .slice none 0 0, .int .i64 0, .slice none 0 0, .slice none 0 0, .bool false] ∧ REx wr w.heap.size g (.slice py (S k).2.2.length cy) (S k).2.2 ∧ Only g w wr) (fun i _ => n - (intOf i).toNat)
  case atStart => exact ⟨0, Nat.zero_le _, rfl, none, 0, by rw [HS0.out]; exact h3, by rw [HS0.out]; exact A3, B3, by rw [HS0.out]; exact REx.nil _ _ _, O3⟩
  case round =>
    clear h3 A3 B3 O3
    obtain ⟨k, hk, rfl, py, cy, hx, hA, hB, hrow, hO⟩ := hrel
    by_cases hlt2 : k < n
    · have hlt3 : (k : Int) < (n : Int) := by omega
      have hlk := hsf k
      have hfk := hfe k
      have hlek : Hid ((S k).2.2.length = k) := hle k
      have HSK := HSk.out k
      generalize (S k).2.1 = lk at *
      generalize (S k).1 = ek at *
      generalize (S k).2.2 = evs at *
      have HSK2 : Hid (S (k + 1) = ((rdV lk ek).1, (rdV lk ek).2.1, evs ++ [(rdV lk ek).2.2])) := HSK
      clear HSK
      obtain ⟨i0, hi0, hz0, hz1, hz2⟩ := info_parts i_eventR
      obtain ⟨cs0, f0, hg0⟩ := hx.typed
      have ln0 : (rdV1 lk ek).2.2.length ≤ lk.length := (rdU_suf _ _ _).length_le
      have fl0 : (rdV1 lk ek).1 ≠ 0 → (rdV1 lk ek).2.2 = [] := rdU_fellX lk ek 2147483648 hfk
      have ln1 : (rdV2 lk ek).2.2.length ≤ (rdV1 lk ek).2.2.length := (rdU_suf _ _ _).length_le
      have fl1 : (rdV2 lk ek).1 ≠ 0 → (rdV2 lk ek).2.2 = [] := rdU_fellX (rdV1 lk ek).2.2 (rdV1 lk ek).1 2147483648 fl0
      have ln2 : (rdV3 lk ek).2.2.length ≤ (rdV2 lk ek).2.2.length := (rdB_suf _ _ _).length_le
      have fl2 : (rdV3 lk ek).1 ≠ 0 → (rdV3 lk ek).2.2 = [] := rdB_fell (rdV2 lk ek).2.2 (rdV2 lk ek).1 300 fl1
      have ln3 : (rdV4 lk ek).2.2.length ≤ (rdV3 lk ek).2.2.length := (rdB_suf _ _ _).length_le
      have fl3 : (rdV4 lk ek).1 ≠ 0 → (rdV4 lk ek).2.2 = [] := rdB_fell (rdV3 lk ek).2.2 (rdV3 lk ek).1 300 fl2
      have H0 := xuint_all g lk ek 2147483648 wr hx hfk (by omega)
      rw [show rdU lk ek 2147483648 = rdV1 lk ek from rfl] at H0
      clear hx
      go_wp2_with fail
      refine H0.mono ?_
      clear H0
      rintro x u0 ⟨rfl, h0, o0⟩
      have t0 : TK 47 wr u0 := TK.of_only o0 hg0
      have P0 := o0
      have bB := (Below.refl u0.heap.size u0).alloc (Nat.le_refl _) (.cells #[.int .i64 ((rdV1 lk ek).2.1 : Int), .int .i64 0, .slice none 0 0, .slice none 0 0] 61)
      have X0 := CB.made 61 u0 #[.int .i64 ((rdV1 lk ek).2.1 : Int), .int .i64 0, .slice none 0 0, .slice none 0 0]
      obtain ⟨V0, hV0⟩ : ∃ x, x = u0.alloc (.cells #[.int .i64 ((rdV1 lk ek).2.1 : Int), .int .i64 0, .slice none 0 0, .slice none 0 0] 61) := ⟨_, rfl⟩
      have HV0 : Hid (V0 = u0.alloc (.cells #[.int .i64 ((rdV1 lk ek).2.1 : Int), .int .i64 0, .slice none 0 0, .slice none 0 0] 61)) := hV0
      rw [← hV0] at bB X0
      have hgu : g < u0.heap.size := by have := hO.1.size; have := o0.1.size; omega
      have hgw : w.heap.size < u0.heap.size := by have := hA.lt; have := o0.1.size; omega
      have hgw1 : w.heap.size + 1 < u0.heap.size := by have := hB.lt; have := o0.1.size; omega
      have Q0 : Only g wr V0 := P0.trans (Only.of_below bB (Nat.le_of_lt hgu))
      have x0 := h0.later bB
      have hwu : wr.heap.size ≤ u0.heap.size := o0.1.size
      clear bB t0 P0 h0
      have H1 := xuint_all g (rdV1 lk ek).2.2 (rdV1 lk ek).1 2147483648 V0 x0 fl0 (by omega)
      rw [show rdU (rdV1 lk ek).2.2 (rdV1 lk ek).1 2147483648 = rdV2 lk ek from rfl] at H1
      rw [HV0.out] at H1
      obtain ⟨cs1, f1, hg1⟩ := x0.typed
      go_wp2_with fail
      refine H1.mono ?_
      clear H1
      rintro x u1 ⟨rfl, h1, o1⟩
      rw [← HV0.out] at o1
      have t1 : TK 47 V0 u1 := TK.of_only o1 hg1
      have Y1 : CB 61 u1 u0.heap.size #[.int .i64 ((rdV1 lk ek).2.1 : Int), .int .i64 0, .slice none 0 0, .slice none 0 0] := t1 _ _ _ _ X0 (by decide)
      have X1 := Y1.set 1 (.int .i64 ((rdV2 lk ek).2.1 : Int)) #[.int .i64 ((rdV1 lk ek).2.1 : Int), .int .i64 ((rdV2 lk ek).2.1 : Int), .slice none 0 0, .slice none 0 0] rfl
      have y10 : u1.cell? ⟨u0.heap.size, 0, none⟩ = some (.int .i64 ((rdV1 lk ek).2.1 : Int)) := Y1.cell rfl
      have y11 : u1.cell? ⟨u0.heap.size, 1, none⟩ = some (.int .i64 0) := Y1.cell rfl
      have y12 : u1.cell? ⟨u0.heap.size, 2, none⟩ = some (.slice none 0 0) := Y1.cell rfl
      have y13 : u1.cell? ⟨u0.heap.size, 3, none⟩ = some (.slice none 0 0) := Y1.cell rfl
      have z1 := Y1.free 1
      have s1 : TK 61 u1 (u1.setCell ⟨u0.heap.size, 1, none⟩ (.int .i64 ((rdV2 lk ek).2.1 : Int))) := TK.of_only ((Only.refl u0.heap.size u1).setCell 1 _) Y1
      have x1 := h1.tk s1 (by decide) (by decide)
      have Q1 := (Q0.trans o1).putN (Nat.le_of_lt hgu) hwu 1 (.int .i64 ((rdV2 lk ek).2.1 : Int))
      obtain ⟨V1, hV1⟩ : ∃ x, x = u1.setCell ⟨u0.heap.size, 1, none⟩ (.int .i64 ((rdV2 lk ek).2.1 : Int)) := ⟨_, rfl⟩
      have HV1 : Hid (V1 = u1.setCell ⟨u0.heap.size, 1, none⟩ (.int .i64 ((rdV2 lk ek).2.1 : Int))) := hV1
      rw [← hV1] at X1 x1 Q1
      clear hV1 HV0 t1 s1 o1 h1 Y1
      have H2 := xbytes_all g (rdV2 lk ek).2.2 (rdV2 lk ek).1 300 V1 x1 fl1 (by omega)
      rw [show rdB (rdV2 lk ek).2.2 (rdV2 lk ek).1 300 = rdV3 lk ek from rfl] at H2
      rw [HV1.out] at H2
      obtain ⟨cs2, f2, hg2⟩ := x1.typed
      go_wp2_with fail
      refine H2.mono ?_
      clear H2
      rintro x u2 ⟨v2, rfl, p2, c2, rfl, k2, h2, o2⟩
      rw [← HV1.out] at o2
      have t2 : TK 47 V1 u2 := TK.of_only o2 hg2
      have Y2 : CB 61 u2 u0.heap.size #[.int .i64 ((rdV1 lk ek).2.1 : Int), .int .i64 ((rdV2 lk ek).2.1 : Int), .slice none 0 0, .slice none 0 0] := t2 _ _ _ _ X1 (by decide)
      have X2 := Y2.set 2 (.slice p2 (rdV3 lk ek).2.1.length c2) #[.int .i64 ((rdV1 lk ek).2.1 : Int), .int .i64 ((rdV2 lk ek).2.1 : Int), .slice p2 (rdV3 lk ek).2.1.length c2, .slice none 0 0] rfl
      have y20 : u2.cell? ⟨u0.heap.size, 0, none⟩ = some (.int .i64 ((rdV1 lk ek).2.1 : Int)) := Y2.cell rfl
      have y21 : u2.cell? ⟨u0.heap.size, 1, none⟩ = some (.int .i64 ((rdV2 lk ek).2.1 : Int)) := Y2.cell rfl
      have y22 : u2.cell? ⟨u0.heap.size, 2, none⟩ = some (.slice none 0 0) := Y2.cell rfl
      have y23 : u2.cell? ⟨u0.heap.size, 3, none⟩ = some (.slice none 0 0) := Y2.cell rfl
      have z2 := Y2.free 2
      have s2 : TK 61 u2 (u2.setCell ⟨u0.heap.size, 2, none⟩ (.slice p2 (rdV3 lk ek).2.1.length c2)) := TK.of_only ((Only.refl u0.heap.size u2).setCell 2 _) Y2
      have x2 := h2.tk s2 (by decide) (by decide)
      have Q2 := (Q1.trans o2).putN (Nat.le_of_lt hgu) hwu 2 (.slice p2 (rdV3 lk ek).2.1.length c2)
      have kk2 := k2.tk s2 (by decide)
      obtain ⟨V2, hV2⟩ : ∃ x, x = u2.setCell ⟨u0.heap.size, 2, none⟩ (.slice p2 (rdV3 lk ek).2.1.length c2) := ⟨_, rfl⟩
      have HV2 : Hid (V2 = u2.setCell ⟨u0.heap.size, 2, none⟩ (.slice p2 (rdV3 lk ek).2.1.length c2)) := hV2
      rw [← hV2] at X2 x2 Q2 kk2
      clear hV2 HV1 t2 s2 o2 h2 k2 Y2
      have H3 := xbytes_all g (rdV3 lk ek).2.2 (rdV3 lk ek).1 300 V2 x2 fl2 (by omega)
      rw [show rdB (rdV3 lk ek).2.2 (rdV3 lk ek).1 300 = rdV4 lk ek from rfl] at H3
      rw [HV2.out] at H3
      obtain ⟨cs3, f3, hg3⟩ := x2.typed
      go_wp2_with fail
      refine H3.mono ?_
      clear H3
      rintro x u3 ⟨v3, rfl, p3, c3, rfl, k3, h3, o3⟩
      rw [← HV2.out] at o3
      have t3 : TK 47 V2 u3 := TK.of_only o3 hg3
      have Y3 : CB 61 u3 u0.heap.size #[.int .i64 ((rdV1 lk ek).2.1 : Int), .int .i64 ((rdV2 lk ek).2.1 : Int), .slice p2 (rdV3 lk ek).2.1.length c2, .slice none 0 0] := t3 _ _ _ _ X2 (by decide)
      have X3 := Y3.set 3 (.slice p3 (rdV4 lk ek).2.1.length c3) #[.int .i64 ((rdV1 lk ek).2.1 : Int), .int .i64 ((rdV2 lk ek).2.1 : Int), .slice p2 (rdV3 lk ek).2.1.length c2, .slice p3 (rdV4 lk ek).2.1.length c3] rfl
      have y30 : u3.cell? ⟨u0.heap.size, 0, none⟩ = some (.int .i64 ((rdV1 lk ek).2.1 : Int)) := Y3.cell rfl
      have y31 : u3.cell? ⟨u0.heap.size, 1, none⟩ = some (.int .i64 ((rdV2 lk ek).2.1 : Int)) := Y3.cell rfl
      have y32 : u3.cell? ⟨u0.heap.size, 2, none⟩ = some (.slice p2 (rdV3 lk ek).2.1.length c2) := Y3.cell rfl
      have y33 : u3.cell? ⟨u0.heap.size, 3, none⟩ = some (.slice none 0 0) := Y3.cell rfl
      have z3 := Y3.free 3
      have s3 : TK 61 u3 (u3.setCell ⟨u0.heap.size, 3, none⟩ (.slice p3 (rdV4 lk ek).2.1.length c3)) := TK.of_only ((Only.refl u0.heap.size u3).setCell 3 _) Y3
      have x3 := h3.tk s3 (by decide) (by decide)
      have Q3 := (Q2.trans o3).putN (Nat.le_of_lt hgu) hwu 3 (.slice p3 (rdV4 lk ek).2.1.length c3)
      have kk2 := (kk2.tk t3 (by decide)).tk s3 (by decide)
      have kk3 := k3.tk s3 (by decide)
      obtain ⟨V3, hV3⟩ : ∃ x, x = u3.setCell ⟨u0.heap.size, 3, none⟩ (.slice p3 (rdV4 lk ek).2.1.length c3) := ⟨_, rfl⟩
      have HV3 : Hid (V3 = u3.setCell ⟨u0.heap.size, 3, none⟩ (.slice p3 (rdV4 lk ek).2.1.length c3)) := hV3
      rw [← hV3] at X3 x3 Q3 kk2 kk3
      clear hV3 HV2 t3 s3 o3 h3 k3 Y3
      have tQ : TK 47 wr V3 := TK.of_only Q3 hg0
      have AQ : CB 27 V3 w.heap.size #[.int .i64 0, .int .i64 0, .bool false, .bool false, .slice none 0 0, .int .i64 0, .slice none 0 0, .slice py evs.length cy, .bool false] := tQ _ _ _ _ hA (by decide)
      have BQ : CB 27 V3 (w.heap.size + 1) #[.int .i64 0, .int .i64 0, .bool false, .bool false, .slice none 0 0, .int .i64 0, .slice none 0 0, .slice none 0 0, .bool false] := tQ _ _ _ _ hB (by decide)
      have RQ := hrow.tk tQ (by decide) (by decide)
      have b6 := (Below.refl V3.heap.size V3).alloc (Nat.le_refl _) (.cells #[.int .i64 ((rdV1 lk ek).2.1 : Int), .int .i64 ((rdV2 lk ek).2.1 : Int), .slice p2 (rdV3 lk ek).2.1.length c2, .slice p3 (rdV4 lk ek).2.1.length c3] 61)
      have X6 := CB.made 61 V3 #[.int .i64 ((rdV1 lk ek).2.1 : Int), .int .i64 ((rdV2 lk ek).2.1 : Int), .slice p2 (rdV3 lk ek).2.1.length c2, .slice p3 (rdV4 lk ek).2.1.length c3]
      have x6 := x3.later b6
      have hVs : u0.heap.size < V3.heap.size := X3.lt
      have hsz2 : V3.heap.size = u3.heap.size := by rw [HV3.out]; simp
      have Q6 : Only g wr _ := Q3.trans (Only.of_below b6 (by omega))
      have A6 := AQ.later b6
      have B6 := BQ.later b6
      have R6 := RQ.tk (TK.of_below (T := 47) b6) (by decide) (by decide)
      have kz2 := kk2.later b6
      have kz3 := kk3.later b6
      obtain ⟨vs, owB, hvs⟩ := R6
      have m6 : V3.cell? ⟨w.heap.size, 7, none⟩ = some (.slice py evs.length cy) := AQ.cell rfl
      have HOW := hid_of owB
      rw [HV3.out] at m6 owB
      clear AQ BQ RQ tQ x3 X3 hA hB hrow kk2 kk3 b6
      go_wp2_with (first | (at_builtin; refine wpList_append_own _ rfl (.tmp 23) (.tmp 25) 25 rfl w.heap.size 61 i0 _ 4 64 Try.underlying25 hi0 hz0 hz1 hz2 rfl (by decide) _ _ _ rfl owB ⟨u3.heap.size, 0, none⟩ 1 1 [.int .i64 ((rdV1 lk ek).2.1 : Int), .int .i64 ((rdV2 lk ek).2.1 : Int), .slice p2 (rdV3 lk ek).2.1.length c2, .slice p3 (rdV4 lk ek).2.1.length c3] rfl rfl ?ra ?rb ?rc ?rd ?re ?_))
      case ra => exact (by have hc := cells_new (u3.setCell ⟨u0.heap.size, 3, none⟩ (.slice p3 (rdV4 lk ek).2.1.length c3)) [.int .i64 ((rdV1 lk ek).2.1 : Int), .int .i64 ((rdV2 lk ek).2.1 : Int), .slice p2 (rdV3 lk ek).2.1.length c2, .slice p3 (rdV4 lk ek).2.1.length c3] 61; rwa [show (u3.setCell ⟨u0.heap.size, 3, none⟩ (.slice p3 (rdV4 lk ek).2.1.length c3)).heap.size = u3.heap.size by simp] at hc)
      case rb => intro u hu; simp at hu; rcases hu with rfl | rfl | rfl | rfl <;> rfl
      case rc => have := hlek.out; unfold maxLen; omega
      case rd => have := hlek.out; omega
      case re => have := hlek.out; simp; omega
      intro y9 w9 ow9 gr9 _
      rw [← HV3.out] at gr9
      have hrow9 : REx w9 w.heap.size g y9 (evs ++ [(rdV lk ek).2.2]) := REx.snoc (x := (rdV lk ek).2.2) HOW.out hvs kz2 kz3 gr9 ow9
      have tg := TK.of_grown HOW.out gr9
      have x9 := x6.tk tg (by decide) (by decide)
      have A9 : CB 27 w9 w.heap.size #[.int .i64 0, .int .i64 0, .bool false, .bool false, .slice none 0 0, .int .i64 0, .slice none 0 0, .slice py evs.length cy, .bool false] := tg _ _ _ _ A6 (by decide)
      have B9 : CB 27 w9 (w.heap.size + 1) #[.int .i64 0, .int .i64 0, .bool false, .bool false, .slice none 0 0, .int .i64 0, .slice none 0 0, .slice none 0 0, .bool false] := tg _ _ _ _ B6 (by decide)
      have OV := hO.trans Q6
      have hb9 := (Below.refl w.heap.size _).grown gr9 OV.1.size (fun k hk => (HOW.out.lt k hk).1)
      have O9 : Only g w w9 := ⟨OV.1.trans (hb9.mono (Nat.le_of_lt hlt)), fun k hk hs => (hb9.block k hs).trans (OV.2 k hk hs)⟩
      clear gr9 ow9 owB HOW hvs tg x6 A6 B6 OV hb9 Q6 hO HV3 kz2 kz3
      obtain ⟨p9, c9, hy9⟩ := hrow9.shape
      rw [List.length_append, List.length_singleton] at hy9
      subst hy9
      have A10 := A9.set 7 (.slice p9 (evs.length + 1) c9) #[.int .i64 0, .int .i64 0, .bool false, .bool false, .slice none 0 0, .int .i64 0, .slice none 0 0, .slice p9 (evs.length + 1) c9, .bool false] rfl
      have B10 := B9.other ⟨w.heap.size, 7, none⟩ (.slice p9 (evs.length + 1) c9) (fun h => n01 h.symm)
      have t10 : TK 27 w9 (w9.setCell ⟨w.heap.size, 7, none⟩ (.slice p9 (evs.length + 1) c9)) := TK.of_only ((Only.refl w.heap.size w9).setCell 7 _) A9
      have x10 := x9.tk t10 (by decide) (by decide)
      have r10 := hrow9.tk t10 (by decide) (by decide)
      have O10 := O9.putN (Nat.le_of_lt hlt) (Nat.le_refl _) 7 (.slice p9 (evs.length + 1) c9)
      have c9c : w9.cell? ⟨w.heap.size, 7, none⟩ = some (.slice py evs.length cy) := A9.cell rfl
      have f9c := A9.free 7
      have REL : ∃ py cy, XR (w9.setCell ⟨w.heap.size, 7, none⟩ (.slice p9 (evs.length + 1) c9)) g (S (k + 1)).2.1 (S (k + 1)).1 ∧ CB 27 (w9.setCell ⟨w.heap.size, 7, none⟩ (.slice p9 (evs.length + 1) c9)) w.heap.size #[.int .i64 0, .int .i64 0, .bool false, .bool false, .slice none 0 0, .int .i64 0, .slice none 0 0, .slice py (S (k + 1)).2.2.length cy, .bool false] ∧ CB 27 (w9.setCell ⟨w.heap.size, 7, none⟩ (.slice p9 (evs.length + 1) c9)) (w.heap.size + 1) #[.int .i64 0, .int .i64 0, .bool false, .bool false, .slice none 0 0, .int .i64 0, .slice none 0 0, .slice none 0 0, .bool false] ∧ REx (w9.setCell ⟨w.heap.size, 7, none⟩ (.slice p9 (evs.length + 1) c9)) w.heap.size g (.slice py (S (k + 1)).2.2.length cy) (S (k + 1)).2.2 ∧ Only g w (w9.setCell ⟨w.heap.size, 7, none⟩ (.slice p9 (evs.length + 1) c9)) := by
        rw [HSK2.out]
        refine ⟨p9, c9, x10, ?_, B10, ?_, O10⟩ <;> (simp only [List.length_append, List.length_singleton]; assumption)
      have HREL := hid_of REL
      clear REL A10 B10 t10 x10 r10 O10 x9 A9 B9 O9 hrow9 HSK2
      go_wp2
      go_roundw
      case rel => first | exact ⟨k + 1, by omega, by go_num, HREL.out⟩ | ((repeat apply Exists.intro); exact ⟨⟨k + 1, by omega, by go_num, HREL.out⟩, rfl⟩)
      case measure => simp [intOf]; omega
    · obtain rfl : k = n := by omega
      have hF := xflag_all g (S k).2.1 (S k).1 wr hx (hfe k) (by have := hsf k; omega)
      have hl4 : (rdG (S k).2.1 (S k).1).2.2.length ≤ l.length := by have := (rdG_suf (S k).2.1 (S k).1).length_le; have := hsf k; omega
      have fl4 := rdG_fell (S k).2.1 (S k).1 (hfe k)
      have hg : rdFg l e = rdG (S k).2.1 (S k).1 := by unfold rdFg; rw [HDi.out]
      have HRT : Hid ((rdG (S k).2.1 (S k).1).2.1 = true → rdFd l e AA0 = ((rdU (rdU (rdG (S k).2.1 (S k).1).2.2 (rdG (S k).2.1 (S k).1).1 2147483648).2.2 (rdU (rdG (S k).2.1 (S k).1).2.2 (rdG (S k).2.1 (S k).1).1 2147483648).1 2147483648).1, (rdU (rdU (rdG (S k).2.1 (S k).1).2.2 (rdG (S k).2.1 (S k).1).1 2147483648).2.2 (rdU (rdG (S k).2.1 (S k).1).2.2 (rdG (S k).2.1 (S k).1).1 2147483648).1 2147483648).2.2, { AA0 with evs := (S k).2.2, mo := true, ep := (rdU (rdG (S k).2.1 (S k).1).2.2 (rdG (S k).2.1 (S k).1).1 2147483648).2.1, si := (rdU (rdU (rdG (S k).2.1 (S k).1).2.2 (rdG (S k).2.1 (S k).1).1 2147483648).2.2 (rdU (rdG (S k).2.1 (S k).1).2.2 (rdG (S k).2.1 (S k).1).1 2147483648).1 2147483648).2.1 })) := by
        intro hh
        unfold rdFd rdF2 rdF1
        rw [hg, HDi.out]
        exact if_pos hh
      have HRF : Hid ((rdG (S k).2.1 (S k).1).2.1 = false → rdFd l e AA0 = ((rdG (S k).2.1 (S k).1).1, (rdG (S k).2.1 (S k).1).2.2, { AA0 with evs := (S k).2.2, mo := false })) := by
        intro hh
        unfold rdFd
        rw [hg, HDi.out]
        exact if_neg (by rw [hh]; decide)
      clear hg
      obtain ⟨cs0, f0, hg0⟩ := hx.typed
      clear hx hle HSk HS0 HDi hsf hfe
      generalize (rdG (S k).2.1 (S k).1).2.1 = y at *
      generalize (rdG (S k).2.1 (S k).1).2.2 = l4 at *
      generalize (rdG (S k).2.1 (S k).1).1 = e4 at *
      generalize (S k).2.2 = evs at *
      go_wp2_with fail
      refine hF.mono ?_
      clear hF
      rintro x w4 ⟨rfl, h4, o4⟩
      have t4 : TK 47 wr w4 := TK.of_only o4 hg0
      have A4 : CB 27 w4 w.heap.size #[.int .i64 0, .int .i64 0, .bool false, .bool false, .slice none 0 0, .int .i64 0, .slice none 0 0, .slice py evs.length cy, .bool false] := t4 _ _ _ _ hA (by decide)
      have B4 : CB 27 w4 (w.heap.size + 1) #[.int .i64 0, .int .i64 0, .bool false, .bool false, .slice none 0 0, .int .i64 0, .slice none 0 0, .slice none 0 0, .bool false] := t4 _ _ _ _ hB (by decide)
      have r4 := hrow.tk t4 (by decide) (by decide)
      obtain ⟨a0, a1, a2, a3, a4, a5, a6, a7, a8⟩ := nine A4
      obtain ⟨b0, b1, b2, b3, b4, b5, b6, b7, b8⟩ := nine B4
      have fA := A4.free 8
      have fB := fun i => B4.free i
      have A5 := A4.set 8 (.bool y) #[.int .i64 0, .int .i64 0, .bool false, .bool false, .slice none 0 0, .int .i64 0, .slice none 0 0, .slice py evs.length cy, .bool y] rfl
      have B5 := B4.other ⟨w.heap.size, 8, none⟩ (.bool y) (fun h => n01 h.symm)
      have t5 : TK 27 w4 (w4.setCell ⟨w.heap.size, 8, none⟩ (.bool y)) := TK.of_only ((Only.refl w.heap.size w4).setCell 8 _) A4
      have h5 := h4.tk t5 (by decide) (by decide)
      have r5 := r4.tk t5 (by decide) (by decide)
      have O5 := (hO.trans o4).putN (Nat.le_of_lt hlt) (Nat.le_refl _) 8 (.bool y)
      cases y with
      | false =>
        have HRD := hid_of (HRF.out rfl)
        have F := nine_tk (.int .i64 0) (.int .i64 0) (.bool false) (.bool false) (.slice none 0 0) (.int .i64 0) (.slice none 0 0) (.slice py evs.length cy) (.bool false) B5
        have hF1 := h5.tk F (by decide) (by decide)
        have hF2 := r5.tk F (by decide) (by decide)
        have hF3 := nine_only (.int .i64 0) (.int .i64 0) (.bool false) (.bool false) (.slice none 0 0) (.int .i64 0) (.slice none 0 0) (.slice py evs.length cy) (.bool false) O5 (show g ≤ w.heap.size + 1 by omega) (by omega)
        have HFIN := hid_of (show R (.returned (.agg #[.int .i64 0, .int .i64 0, .bool false, .bool false, .slice none 0 0, .int .i64 0, .slice none 0 0, .slice py evs.length cy, .bool false])) (nineS (w4.setCell ⟨w.heap.size, 8, none⟩ (.bool false)) (w.heap.size + 1) (.int .i64 0) (.int .i64 0) (.bool false) (.bool false) (.slice none 0 0) (.int .i64 0) (.slice none 0 0) (.slice py evs.length cy) (.bool false)) from by rw [HR.out, HRD.out]; exact ⟨_, rfl, hF2, hF1, hF3⟩)
        unfold nineS at HFIN
        clear F hF1 hF2 hF3 HR HRD HRF HRT A4 B4 r4 A5 B5 t5 h5 r5 O5 t4 h4 o4 hO hrow hA hB hg0 fl4
        go_wp2
        refine bodyPost_ret (v := .agg #[.int .i64 0, .int .i64 0, .bool false, .bool false, .slice none 0 0, .int .i64 0, .slice none 0 0, .slice py evs.length cy, .bool false]) ?_ rfl HFIN.out
        simp only [results, Try.results21]
        go_simp
      | true =>
        have HRD := hid_of (HRT.out rfl)
        have hU := xuint_all g l4 e4 2147483648 _ h5 fl4 (by omega)
        have hl6 : (rdU l4 e4 2147483648).2.2.length ≤ l4.length := (rdU_suf l4 e4 _).length_le
        have fl6 := rdU_fellX l4 e4 2147483648 fl4
        obtain ⟨cs5, f5, hg5⟩ := h5.typed
        obtain ⟨V5, hV5⟩ : ∃ x, x = w4.setCell ⟨w.heap.size, 8, none⟩ (.bool true) := ⟨_, rfl⟩
        have HV5 := hid_of hV5
        rw [← hV5] at A5 B5 r5 O5 hg5
        clear hV5 HRT HRF t5 h5 A4 B4 r4 t4 h4 o4 hO hrow hA hB hg0
        generalize (rdU l4 e4 2147483648).2.1 = ep at *
        generalize (rdU l4 e4 2147483648).2.2 = l6 at *
        generalize (rdU l4 e4 2147483648).1 = e6 at *
        go_wp2_with fail
        refine hU.mono ?_
        clear hU
        rintro x w6 ⟨rfl, h6, o6⟩
        rw [← HV5.out] at o6
        have t6 : TK 47 V5 w6 := TK.of_only o6 hg5
        have A6 : CB 27 w6 w.heap.size #[.int .i64 0, .int .i64 0, .bool false, .bool false, .slice none 0 0, .int .i64 0, .slice none 0 0, .slice py evs.length cy, .bool true] := t6 _ _ _ _ A5 (by decide)
        have B6 : CB 27 w6 (w.heap.size + 1) #[.int .i64 0, .int .i64 0, .bool false, .bool false, .slice none 0 0, .int .i64 0, .slice none 0 0, .slice none 0 0, .bool false] := t6 _ _ _ _ B5 (by decide)
        have r6 := r5.tk t6 (by decide) (by decide)
        have d1 : w6.cell? ⟨w.heap.size, 1, none⟩ = some (.int .i64 0) := A6.cell rfl
        have g1 := A6.free 1
        have A7 := A6.set 1 (.int .i64 (ep : Int)) #[.int .i64 0, .int .i64 (ep : Int), .bool false, .bool false, .slice none 0 0, .int .i64 0, .slice none 0 0, .slice py evs.length cy, .bool true] rfl
        have B7 := B6.other ⟨w.heap.size, 1, none⟩ (.int .i64 (ep : Int)) (fun h => n01 h.symm)
        have t7 : TK 27 w6 (w6.setCell ⟨w.heap.size, 1, none⟩ (.int .i64 (ep : Int))) := TK.of_only ((Only.refl w.heap.size w6).setCell 1 _) A6
        have h7 := h6.tk t7 (by decide) (by decide)
        have r7 := r6.tk t7 (by decide) (by decide)
        have O7 := (O5.trans o6).putN (Nat.le_of_lt hlt) (Nat.le_refl _) 1 (.int .i64 (ep : Int))
        have hU := xuint_all g l6 e6 2147483648 _ h7 fl6 (by omega)
        obtain ⟨cs7, f7, hg7⟩ := h7.typed
        obtain ⟨V7, hV7⟩ : ∃ x, x = w6.setCell ⟨w.heap.size, 1, none⟩ (.int .i64 (ep : Int)) := ⟨_, rfl⟩
        have HV7 := hid_of hV7
        rw [← hV7] at A7 B7 r7 O7 hg7
        clear hV7 t7 h7 A6 B6 r6 t6 h6 o6 A5 B5 r5 O5 hg5 HV5
        generalize (rdU l6 e6 2147483648).2.1 = si at *
        generalize (rdU l6 e6 2147483648).2.2 = l8 at *
        generalize (rdU l6 e6 2147483648).1 = e8 at *
        go_wp2_with fail
        refine hU.mono ?_
        clear hU
        rintro x w8 ⟨rfl, h8, o8⟩
        rw [← HV7.out] at o8
        have t8 : TK 47 V7 w8 := TK.of_only o8 hg7
        have A8 : CB 27 w8 w.heap.size #[.int .i64 0, .int .i64 (ep : Int), .bool false, .bool false, .slice none 0 0, .int .i64 0, .slice none 0 0, .slice py evs.length cy, .bool true] := t8 _ _ _ _ A7 (by decide)
        have B8 : CB 27 w8 (w.heap.size + 1) #[.int .i64 0, .int .i64 0, .bool false, .bool false, .slice none 0 0, .int .i64 0, .slice none 0 0, .slice none 0 0, .bool false] := t8 _ _ _ _ B7 (by decide)
        have r8 := r7.tk t8 (by decide) (by decide)
        obtain ⟨a0, a1, a2, a3, a4, a5, a6, a7, a8⟩ := nine A8
        obtain ⟨b0, b1, b2, b3, b4, b5, b6, b7, b8⟩ := nine B8
        have fA := A8.free 5
        have fB := fun i => B8.free i
        have B9 := B8.other ⟨w.heap.size, 5, none⟩ (.int .i64 (si : Int)) (fun h => n01 h.symm)
        have t9 : TK 27 w8 (w8.setCell ⟨w.heap.size, 5, none⟩ (.int .i64 (si : Int))) := TK.of_only ((Only.refl w.heap.size w8).setCell 5 _) A8
        have h9 := h8.tk t9 (by decide) (by decide)
        have r9 := r8.tk t9 (by decide) (by decide)
        have O9 := (O7.trans o8).putN (Nat.le_of_lt hlt) (Nat.le_refl _) 5 (.int .i64 (si : Int))
        have F := nine_tk (.int .i64 0) (.int .i64 (ep : Int)) (.bool false) (.bool false) (.slice none 0 0) (.int .i64 (si : Int)) (.slice none 0 0) (.slice py evs.length cy) (.bool true) B9
        have hF1 := h9.tk F (by decide) (by decide)
        have hF2 := r9.tk F (by decide) (by decide)
        have hF3 := nine_only (.int .i64 0) (.int .i64 (ep : Int)) (.bool false) (.bool false) (.slice none 0 0) (.int .i64 (si : Int)) (.slice none 0 0) (.slice py evs.length cy) (.bool true) O9 (show g ≤ w.heap.size + 1 by omega) (by omega)
        have HFIN := hid_of (show R (.returned (.agg #[.int .i64 0, .int .i64 (ep : Int), .bool false, .bool false, .slice none 0 0, .int .i64 (si : Int), .slice none 0 0, .slice py evs.length cy, .bool true])) (nineS (w8.setCell ⟨w.heap.size, 5, none⟩ (.int .i64 (si : Int))) (w.heap.size + 1) (.int .i64 0) (.int .i64 (ep : Int)) (.bool false) (.bool false) (.slice none 0 0) (.int .i64 (si : Int)) (.slice none 0 0) (.slice py evs.length cy) (.bool true)) from by rw [HR.out, HRD.out]; exact ⟨_, rfl, hF2, hF1, hF3⟩)
        unfold nineS at HFIN
        clear F hF1 hF2 hF3 HR HRD A8 B8 r8 B9 t9 h9 r9 O9 t8 h8 o8 A7 B7 r7 O7 hg7 HV7 fl4 fl6
        go_wp2
        refine bodyPost_ret (v := .agg #[.int .i64 0, .int .i64 (ep : Int), .bool false, .bool false, .slice none 0 0, .int .i64 (si : Int), .slice none 0 0, .slice py evs.length cy, .bool true]) ?_ rfl HFIN.out
        simp only [results, Try.results21]
        go_simp

end Go.Proofs.Ytldmbfemoepfkaa
