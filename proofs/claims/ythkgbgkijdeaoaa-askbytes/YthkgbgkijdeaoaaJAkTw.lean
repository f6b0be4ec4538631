/- What this text proves: the walk of ask.through with a writer over this program, by kinds. (By program: mkaktw.py.) -/
import Derived.Test.YthkgbgkijdeaoaaJAkTj
import Derived.Test.YthkgbgkijdeaoaaJW1
namespace Go.Proofs.Ythkgbgkijdeaoaa
open Go.RowKit

/-- A writer shows fields. -/
def showsW (g : Nat) : Shows where
  T := 52
  v := .pointer (some ⟨g, 0, none⟩)
  fN := 19
  uN := .pointer (some ⟨g, 0, none⟩)
  fT := 81
  uT := .pointer (some ⟨g, 0, none⟩)
  fF := 80
  uF := .pointer (some ⟨g, 0, none⟩)
  fB := 82
  uB := .pointer (some ⟨g, 0, none⟩)
  mN := ⟨fun _ => by kernel_rfl, fun _ => by kernel_rfl, fun _ _ => by kernel_rfl⟩
  mT := ⟨fun _ => by kernel_rfl, fun _ => by kernel_rfl, fun _ _ => by kernel_rfl⟩
  mF := ⟨fun _ => by kernel_rfl, fun _ => by kernel_rfl, fun _ _ => by kernel_rfl⟩
  mB := ⟨fun _ => by kernel_rfl, fun _ => by kernel_rfl, fun _ _ => by kernel_rfl⟩

theorem numL9 (n : Int) : (numL (clampN n)).length ≤ 9 := by have := clampN_le n; have := cnt_le8 (clampN n) (by omega); rw [numL_length]; omega

theorem Wrote.drew {T : TypeId} {g base : Nat} {l : List UInt8} {w w' : World} (h : Wrote T g base l w w') : Wrote T g base l w w'.drew := ⟨h.1, Below.drew h.2.1, h.2.2⟩
theorem Wrote.trans {T : TypeId} {g base : Nat} {l l' : List UInt8} {w w1 w2 : World} (h : Wrote T g base l w w1) (k : Wrote T g base l' w1 w2) : Wrote T g base l' w w2 := ⟨k.1, h.2.1.trans k.2.1, h.2.2.trans k.2.2⟩
theorem Wrote.ab {g base gR : Nat} {l : List UInt8} {w w1 : World} {cs : Array Value} (h : Wrote 49 g base l w w1) (hA : AB w gR cs) : AB w1 gR cs := h.2.2 gR _ _ _ hA (by decide) (by decide)

/-- Some numbers, one behind the other. -/
theorem wnums_any (g base gR : Nat) (most : Int) (lb : Nat) (t : TypeId) (cc cs : Array Value) (hg : base ≤ g) (ht1 : t ≠ 49) (ht2 : t ≠ 5) (w0 : World) (hA : AB w0 gR cs) (K : World → Prop) (E : List PanicEntry → World → Prop) : ∀ (ns : List (Nat × Int)) (l : List UInt8) (w : World), Wrote 49 g base l w0 w → (∀ x ∈ ns, cs[x.1]? = some (.int .i64 x.2)) → w.heap[lb]? = some (.cells cc t (0, 0)) → l.length + 9 * ns.length ≤ 140737488350000 →
    (∀ w', Wrote 49 g base (ns.foldl (fun l x => l ++ numL (clampN x.2)) l) w0 w' → K w') →
    NumsT 19 (.pointer (some ⟨g, 0, none⟩)) most lb (.cells cc t (0, 0)) K E (ns.map fun x => ⟨gR, x.1, none⟩) w
  | [], l, w, hW, _, _, _, hK => hK w hW
  | x :: ns, l, w, hW, hv, ho, hl, hK => by
    have h9 := numL9 x.2
    simp only [List.length_cons] at hl
    refine Then.of (wnumber_any 49 (by decide) g base ⟨gR, x.1, none⟩ x.2 most l w hW.1 hg ((hW.ab hA).cell (hv x (by simp))) (by omega)) ?_
    intro w' hk
    have ho' := hk.2.2 lb _ _ _ ho ht1 ht2
    exact ⟨ho', wnums_any g base gR most lb t cc cs hg ht1 ht2 w0 hA K E ns _ w' (hW.trans hk) (fun y hy => hv y (by simp [hy])) ho' (by rw [List.length_append]; omega) hK⟩

theorem wshns (g base gR : Nat) (most : Int) (cs : Array Value) (hg : base ≤ g) (w0 : World) (hA : AB w0 gR cs) (K : World → Prop) (E : List PanicEntry → World → Prop) (ns : List (Nat × Int)) (l : List UInt8) (w : World) (hW : Wrote 49 g base l w0 w) (hv : ∀ x ∈ ns, cs[x.1]? = some (.int .i64 x.2)) (hl : l.length + 9 * ns.length ≤ 140737488350000)
    (hK : ∀ w', Wrote 49 g base (ns.foldl (fun l x => l ++ numL (clampN x.2)) l) w0 w' → K w') :
    ShNs (showsW g) (ns.map fun x => ⟨gR, x.1, none⟩) most w K E := by
  have hs := hW.1.choose_spec.choose_spec.2.2
  have bL := (Below.refl w.heap.size w).alloc (Nat.le_refl _) (.cells (ptrs (ns.map fun x => (⟨gR, x.1, none⟩ : Addr))).toArray 51 (0, 0))
  have hW' : Wrote 49 g base l w0 (w.alloc (.cells (ptrs (ns.map fun x => (⟨gR, x.1, none⟩ : Addr))).toArray 51 (0, 0))) := ⟨hW.1.later bL, hW.2.1.trans (bL.mono hs), hW.2.2.trans (TKB.of_below bL)⟩
  exact wnums_any g base gR most w.heap.size 51 _ cs hg (by decide) (by decide) w0 hA K E ns l _ hW' hv (heap_alloc_new w _) hl hK

set_option maxRecDepth 100000 in
set_option maxHeartbeats 2000000 in
theorem tw1 (g base gR : Nat) (l : List UInt8) (fr to ti ep ix li : Int) (so : Bool) (idv : Value) (bav : Value) (bs : List (List UInt8 × List UInt8)) (w : World) (hW : WRT 49 w g base l) (hA : AB w gR #[.int .i64 1, idv, .int .i64 fr, .int .i64 to, .int .i64 ti, .bool so, .int .i64 ep, .int .i64 ix, .int .i64 li, bav]) (hg : base ≤ g) (hl : l.length ≤ 100) (hB : ∀ W, Below base w W → BA W bav bs) (hb : bulkB bs ≤ 1048576) (hn : bs.length ≤ 40) :
    Calls Try.prog 17 #[.iface 52 (.pointer (some ⟨g, 0, none⟩)), .pointer (some ⟨gR, 0, none⟩)] w fun e w' => e = .returned (.bool true) ∧ Wrote 49 g base (l ++ wrL bs) w w' := by
  have hc : w.cell? ⟨gR, 0, none⟩ = some (.int .i64 1) := hA.cell rfl
  have q0 : Wrote 49 g base l w w.drew := ⟨hW, Below.drew (Below.refl base w), TKB.refl _ w⟩
  refine thru1 (showsW g) gR w _ hc ?_
  refine Then.of (wbatch_any g base ⟨gR, 9, none⟩ bav bs _ w.drew q0.1 hg ((q0.ab hA).cell rfl) (hB _ q0.2.1) hb hn (by omega)) (fun w1 k1 => ?_)
  have q1 := q0.trans k1
  exact ⟨rfl, q1⟩

set_option maxRecDepth 100000 in
set_option maxHeartbeats 2000000 in
theorem tw2 (g base gR : Nat) (l : List UInt8) (fr to ti ep ix li : Int) (so : Bool) (idv : Value) (bav : Value) (w : World) (hW : WRT 49 w g base l) (hA : AB w gR #[.int .i64 2, idv, .int .i64 fr, .int .i64 to, .int .i64 ti, .bool so, .int .i64 ep, .int .i64 ix, .int .i64 li, bav]) (hg : base ≤ g) (hl : l.length ≤ 100) :
    Calls Try.prog 17 #[.iface 52 (.pointer (some ⟨g, 0, none⟩)), .pointer (some ⟨gR, 0, none⟩)] w fun e w' => e = .returned (.bool true) ∧ Wrote 49 g base (l ++ numL (clampN ti)) w w' := by
  have hc : w.cell? ⟨gR, 0, none⟩ = some (.int .i64 2) := hA.cell rfl
  have q0 : Wrote 49 g base l w w.drew := ⟨hW, Below.drew (Below.refl base w), TKB.refl _ w⟩
  have z4 := numL9 ti
  refine thru2 (showsW g) gR w _ hc ?_
  refine Then.of (wnumber_any 49 (by decide) g base ⟨gR, 4, none⟩ ti 1125899906842624 _ w.drew q0.1 hg ((q0.ab hA).cell rfl) (by omega)) (fun w1 k1 => ?_)
  have q1 := q0.trans k1
  exact ⟨rfl, q1⟩

set_option maxRecDepth 100000 in
set_option maxHeartbeats 2000000 in
theorem tw3 (g base gR : Nat) (l : List UInt8) (fr to ti ep ix li : Int) (so : Bool) (p : Option Addr) (c : Nat) (id : List UInt8) (bav : Value) (w : World) (hW : WRT 49 w g base l) (hA : AB w gR #[.int .i64 3, (.slice p id.length c), .int .i64 fr, .int .i64 to, .int .i64 ti, .bool so, .int .i64 ep, .int .i64 ix, .int .i64 li, bav]) (hg : base ≤ g) (hl : l.length ≤ 100) (hI : ∀ W, Below base w W → HB W (.slice p id.length c) id) (hi : id.length ≤ 1000) :
    Calls Try.prog 17 #[.iface 52 (.pointer (some ⟨g, 0, none⟩)), .pointer (some ⟨gR, 0, none⟩)] w fun e w' => e = .returned (.bool true) ∧ Wrote 49 g base ((l ++ bytesL id) ++ numL (clampN to)) w w' := by
  have hc : w.cell? ⟨gR, 0, none⟩ = some (.int .i64 3) := hA.cell rfl
  have q0 : Wrote 49 g base l w w.drew := ⟨hW, Below.drew (Below.refl base w), TKB.refl _ w⟩
  have z3 := numL9 to
  have z1 : (bytesL id).length ≤ id.length + 9 := by unfold bytesL; rw [List.length_append, numL_length]; have := cnt_le8 id.length (by omega); omega
  refine thru3 (showsW g) gR w _ hc ?_
  refine Then.of (wtext_any 49 (by decide) g base ⟨gR, 1, none⟩ (.slice p id.length c) id 24 _ w.drew q0.1 hg ((q0.ab hA).cell rfl) (hI _ q0.2.1) (by omega)) (fun w1 k1 => ?_)
  have q1 := q0.trans k1
  refine Then.of (wnumber_any 49 (by decide) g base ⟨gR, 3, none⟩ to 2147483648 _ w1.drew q1.drew.1 hg ((q1.drew.ab hA).cell rfl) (by simp only [List.length_append]; omega)) (fun w2 k2 => ?_)
  have q2 := q1.drew.trans k2
  exact ⟨rfl, q2⟩

set_option maxRecDepth 100000 in
set_option maxHeartbeats 2000000 in
theorem tw4 (g base gR : Nat) (l : List UInt8) (fr to ti ep ix li : Int) (so : Bool) (p : Option Addr) (c : Nat) (id : List UInt8) (bav : Value) (w : World) (hW : WRT 49 w g base l) (hA : AB w gR #[.int .i64 4, (.slice p id.length c), .int .i64 fr, .int .i64 to, .int .i64 ti, .bool so, .int .i64 ep, .int .i64 ix, .int .i64 li, bav]) (hg : base ≤ g) (hl : l.length ≤ 100) (hI : ∀ W, Below base w W → HB W (.slice p id.length c) id) (hi : id.length ≤ 1000) :
    Calls Try.prog 17 #[.iface 52 (.pointer (some ⟨g, 0, none⟩)), .pointer (some ⟨gR, 0, none⟩)] w fun e w' => e = .returned (.bool true) ∧ Wrote 49 g base (((l ++ bytesL id) ++ numL (clampN ti)) ++ numL (clampN to)) w w' := by
  have hc : w.cell? ⟨gR, 0, none⟩ = some (.int .i64 4) := hA.cell rfl
  have q0 : Wrote 49 g base l w w.drew := ⟨hW, Below.drew (Below.refl base w), TKB.refl _ w⟩
  have z3 := numL9 to
  have z4 := numL9 ti
  have z1 : (bytesL id).length ≤ id.length + 9 := by unfold bytesL; rw [List.length_append, numL_length]; have := cnt_le8 id.length (by omega); omega
  refine thru4 (showsW g) gR w _ hc ?_
  refine Then.of (wtext_any 49 (by decide) g base ⟨gR, 1, none⟩ (.slice p id.length c) id 24 _ w.drew q0.1 hg ((q0.ab hA).cell rfl) (hI _ q0.2.1) (by omega)) (fun w1 k1 => ?_)
  have q1 := q0.trans k1
  refine Then.of (wnumber_any 49 (by decide) g base ⟨gR, 4, none⟩ ti 1125899906842624 _ w1.drew q1.drew.1 hg ((q1.drew.ab hA).cell rfl) (by simp only [List.length_append]; omega)) (fun w2 k2 => ?_)
  have q2 := q1.drew.trans k2
  refine Then.of (wnumber_any 49 (by decide) g base ⟨gR, 3, none⟩ to 2147483648 _ w2.drew q2.drew.1 hg ((q2.drew.ab hA).cell rfl) (by simp only [List.length_append]; omega)) (fun w3 k3 => ?_)
  have q3 := q2.drew.trans k3
  exact ⟨rfl, q3⟩

set_option maxRecDepth 100000 in
set_option maxHeartbeats 2000000 in
theorem tw5 (g base gR : Nat) (l : List UInt8) (fr to ti ep ix li : Int) (so : Bool) (p : Option Addr) (c : Nat) (id : List UInt8) (bav : Value) (w : World) (hW : WRT 49 w g base l) (hA : AB w gR #[.int .i64 5, (.slice p id.length c), .int .i64 fr, .int .i64 to, .int .i64 ti, .bool so, .int .i64 ep, .int .i64 ix, .int .i64 li, bav]) (hg : base ≤ g) (hl : l.length ≤ 100) (hI : ∀ W, Below base w W → HB W (.slice p id.length c) id) (hi : id.length ≤ 1000) :
    Calls Try.prog 17 #[.iface 52 (.pointer (some ⟨g, 0, none⟩)), .pointer (some ⟨gR, 0, none⟩)] w fun e w' => e = .returned (.bool true) ∧ Wrote 49 g base (((l ++ bytesL id) ++ numL (clampN fr)) ++ numL (clampN to)) w w' := by
  have hc : w.cell? ⟨gR, 0, none⟩ = some (.int .i64 5) := hA.cell rfl
  have q0 : Wrote 49 g base l w w.drew := ⟨hW, Below.drew (Below.refl base w), TKB.refl _ w⟩
  have z2 := numL9 fr
  have z3 := numL9 to
  have z1 : (bytesL id).length ≤ id.length + 9 := by unfold bytesL; rw [List.length_append, numL_length]; have := cnt_le8 id.length (by omega); omega
  refine thru5 (showsW g) gR w _ hc ?_
  refine Then.of (wtext_any 49 (by decide) g base ⟨gR, 1, none⟩ (.slice p id.length c) id 24 _ w.drew q0.1 hg ((q0.ab hA).cell rfl) (hI _ q0.2.1) (by omega)) (fun w1 k1 => ?_)
  have q1 := q0.trans k1
  refine wshns g base gR 2147483648 _ hg w hA _ _ [(2, fr), (3, to)] _ w1.drew q1.drew (by simp) (by show _ + 9 * 2 ≤ _; simp only [List.length_append]; omega) (fun w2 q2 => ?_)
  have q2 : Wrote 49 g base (((l ++ bytesL id) ++ numL (clampN fr)) ++ numL (clampN to)) w w2 := q2
  exact ⟨rfl, q2⟩

set_option maxRecDepth 100000 in
set_option maxHeartbeats 2000000 in
theorem tw6a (g base gR : Nat) (l : List UInt8) (fr to ti ep ix li : Int) (p : Option Addr) (c : Nat) (id : List UInt8) (bav : Value) (w : World) (hW : WRT 49 w g base l) (hA : AB w gR #[.int .i64 6, (.slice p id.length c), .int .i64 fr, .int .i64 to, .int .i64 ti, .bool true, .int .i64 ep, .int .i64 ix, .int .i64 li, bav]) (hg : base ≤ g) (hl : l.length ≤ 100) (hI : ∀ W, Below base w W → HB W (.slice p id.length c) id) (hi : id.length ≤ 1000) :
    Calls Try.prog 17 #[.iface 52 (.pointer (some ⟨g, 0, none⟩)), .pointer (some ⟨gR, 0, none⟩)] w fun e w' => e = .returned (.bool true) ∧ Wrote 49 g base (((((l ++ numL (clampN fr)) ++ numL (clampN to)) ++ flagL true) ++ bytesL id) ++ numL (clampN li)) w w' := by
  have hc : w.cell? ⟨gR, 0, none⟩ = some (.int .i64 6) := hA.cell rfl
  have q0 : Wrote 49 g base l w w.drew := ⟨hW, Below.drew (Below.refl base w), TKB.refl _ w⟩
  have z2 := numL9 fr
  have z3 := numL9 to
  have z8 := numL9 li
  have z1 : (bytesL id).length ≤ id.length + 9 := by unfold bytesL; rw [List.length_append, numL_length]; have := cnt_le8 id.length (by omega); omega
  have z5 : (flagL true).length = 1 := rfl
  refine thru6 (showsW g) gR w _ hc ?_
  refine wshns g base gR 2147483648 _ hg w hA _ _ [(2, fr), (3, to)] _ w.drew q0 (by simp) (by show _ + 9 * 2 ≤ _; omega) (fun w1 q1 => ?_)
  have q1 : Wrote 49 g base ((l ++ numL (clampN fr)) ++ numL (clampN to)) w w1 := q1
  refine Then.of (wflag_any 49 (by decide) g base ⟨gR, 5, none⟩ true _ w1.drew q1.drew.1 hg ((q1.drew.ab hA).cell rfl) (fun w' _ ht => AB.cell (ht gR _ _ _ (q1.drew.ab hA) (by decide) (by decide)) rfl) (by simp only [List.length_append]; omega)) (fun w2 k2 => ?_)
  have q2 := q1.drew.trans k2
  refine ⟨true, rfl, fun _ => ?_, (fun h => nomatch h)⟩
  refine Then.of (wtext_any 49 (by decide) g base ⟨gR, 1, none⟩ (.slice p id.length c) id 24 _ w2.drew q2.drew.1 hg ((q2.drew.ab hA).cell rfl) (hI _ q2.drew.2.1) (by simp only [List.length_append]; omega)) (fun w3 k3 => ?_)
  have q3 := q2.drew.trans k3
  refine Then.of (wnumber_any 49 (by decide) g base ⟨gR, 8, none⟩ li 2147483648 _ w3.drew q3.drew.1 hg ((q3.drew.ab hA).cell rfl) (by simp only [List.length_append]; omega)) (fun w4 k4 => ?_)
  have q4 := q3.drew.trans k4
  exact ⟨rfl, q4⟩

set_option maxRecDepth 100000 in
set_option maxHeartbeats 2000000 in
theorem tw6b (g base gR : Nat) (l : List UInt8) (fr to ti ep ix li : Int) (idv : Value) (bav : Value) (w : World) (hW : WRT 49 w g base l) (hA : AB w gR #[.int .i64 6, idv, .int .i64 fr, .int .i64 to, .int .i64 ti, .bool false, .int .i64 ep, .int .i64 ix, .int .i64 li, bav]) (hg : base ≤ g) (hl : l.length ≤ 100) :
    Calls Try.prog 17 #[.iface 52 (.pointer (some ⟨g, 0, none⟩)), .pointer (some ⟨gR, 0, none⟩)] w fun e w' => e = .returned (.bool true) ∧ Wrote 49 g base ((((l ++ numL (clampN fr)) ++ numL (clampN to)) ++ flagL false) ++ numL (clampN li)) w w' := by
  have hc : w.cell? ⟨gR, 0, none⟩ = some (.int .i64 6) := hA.cell rfl
  have q0 : Wrote 49 g base l w w.drew := ⟨hW, Below.drew (Below.refl base w), TKB.refl _ w⟩
  have z2 := numL9 fr
  have z3 := numL9 to
  have z8 := numL9 li
  have z5 : (flagL false).length = 1 := rfl
  refine thru6 (showsW g) gR w _ hc ?_
  refine wshns g base gR 2147483648 _ hg w hA _ _ [(2, fr), (3, to)] _ w.drew q0 (by simp) (by show _ + 9 * 2 ≤ _; omega) (fun w1 q1 => ?_)
  have q1 : Wrote 49 g base ((l ++ numL (clampN fr)) ++ numL (clampN to)) w w1 := q1
  refine Then.of (wflag_any 49 (by decide) g base ⟨gR, 5, none⟩ false _ w1.drew q1.drew.1 hg ((q1.drew.ab hA).cell rfl) (fun w' _ ht => AB.cell (ht gR _ _ _ (q1.drew.ab hA) (by decide) (by decide)) rfl) (by simp only [List.length_append]; omega)) (fun w2 k2 => ?_)
  have q2 := q1.drew.trans k2
  refine ⟨false, rfl, (fun h => nomatch h), fun _ => ?_⟩
  refine Then.of (wnumber_any 49 (by decide) g base ⟨gR, 8, none⟩ li 2147483648 _ w2.drew q2.drew.1 hg ((q2.drew.ab hA).cell rfl) (by simp only [List.length_append]; omega)) (fun w3 k3 => ?_)
  have q3 := q2.drew.trans k3
  exact ⟨rfl, q3⟩

set_option maxRecDepth 100000 in
set_option maxHeartbeats 2000000 in
theorem tw7 (g base gR : Nat) (l : List UInt8) (fr to ti ep ix li : Int) (so : Bool) (idv : Value) (bav : Value) (w : World) (hW : WRT 49 w g base l) (hA : AB w gR #[.int .i64 7, idv, .int .i64 fr, .int .i64 to, .int .i64 ti, .bool so, .int .i64 ep, .int .i64 ix, .int .i64 li, bav]) (hg : base ≤ g) (hl : l.length ≤ 100) :
    Calls Try.prog 17 #[.iface 52 (.pointer (some ⟨g, 0, none⟩)), .pointer (some ⟨gR, 0, none⟩)] w fun e w' => e = .returned (.bool true) ∧ Wrote 49 g base (((((l ++ numL (clampN fr)) ++ numL (clampN to)) ++ numL (clampN ep)) ++ numL (clampN ix)) ++ numL (clampN li)) w w' := by
  have hc : w.cell? ⟨gR, 0, none⟩ = some (.int .i64 7) := hA.cell rfl
  have q0 : Wrote 49 g base l w w.drew := ⟨hW, Below.drew (Below.refl base w), TKB.refl _ w⟩
  have z2 := numL9 fr
  have z3 := numL9 to
  have z6 := numL9 ep
  have z7 := numL9 ix
  have z8 := numL9 li
  refine thru7 (showsW g) gR w _ hc ?_
  refine wshns g base gR 2147483648 _ hg w hA _ _ [(2, fr), (3, to), (6, ep), (7, ix), (8, li)] _ w.drew q0 (by simp) (by show _ + 9 * 5 ≤ _; omega) (fun w1 q1 => ?_)
  have q1 : Wrote 49 g base (((((l ++ numL (clampN fr)) ++ numL (clampN to)) ++ numL (clampN ep)) ++ numL (clampN ix)) ++ numL (clampN li)) w w1 := q1
  exact ⟨rfl, q1⟩

set_option maxRecDepth 100000 in
set_option maxHeartbeats 2000000 in
theorem tw10 (g base gR : Nat) (l : List UInt8) (fr to ti ep ix li : Int) (so : Bool) (p : Option Addr) (c : Nat) (id : List UInt8) (bav : Value) (w : World) (hW : WRT 49 w g base l) (hA : AB w gR #[.int .i64 10, (.slice p id.length c), .int .i64 fr, .int .i64 to, .int .i64 ti, .bool so, .int .i64 ep, .int .i64 ix, .int .i64 li, bav]) (hg : base ≤ g) (hl : l.length ≤ 100) (hI : ∀ W, Below base w W → HB W (.slice p id.length c) id) (hi : id.length ≤ 1000) :
    Calls Try.prog 17 #[.iface 52 (.pointer (some ⟨g, 0, none⟩)), .pointer (some ⟨gR, 0, none⟩)] w fun e w' => e = .returned (.bool true) ∧ Wrote 49 g base ((((l ++ bytesL id) ++ numL (clampN fr)) ++ numL (clampN to)) ++ numL (clampN li)) w w' := by
  have hc : w.cell? ⟨gR, 0, none⟩ = some (.int .i64 10) := hA.cell rfl
  have q0 : Wrote 49 g base l w w.drew := ⟨hW, Below.drew (Below.refl base w), TKB.refl _ w⟩
  have z2 := numL9 fr
  have z3 := numL9 to
  have z8 := numL9 li
  have z1 : (bytesL id).length ≤ id.length + 9 := by unfold bytesL; rw [List.length_append, numL_length]; have := cnt_le8 id.length (by omega); omega
  refine thru10 (showsW g) gR w _ hc ?_
  refine Then.of (wtext_any 49 (by decide) g base ⟨gR, 1, none⟩ (.slice p id.length c) id 24 _ w.drew q0.1 hg ((q0.ab hA).cell rfl) (hI _ q0.2.1) (by omega)) (fun w1 k1 => ?_)
  have q1 := q0.trans k1
  refine wshns g base gR 2147483648 _ hg w hA _ _ [(2, fr), (3, to), (8, li)] _ w1.drew q1.drew (by simp) (by show _ + 9 * 3 ≤ _; simp only [List.length_append]; omega) (fun w2 q2 => ?_)
  have q2 : Wrote 49 g base ((((l ++ bytesL id) ++ numL (clampN fr)) ++ numL (clampN to)) ++ numL (clampN li)) w w2 := q2
  exact ⟨rfl, q2⟩

end Go.Proofs.Ythkgbgkijdeaoaa
