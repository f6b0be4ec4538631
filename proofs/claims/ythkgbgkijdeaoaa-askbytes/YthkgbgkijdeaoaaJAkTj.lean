/- What this text proves: the walk of ask.through with a judge over this program, by kinds. (By program: mkaktj.py.) -/
import Derived.Test.YthkgbgkijdeaoaaJAkThru
import Derived.Test.YthkgbgkijdeaoaaJAkJudge
namespace Go.Proofs.Ythkgbgkijdeaoaa
open Go.RowKit

theorem Then.of {P : Program} {f : FuncId} {args : Array Value} {w : World} {r : Value} {R : World → Prop} {K : Value → World → Prop} {E : List PanicEntry → World → Prop} (h : Calls P f args w fun e w' => e = .returned r ∧ R w') (hK : ∀ w', R w' → K r w') : Then P f args w K E := by
  refine Calls.mono h ?_
  rintro e w' ⟨rfl, k⟩
  exact .inl ⟨r, rfl, hK w' k⟩

/-- A judge shows fields. -/
def showsJ (gJ : Nat) : Shows where
  T := 44
  v := .pointer (some ⟨gJ, 0, none⟩)
  fN := 77
  uN := .pointer (some ⟨gJ, 0, none⟩)
  fT := 78
  uT := .pointer (some ⟨gJ, 0, none⟩)
  fF := 76
  uF := .pointer (some ⟨gJ, 0, none⟩)
  fB := 79
  uB := .pointer (some ⟨gJ, 0, none⟩)
  mN := ⟨fun _ => by kernel_rfl, fun _ => by kernel_rfl, fun _ _ => by kernel_rfl⟩
  mT := ⟨fun _ => by kernel_rfl, fun _ => by kernel_rfl, fun _ _ => by kernel_rfl⟩
  mF := ⟨fun _ => by kernel_rfl, fun _ => by kernel_rfl, fun _ _ => by kernel_rfl⟩
  mB := ⟨fun _ => by kernel_rfl, fun _ => by kernel_rfl, fun _ _ => by kernel_rfl⟩

/-- A number is beyond its bound; a text is. -/
def outN (n most : Int) : Bool := decide (n < 0 ∨ most < n)
def outT (n : Nat) : Bool := decide ((24 : Int) < (n : Int))

theorem JA.trans {base gJ g : Nat} {b b' : Bool} {cs cs' : Array Value} {w w1 w2 : World} (h : JA base gJ g b cs w w1) (k : JA base gJ g b' cs' w1.drew w2) : JA base gJ g b' cs' w w2 := ⟨k.1, k.2.1, (Below.drew h.2.2).trans k.2.2⟩
theorem JA.trans' {base gJ g : Nat} {b b' : Bool} {cs cs' : Array Value} {w w1 w2 : World} (h : JA base gJ g b cs w w1) (k : JA base gJ g b' cs' w1 w2) : JA base gJ g b' cs' w w2 := ⟨k.1, k.2.1, h.2.2.trans k.2.2⟩

/-- Some numbers, one behind the other. -/
theorem jnums_any (base gJ g : Nat) (most : Int) (lb : Nat) (o : Obj) (hne : gJ ≠ g) (h1 : base ≤ gJ) (h2 : base ≤ g) (l1 : lb ≠ gJ) (l2 : lb ≠ g) (K : World → Prop) (E : List PanicEntry → World → Prop) : ∀ (l : List (Nat × Int)) (b : Bool) (cs : Array Value) (w0 w : World), JA base gJ g b cs w0 w → (∀ x ∈ l, cs[x.1]? = some (.int .i64 x.2)) → (l.map (·.1)).Nodup → w.heap[lb]? = some o →
    (∀ w', JA base gJ g (l.foldl (fun b x => b || outN x.2 most) b) (l.foldl (fun cs x => cs.setIfInBounds x.1 (.int .i64 0)) cs) w0 w' → K w') →
    NumsT 77 (.pointer (some ⟨gJ, 0, none⟩)) most lb o K E (l.map fun x => ⟨g, x.1, none⟩) w
  | [], b, cs, w0, w, hA, _, _, _, hK => hK w hA
  | x :: l, b, cs, w0, w, hA, hv, hn, ho, hK => by
    have llt : lb < w.heap.size := (Array.getElem?_eq_some_iff.1 ho).1
    refine Then.of (jnumber_any base gJ g x.1 b x.2 most cs w hA.1 hA.2.1 (hv x (by simp)) hne h1 h2) ?_
    rintro w' ⟨hj, ht⟩
    refine ⟨(ht lb llt l1 l2).trans ho, jnums_any base gJ g most lb o hne h1 h2 l1 l2 K E l _ _ w0 w' (hA.trans' hj) ?_ (List.nodup_cons.1 hn).2 ((ht lb llt l1 l2).trans ho) hK⟩
    intro y hy
    have hne' : x.1 ≠ y.1 := fun e => (List.nodup_cons.1 hn).1 (by show x.1 ∈ _; rw [e]; exact List.mem_map_of_mem (f := fun (z : Nat × Int) => z.1) hy)
    rw [Array.getElem?_setIfInBounds_ne hne']
    exact hv y (by simp [hy])

theorem jshns (base gJ g : Nat) (most : Int) (hne : gJ ≠ g) (h1 : base ≤ gJ) (h2 : base ≤ g) (K : World → Prop) (E : List PanicEntry → World → Prop) (l : List (Nat × Int)) (b : Bool) (cs : Array Value) (w : World) (hJ : JB w gJ b) (hA : AB w g cs) (hv : ∀ x ∈ l, cs[x.1]? = some (.int .i64 x.2)) (hn : (l.map (·.1)).Nodup)
    (hK : ∀ w', JA base gJ g (l.foldl (fun b x => b || outN x.2 most) b) (l.foldl (fun cs x => cs.setIfInBounds x.1 (.int .i64 0)) cs) w w' → K w') :
    ShNs (showsJ gJ) (l.map fun x => ⟨g, x.1, none⟩) most w K E := by
  have lt1 : gJ < w.heap.size := (Array.getElem?_eq_some_iff.1 hJ).1
  have lt2 : g < w.heap.size := (Array.getElem?_eq_some_iff.1 hA).1
  have bL := (Below.refl w.heap.size w).alloc (Nat.le_refl _) (.cells (ptrs (l.map fun x => (⟨g, x.1, none⟩ : Addr))).toArray 51 (0, 0))
  exact jnums_any base gJ g most w.heap.size _ hne h1 h2 (by omega) (by omega) K E l b cs w _ ⟨hJ.later bL, hA.later bL, bL.mono (by omega)⟩ hv hn (heap_alloc_new w _) hK

set_option maxRecDepth 100000 in
set_option maxHeartbeats 2000000 in
theorem tj1 (base gJ g : Nat) (b : Bool) (fr to ti ep ix li : Int) (so : Bool) (idv : Value) (bav : Value) (bs : List (List UInt8 × List UInt8)) (w : World) (hJ : JB w gJ b) (hA : AB w g #[.int .i64 1, idv, .int .i64 fr, .int .i64 to, .int .i64 ti, .bool so, .int .i64 ep, .int .i64 ix, .int .i64 li, bav]) (hne : gJ ≠ g) (h1 : base ≤ gJ) (h2 : base ≤ g) (hB : ∀ W, Below base w W → BA W bav bs) (hn : bs.length ≤ 1000) :
    Calls Try.prog 17 #[.iface 44 (.pointer (some ⟨gJ, 0, none⟩)), .pointer (some ⟨g, 0, none⟩)] w fun e w' => e = .returned (.bool true) ∧ JA base gJ g (b || badB bs) #[.int .i64 1, idv, .int .i64 fr, .int .i64 to, .int .i64 ti, .bool so, .int .i64 ep, .int .i64 ix, .int .i64 li, .slice none 0 0] w w' := by
  have hc : w.cell? ⟨g, 0, none⟩ = some (.int .i64 1) := hA.cell rfl
  have h0 : JA base gJ g b #[.int .i64 1, idv, .int .i64 fr, .int .i64 to, .int .i64 ti, .bool so, .int .i64 ep, .int .i64 ix, .int .i64 li, bav] w w.drew := ⟨hJ, hA, Below.drew (Below.refl base w)⟩
  refine thru1 (showsJ gJ) g w _ hc ?_
  refine Then.of (jbatch_any base gJ g 9 _ bav bs _ w.drew h0.1 h0.2.1 rfl hne h1 h2 (fun W hW => hB W ((Below.drew (Below.refl base w)).trans hW)) hn) (fun w1 k1 => ?_)
  have q1 := h0.trans' k1
  exact ⟨rfl, q1⟩

set_option maxRecDepth 100000 in
set_option maxHeartbeats 2000000 in
theorem tj2 (base gJ g : Nat) (b : Bool) (fr to ti ep ix li : Int) (so : Bool) (idv : Value) (bav : Value) (w : World) (hJ : JB w gJ b) (hA : AB w g #[.int .i64 2, idv, .int .i64 fr, .int .i64 to, .int .i64 ti, .bool so, .int .i64 ep, .int .i64 ix, .int .i64 li, bav]) (hne : gJ ≠ g) (h1 : base ≤ gJ) (h2 : base ≤ g) :
    Calls Try.prog 17 #[.iface 44 (.pointer (some ⟨gJ, 0, none⟩)), .pointer (some ⟨g, 0, none⟩)] w fun e w' => e = .returned (.bool true) ∧ JA base gJ g (b || outN ti 1125899906842624) #[.int .i64 2, idv, .int .i64 fr, .int .i64 to, .int .i64 0, .bool so, .int .i64 ep, .int .i64 ix, .int .i64 li, bav] w w' := by
  have hc : w.cell? ⟨g, 0, none⟩ = some (.int .i64 2) := hA.cell rfl
  have h0 : JA base gJ g b #[.int .i64 2, idv, .int .i64 fr, .int .i64 to, .int .i64 ti, .bool so, .int .i64 ep, .int .i64 ix, .int .i64 li, bav] w w.drew := ⟨hJ, hA, Below.drew (Below.refl base w)⟩
  refine thru2 (showsJ gJ) g w _ hc ?_
  refine Then.of (jnumber_any base gJ g 4 _ ti 1125899906842624 _ w.drew h0.1 h0.2.1 rfl hne h1 h2) (fun w1 k1 => ?_)
  have q1 := h0.trans' k1.1
  exact ⟨rfl, q1⟩

set_option maxRecDepth 100000 in
set_option maxHeartbeats 2000000 in
theorem tj3 (base gJ g : Nat) (b : Bool) (fr to ti ep ix li : Int) (so : Bool) (p : Option Addr) (n c : Nat) (bav : Value) (w : World) (hJ : JB w gJ b) (hA : AB w g #[.int .i64 3, (.slice p n c), .int .i64 fr, .int .i64 to, .int .i64 ti, .bool so, .int .i64 ep, .int .i64 ix, .int .i64 li, bav]) (hne : gJ ≠ g) (h1 : base ≤ gJ) (h2 : base ≤ g) :
    Calls Try.prog 17 #[.iface 44 (.pointer (some ⟨gJ, 0, none⟩)), .pointer (some ⟨g, 0, none⟩)] w fun e w' => e = .returned (.bool true) ∧ JA base gJ g ((b || outT n) || outN to 2147483648) #[.int .i64 3, .slice none 0 0, .int .i64 fr, .int .i64 0, .int .i64 ti, .bool so, .int .i64 ep, .int .i64 ix, .int .i64 li, bav] w w' := by
  have hc : w.cell? ⟨g, 0, none⟩ = some (.int .i64 3) := hA.cell rfl
  have h0 : JA base gJ g b #[.int .i64 3, (.slice p n c), .int .i64 fr, .int .i64 to, .int .i64 ti, .bool so, .int .i64 ep, .int .i64 ix, .int .i64 li, bav] w w.drew := ⟨hJ, hA, Below.drew (Below.refl base w)⟩
  refine thru3 (showsJ gJ) g w _ hc ?_
  refine Then.of (jtext_any base gJ g 1 _ p n c 24 _ w.drew h0.1 h0.2.1 rfl hne h1 h2) (fun w1 k1 => ?_)
  have q1 := h0.trans' k1
  refine Then.of (jnumber_any base gJ g 3 _ to 2147483648 _ w1.drew q1.1 q1.2.1 rfl hne h1 h2) (fun w2 k2 => ?_)
  have q2 := q1.trans k2.1
  exact ⟨rfl, q2⟩

set_option maxRecDepth 100000 in
set_option maxHeartbeats 2000000 in
theorem tj4 (base gJ g : Nat) (b : Bool) (fr to ti ep ix li : Int) (so : Bool) (p : Option Addr) (n c : Nat) (bav : Value) (w : World) (hJ : JB w gJ b) (hA : AB w g #[.int .i64 4, (.slice p n c), .int .i64 fr, .int .i64 to, .int .i64 ti, .bool so, .int .i64 ep, .int .i64 ix, .int .i64 li, bav]) (hne : gJ ≠ g) (h1 : base ≤ gJ) (h2 : base ≤ g) :
    Calls Try.prog 17 #[.iface 44 (.pointer (some ⟨gJ, 0, none⟩)), .pointer (some ⟨g, 0, none⟩)] w fun e w' => e = .returned (.bool true) ∧ JA base gJ g (((b || outT n) || outN ti 1125899906842624) || outN to 2147483648) #[.int .i64 4, .slice none 0 0, .int .i64 fr, .int .i64 0, .int .i64 0, .bool so, .int .i64 ep, .int .i64 ix, .int .i64 li, bav] w w' := by
  have hc : w.cell? ⟨g, 0, none⟩ = some (.int .i64 4) := hA.cell rfl
  have h0 : JA base gJ g b #[.int .i64 4, (.slice p n c), .int .i64 fr, .int .i64 to, .int .i64 ti, .bool so, .int .i64 ep, .int .i64 ix, .int .i64 li, bav] w w.drew := ⟨hJ, hA, Below.drew (Below.refl base w)⟩
  refine thru4 (showsJ gJ) g w _ hc ?_
  refine Then.of (jtext_any base gJ g 1 _ p n c 24 _ w.drew h0.1 h0.2.1 rfl hne h1 h2) (fun w1 k1 => ?_)
  have q1 := h0.trans' k1
  refine Then.of (jnumber_any base gJ g 4 _ ti 1125899906842624 _ w1.drew q1.1 q1.2.1 rfl hne h1 h2) (fun w2 k2 => ?_)
  have q2 := q1.trans k2.1
  refine Then.of (jnumber_any base gJ g 3 _ to 2147483648 _ w2.drew q2.1 q2.2.1 rfl hne h1 h2) (fun w3 k3 => ?_)
  have q3 := q2.trans k3.1
  exact ⟨rfl, q3⟩

set_option maxRecDepth 100000 in
set_option maxHeartbeats 2000000 in
theorem tj5 (base gJ g : Nat) (b : Bool) (fr to ti ep ix li : Int) (so : Bool) (p : Option Addr) (n c : Nat) (bav : Value) (w : World) (hJ : JB w gJ b) (hA : AB w g #[.int .i64 5, (.slice p n c), .int .i64 fr, .int .i64 to, .int .i64 ti, .bool so, .int .i64 ep, .int .i64 ix, .int .i64 li, bav]) (hne : gJ ≠ g) (h1 : base ≤ gJ) (h2 : base ≤ g) :
    Calls Try.prog 17 #[.iface 44 (.pointer (some ⟨gJ, 0, none⟩)), .pointer (some ⟨g, 0, none⟩)] w fun e w' => e = .returned (.bool true) ∧ JA base gJ g (((b || outT n) || outN fr 2147483648) || outN to 2147483648) #[.int .i64 5, .slice none 0 0, .int .i64 0, .int .i64 0, .int .i64 ti, .bool so, .int .i64 ep, .int .i64 ix, .int .i64 li, bav] w w' := by
  have hc : w.cell? ⟨g, 0, none⟩ = some (.int .i64 5) := hA.cell rfl
  have h0 : JA base gJ g b #[.int .i64 5, (.slice p n c), .int .i64 fr, .int .i64 to, .int .i64 ti, .bool so, .int .i64 ep, .int .i64 ix, .int .i64 li, bav] w w.drew := ⟨hJ, hA, Below.drew (Below.refl base w)⟩
  refine thru5 (showsJ gJ) g w _ hc ?_
  refine Then.of (jtext_any base gJ g 1 _ p n c 24 _ w.drew h0.1 h0.2.1 rfl hne h1 h2) (fun w1 k1 => ?_)
  have q1 := h0.trans' k1
  refine jshns base gJ g 2147483648 hne h1 h2 _ _ [(2, fr), (3, to)] _ _ w1.drew q1.1 q1.2.1 (by simp) (by simp) (fun w2 k2 => ?_)
  have q2 := q1.trans k2
  exact ⟨rfl, q2⟩

set_option maxRecDepth 100000 in
set_option maxHeartbeats 2000000 in
theorem tj6a (base gJ g : Nat) (b : Bool) (fr to ti ep ix li : Int) (p : Option Addr) (n c : Nat) (bav : Value) (w : World) (hJ : JB w gJ b) (hA : AB w g #[.int .i64 6, (.slice p n c), .int .i64 fr, .int .i64 to, .int .i64 ti, .bool true, .int .i64 ep, .int .i64 ix, .int .i64 li, bav]) (hne : gJ ≠ g) (h1 : base ≤ gJ) (h2 : base ≤ g) :
    Calls Try.prog 17 #[.iface 44 (.pointer (some ⟨gJ, 0, none⟩)), .pointer (some ⟨g, 0, none⟩)] w fun e w' => e = .returned (.bool true) ∧ JA base gJ g ((((b || outN fr 2147483648) || outN to 2147483648) || outT n) || outN li 2147483648) #[.int .i64 6, .slice none 0 0, .int .i64 0, .int .i64 0, .int .i64 ti, .bool false, .int .i64 ep, .int .i64 ix, .int .i64 0, bav] w w' := by
  have hc : w.cell? ⟨g, 0, none⟩ = some (.int .i64 6) := hA.cell rfl
  have h0 : JA base gJ g b #[.int .i64 6, (.slice p n c), .int .i64 fr, .int .i64 to, .int .i64 ti, .bool true, .int .i64 ep, .int .i64 ix, .int .i64 li, bav] w w.drew := ⟨hJ, hA, Below.drew (Below.refl base w)⟩
  refine thru6 (showsJ gJ) g w _ hc ?_
  refine jshns base gJ g 2147483648 hne h1 h2 _ _ [(2, fr), (3, to)] _ _ w.drew h0.1 h0.2.1 (by simp) (by simp) (fun w1 k1 => ?_)
  have q1 := h0.trans' k1
  refine Then.of (jflag_any base gJ g 5 _ true _ w1.drew q1.1 q1.2.1 rfl hne h2) (fun w2 k2 => ?_)
  have q2 := q1.trans k2
  refine ⟨true, rfl, fun _ => ?_, (fun h => nomatch h)⟩
  refine Then.of (jtext_any base gJ g 1 _ p n c 24 _ w2.drew q2.1 q2.2.1 rfl hne h1 h2) (fun w3 k3 => ?_)
  have q3 := q2.trans k3
  refine Then.of (jnumber_any base gJ g 8 _ li 2147483648 _ w3.drew q3.1 q3.2.1 rfl hne h1 h2) (fun w4 k4 => ?_)
  have q4 := q3.trans k4.1
  exact ⟨rfl, q4⟩

set_option maxRecDepth 100000 in
set_option maxHeartbeats 2000000 in
theorem tj6b (base gJ g : Nat) (b : Bool) (fr to ti ep ix li : Int) (p : Option Addr) (n c : Nat) (bav : Value) (w : World) (hJ : JB w gJ b) (hA : AB w g #[.int .i64 6, (.slice p n c), .int .i64 fr, .int .i64 to, .int .i64 ti, .bool false, .int .i64 ep, .int .i64 ix, .int .i64 li, bav]) (hne : gJ ≠ g) (h1 : base ≤ gJ) (h2 : base ≤ g) :
    Calls Try.prog 17 #[.iface 44 (.pointer (some ⟨gJ, 0, none⟩)), .pointer (some ⟨g, 0, none⟩)] w fun e w' => e = .returned (.bool true) ∧ JA base gJ g (((b || outN fr 2147483648) || outN to 2147483648) || outN li 2147483648) #[.int .i64 6, (.slice p n c), .int .i64 0, .int .i64 0, .int .i64 ti, .bool false, .int .i64 ep, .int .i64 ix, .int .i64 0, bav] w w' := by
  have hc : w.cell? ⟨g, 0, none⟩ = some (.int .i64 6) := hA.cell rfl
  have h0 : JA base gJ g b #[.int .i64 6, (.slice p n c), .int .i64 fr, .int .i64 to, .int .i64 ti, .bool false, .int .i64 ep, .int .i64 ix, .int .i64 li, bav] w w.drew := ⟨hJ, hA, Below.drew (Below.refl base w)⟩
  refine thru6 (showsJ gJ) g w _ hc ?_
  refine jshns base gJ g 2147483648 hne h1 h2 _ _ [(2, fr), (3, to)] _ _ w.drew h0.1 h0.2.1 (by simp) (by simp) (fun w1 k1 => ?_)
  have q1 := h0.trans' k1
  refine Then.of (jflag_any base gJ g 5 _ false _ w1.drew q1.1 q1.2.1 rfl hne h2) (fun w2 k2 => ?_)
  have q2 := q1.trans k2
  refine ⟨false, rfl, (fun h => nomatch h), fun _ => ?_⟩
  refine Then.of (jnumber_any base gJ g 8 _ li 2147483648 _ w2.drew q2.1 q2.2.1 rfl hne h1 h2) (fun w3 k3 => ?_)
  have q3 := q2.trans k3.1
  exact ⟨rfl, q3⟩

set_option maxRecDepth 100000 in
set_option maxHeartbeats 2000000 in
theorem tj7 (base gJ g : Nat) (b : Bool) (fr to ti ep ix li : Int) (so : Bool) (idv : Value) (bav : Value) (w : World) (hJ : JB w gJ b) (hA : AB w g #[.int .i64 7, idv, .int .i64 fr, .int .i64 to, .int .i64 ti, .bool so, .int .i64 ep, .int .i64 ix, .int .i64 li, bav]) (hne : gJ ≠ g) (h1 : base ≤ gJ) (h2 : base ≤ g) :
    Calls Try.prog 17 #[.iface 44 (.pointer (some ⟨gJ, 0, none⟩)), .pointer (some ⟨g, 0, none⟩)] w fun e w' => e = .returned (.bool true) ∧ JA base gJ g (((((b || outN fr 2147483648) || outN to 2147483648) || outN ep 2147483648) || outN ix 2147483648) || outN li 2147483648) #[.int .i64 7, idv, .int .i64 0, .int .i64 0, .int .i64 ti, .bool so, .int .i64 0, .int .i64 0, .int .i64 0, bav] w w' := by
  have hc : w.cell? ⟨g, 0, none⟩ = some (.int .i64 7) := hA.cell rfl
  have h0 : JA base gJ g b #[.int .i64 7, idv, .int .i64 fr, .int .i64 to, .int .i64 ti, .bool so, .int .i64 ep, .int .i64 ix, .int .i64 li, bav] w w.drew := ⟨hJ, hA, Below.drew (Below.refl base w)⟩
  refine thru7 (showsJ gJ) g w _ hc ?_
  refine jshns base gJ g 2147483648 hne h1 h2 _ _ [(2, fr), (3, to), (6, ep), (7, ix), (8, li)] _ _ w.drew h0.1 h0.2.1 (by simp) (by simp) (fun w1 k1 => ?_)
  have q1 := h0.trans' k1
  exact ⟨rfl, q1⟩

set_option maxRecDepth 100000 in
set_option maxHeartbeats 2000000 in
theorem tj10 (base gJ g : Nat) (b : Bool) (fr to ti ep ix li : Int) (so : Bool) (p : Option Addr) (n c : Nat) (bav : Value) (w : World) (hJ : JB w gJ b) (hA : AB w g #[.int .i64 10, (.slice p n c), .int .i64 fr, .int .i64 to, .int .i64 ti, .bool so, .int .i64 ep, .int .i64 ix, .int .i64 li, bav]) (hne : gJ ≠ g) (h1 : base ≤ gJ) (h2 : base ≤ g) :
    Calls Try.prog 17 #[.iface 44 (.pointer (some ⟨gJ, 0, none⟩)), .pointer (some ⟨g, 0, none⟩)] w fun e w' => e = .returned (.bool true) ∧ JA base gJ g ((((b || outT n) || outN fr 2147483648) || outN to 2147483648) || outN li 2147483648) #[.int .i64 10, .slice none 0 0, .int .i64 0, .int .i64 0, .int .i64 ti, .bool so, .int .i64 ep, .int .i64 ix, .int .i64 0, bav] w w' := by
  have hc : w.cell? ⟨g, 0, none⟩ = some (.int .i64 10) := hA.cell rfl
  have h0 : JA base gJ g b #[.int .i64 10, (.slice p n c), .int .i64 fr, .int .i64 to, .int .i64 ti, .bool so, .int .i64 ep, .int .i64 ix, .int .i64 li, bav] w w.drew := ⟨hJ, hA, Below.drew (Below.refl base w)⟩
  refine thru10 (showsJ gJ) g w _ hc ?_
  refine Then.of (jtext_any base gJ g 1 _ p n c 24 _ w.drew h0.1 h0.2.1 rfl hne h1 h2) (fun w1 k1 => ?_)
  have q1 := h0.trans' k1
  refine jshns base gJ g 2147483648 hne h1 h2 _ _ [(2, fr), (3, to), (8, li)] _ _ w1.drew q1.1 q1.2.1 (by simp) (by simp) (fun w2 k2 => ?_)
  have q2 := q1.trans k2
  exact ⟨rfl, q2⟩

end Go.Proofs.Ythkgbgkijdeaoaa
