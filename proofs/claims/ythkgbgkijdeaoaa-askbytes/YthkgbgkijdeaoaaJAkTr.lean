/- What this text proves: the walk of ask.through with a reader over this program, by kinds. (By program: mkaktr.py.) -/
import Derived.Test.YthkgbgkijdeaoaaJB1
import Derived.Test.YthkgbgkijdeaoaaJAkTj
namespace Go.Proofs.Ythkgbgkijdeaoaa
open Go.RowKit

/-- A reader shows fields. -/
def showsR (g : Nat) : Shows where
  T := 64
  v := .pointer (some ⟨g, 0, none⟩)
  fN := 28
  uN := .pointer (some ⟨g, 0, none⟩)
  fT := 88
  uT := .pointer (some ⟨g, 0, none⟩)
  fF := 87
  uF := .pointer (some ⟨g, 0, none⟩)
  fB := 89
  uB := .pointer (some ⟨g, 0, none⟩)
  mN := ⟨fun _ => by kernel_rfl, fun _ => by kernel_rfl, fun _ _ => by kernel_rfl⟩
  mT := ⟨fun _ => by kernel_rfl, fun _ => by kernel_rfl, fun _ _ => by kernel_rfl⟩
  mF := ⟨fun _ => by kernel_rfl, fun _ => by kernel_rfl, fun _ _ => by kernel_rfl⟩
  mB := ⟨fun _ => by kernel_rfl, fun _ => by kernel_rfl, fun _ _ => by kernel_rfl⟩

theorem HBN.tkr {w w' : World} {g : Nat} {v : Value} {l : List UInt8} (h : HBN w g v l) (t : TKR w w') : HBN w' g v l := by
  obtain ⟨⟨p, cap, e, h1, h2, h3, h4⟩, h5⟩ := h
  refine ⟨⟨p, cap, e, h1, h2, h3, fun hn => ?_⟩, fun a n c ev => ?_⟩
  · obtain ⟨b, o, rfl, hc⟩ := h4 hn
    refine ⟨b, o, rfl, fun i x hx => ?_⟩
    obtain ⟨cur, fr, hb⟩ := (h5 _ _ _ e).2
    have hk : w'.heap[b]? = w.heap[b]? := (t b cur _ fr hb (by decide) (by decide)).trans hb.symm
    rw [World.cell?_of_block (w := w) hk]
    exact hc i x hx
  · obtain ⟨hne, cur, fr, hb⟩ := h5 a n c ev
    exact ⟨hne, cur, fr, t _ cur _ fr hb (by decide) (by decide)⟩

/-- A reader's state under way, from w0 on. -/
def RS0 (base g gc gA : Nat) (bv : Value) (cs : Array Value) (l : List UInt8) (w0 w : World) : Prop := RF 63 w g gc bv l 0 ∧ AB w gA cs ∧ Below base w0 w ∧ TKR w0 w
theorem RS0.drew {base g gc gA : Nat} {bv : Value} {cs : Array Value} {l : List UInt8} {w0 w : World} (h : RS0 base g gc gA bv cs l w0 w) : RS0 base g gc gA bv cs l w0 w.drew := ⟨h.1, h.2.1, Below.drew h.2.2.1, h.2.2.2⟩

/-- A call of a reader, and what goes on. -/
theorem Then.got {base g gc gA : Nat} {bv : Value} {cs cs' : Array Value} {e : Int} {l l' : List UInt8} {r : Value} {f : Nat} {args : Array Value} {w0 w : World} {K : Value → World → Prop} {E : List PanicEntry → World → Prop} (h0 : RS0 base g gc gA bv cs l w0 w)
    (h : Calls Try.prog f args w (Got 63 base g gc gA bv cs' e l' r w)) (hK : e = 0 → ∀ w', RS0 base g gc gA bv cs' l' w0 w' → TKR w w' → K r w') (hE : e ≠ 0 → ∀ w', AB w' gA cs' → Below base w0 w' → TKR w0 w' → E (thrown e) w') : Then Try.prog f args w K E := by
  refine Calls.mono h ?_
  rintro x w' ⟨b, t, a, ⟨he, rfl, hr⟩ | ⟨he, rfl⟩⟩
  · exact .inl ⟨r, rfl, hK he w' ⟨hr, a, h0.2.2.1.trans b, h0.2.2.2.trans t⟩ t⟩
  · exact .inr ⟨_, rfl, hE he w' a (h0.2.2.1.trans b) (h0.2.2.2.trans t)⟩

theorem Then.gotT {base g gc gA : Nat} {bv : Value} {cs : Array Value} {cs' : Value → Array Value} {e : Int} {l l' t : List UInt8} {r : Value} {f : Nat} {args : Array Value} {w0 w : World} {K : Value → World → Prop} {E : List PanicEntry → World → Prop} (h0 : RS0 base g gc gA bv cs l w0 w)
    (h : Calls Try.prog f args w fun x w' => ∃ p c, Got 63 base g gc gA bv (cs' (.slice p t.length c)) e l' r w x w' ∧ HBN w' gc (.slice p t.length c) t) (hK : e = 0 → ∀ w' p c, RS0 base g gc gA bv (cs' (.slice p t.length c)) l' w0 w' → TKR w w' → HBN w' gc (.slice p t.length c) t → K r w') (hE : e ≠ 0 → ∀ w' v, AB w' gA (cs' v) → Below base w0 w' → TKR w0 w' → E (thrown e) w') : Then Try.prog f args w K E := by
  refine Calls.mono h ?_
  rintro x w' ⟨p, c, ⟨b, tt, a, ⟨he, rfl, hr⟩ | ⟨he, rfl⟩⟩, hn⟩
  · exact .inl ⟨r, rfl, hK he w' p c ⟨hr, a, h0.2.2.1.trans b, h0.2.2.2.trans tt⟩ tt hn⟩
  · exact .inr ⟨_, rfl, hE he w' _ a (h0.2.2.1.trans b) (h0.2.2.2.trans tt)⟩

/-- Some numbers. -/
theorem rnums_any (base g gc gA lb : Nat) (bv : Value) (cc : Array Value) (hc : base ≤ gc) (ha : base ≤ gA) (K : World → Prop) (E : List PanicEntry → World → Prop) (w0 : World) : ∀ (ns : List Nat) (l : List UInt8) (cs : Array Value) (w : World), RS0 base g gc gA bv cs l w0 w → (∀ i ∈ ns, i < cs.size) → w.heap[lb]? = some (.cells cc 51 (0, 0)) →
    ((numsF ns l cs).1 = 0 → ∀ w', RS0 base g gc gA bv (numsF ns l cs).2.2 (numsF ns l cs).2.1 w0 w' → TKR w w' → K w') → ((numsF ns l cs).1 ≠ 0 → ∀ w' cs', cs'.size = cs.size → AB w' gA cs' → Below base w0 w' → TKR w0 w' → E (thrown (numsF ns l cs).1) w') →
    NumsT 28 (.pointer (some ⟨g, 0, none⟩)) 2147483648 lb (.cells cc 51 (0, 0)) K E (ns.map fun i => ⟨gA, i, none⟩) w
  | [], l, cs, w, h, _, _, hK, _ => hK rfl w h (TKR.refl w)
  | i :: ns, l, cs, w, h, hi, ho, hK, hE => by
    have hlt := hi i (by simp)
    refine Then.got h (rnumberF_any 63 (by decide) (by decide) base g gc gA i bv _ cs l 2147483648 w h.1 h.2.1 (Array.getElem?_eq_getElem hlt) hc ha) ?_ ?_
    · intro he w' h' t
      have ho' := t lb _ _ _ ho (by decide) (by decide)
      have e0 : (numsF (i :: ns) l cs).1 = (numsF ns (uintF l 2147483648).2.2 (cs.setIfInBounds i (.int .i64 ((uintF l 2147483648).2.1 : Int)))).1 := andE_pos he
      refine ⟨ho', rnums_any base g gc gA lb bv cc hc ha K E w0 ns _ _ w' h' (fun j hj => by rw [Array.size_setIfInBounds]; exact hi j (by simp [hj])) ho' ?_ ?_⟩
      · intro h1 w2 h2 t2
        exact hK (by rw [e0]; exact h1) w2 h2 (t.trans t2)
      · intro h1 w2 cs2 h2 h3 h4 h5
        have := hE (by rw [e0]; exact h1) w2 cs2 (by rw [h2, Array.size_setIfInBounds]) h3 h4 h5
        rwa [e0] at this
    · intro he w' h1 h2 h3
      have e0 : (numsF (i :: ns) l cs).1 = (uintF l 2147483648).1 := andE_neg he
      have := hE (by rw [e0]; exact he) w' _ (by rw [Array.size_setIfInBounds]) h1 h2 h3
      rwa [e0] at this

theorem rshns (base g gc gA : Nat) (bv : Value) (hc : base ≤ gc) (ha : base ≤ gA) (K : World → Prop) (E : List PanicEntry → World → Prop) (w0 : World) (ns : List Nat) (l : List UInt8) (cs : Array Value) (w : World) (h : RS0 base g gc gA bv cs l w0 w) (hs : base ≤ w.heap.size) (hi : ∀ i ∈ ns, i < cs.size)
    (hK : (numsF ns l cs).1 = 0 → ∀ w', RS0 base g gc gA bv (numsF ns l cs).2.2 (numsF ns l cs).2.1 w0 w' → TKR w w' → K w') (hE : (numsF ns l cs).1 ≠ 0 → ∀ w' cs', cs'.size = cs.size → AB w' gA cs' → Below base w0 w' → TKR w0 w' → E (thrown (numsF ns l cs).1) w') :
    ShNs (showsR g) (ns.map fun i => ⟨gA, i, none⟩) 2147483648 w K E := by
  have bL := (Below.refl w.heap.size w).alloc (Nat.le_refl _) (.cells (ptrs (ns.map fun i => (⟨gA, i, none⟩ : Addr))).toArray 51 (0, 0))
  have h' : RS0 base g gc gA bv cs l w0 (w.alloc (.cells (ptrs (ns.map fun i => (⟨gA, i, none⟩ : Addr))).toArray 51 (0, 0))) := ⟨h.1.later bL, h.2.1.later bL, h.2.2.1.trans (bL.mono hs), h.2.2.2.trans (TKR.of_below bL)⟩
  exact rnums_any base g gc gA w.heap.size bv _ hc ha K E w0 ns l cs _ h' hi (heap_alloc_new w _) (fun h1 w' h2 t => hK h1 w' h2 ((TKR.of_below bL).trans t)) hE

/-- A request in memory. -/
def AskAt (w : World) (gA : Nat) (k : Int) (a : AP) : Prop := ∃ idv bav, AB w gA #[.int .i64 k, idv, .int .i64 (a.fr : Int), .int .i64 (a.to : Int), .int .i64 (a.ti : Int), .bool a.so, .int .i64 (a.ep : Int), .int .i64 (a.ix : Int), .int .i64 (a.li : Int), bav] ∧ HB w idv a.id ∧ BA w bav a.bs

theorem flagF_le (l : List UInt8) : (flagF l).2.2.length ≤ l.length := by
  cases l with
  | nil => simp [flagF]
  | cons x r =>
    unfold flagF
    simp only
    split <;> simp

/-- What through does with a reader. -/
def GotA (base g gA : Nat) (k : Int) (d : Int × List UInt8 × AP) (w : World) (x : Ending) (w' : World) : Prop :=
  Below base w w' ∧ TKQ w w' ∧ ((d.1 = 0 ∧ x = .returned (.bool true) ∧ (∃ gc v, RF 63 w' g gc v d.2.1 0) ∧ AskAt w' gA k d.2.2) ∨ (d.1 ≠ 0 ∧ x = .panicked (thrown d.1) ∧ ∃ cs, AB w' gA cs ∧ cs.size = 10))

theorem BA.nil (w : World) : BA w (.slice none 0 0) [] := ⟨none, 0, rfl, Nat.le_refl _, Nat.zero_le _, fun h => absurd rfl h⟩

theorem numsF_G (ns : List Nat) : ∀ (l : List UInt8) (cs : Array Value), (numsF ns l cs).1 = (numsG ns.length l).1 ∧ (numsF ns l cs).2.1 = (numsG ns.length l).2.1 := by
  induction ns with
  | nil => intro l cs; exact ⟨rfl, rfl⟩
  | cons i r ih => intro l cs; exact ⟨by show andE _ _ = andE _ _; rw [(ih _ _).1], (ih _ _).2⟩
theorem numsG_le : ∀ (n : Nat) (l : List UInt8), (numsG n l).2.1.length ≤ l.length
  | 0, _ => Nat.le_refl _
  | n + 1, l => Nat.le_trans (numsG_le n _) (uintF_le l 2147483648)

set_option maxRecDepth 100000 in
set_option maxHeartbeats 2000000 in
theorem tr1 (base g gc gA : Nat) (p : Option Addr) (n c : Nat) (l : List UInt8) (w : World) (h : RF 63 w g gc (.slice p n c) l 0) (hA : AB w gA #[.int .i64 1, .slice none 0 0, .int .i64 0, .int .i64 0, .int .i64 0, .bool false, .int .i64 0, .int .i64 0, .int .i64 0, .slice none 0 0]) (ha : base ≤ gA) (b : List UInt8) (hb : HB w (.slice p n c) b) (hl : l.length ≤ b.length) (hdr : b.drop (b.length - l.length) = l) (hsz : b.length ≤ 140737488351232) (hg : base ≤ g) :
    Calls Try.prog 17 #[.iface 64 (.pointer (some ⟨g, 0, none⟩)), .pointer (some ⟨gA, 0, none⟩)] w (GotA base g gA 1 (dec1 l) w) := by
  have hk : w.cell? ⟨gA, 0, none⟩ = some (.int .i64 1) := hA.cell rfl
  refine thru1 (showsR g) gA w _ hk ?_
  refine Calls.mono (rbatch_any base g gc gA p n c b l _ _ w.drew h (hb.later (Below.drew (Below.refl _ w))) hl hdr hsz hA rfl hg ha) ?_
  rintro x w1 ⟨b1, t1, ⟨he, rfl, hr, u, hu, hA1⟩ | ⟨he, rfl, hA1⟩⟩
  · exact .inl ⟨_, rfl, (Below.drew (Below.refl base w)).trans b1, t1, .inl ⟨he, rfl, hr, _, u, hA1, HB.nil _, hu⟩⟩
  · exact .inr ⟨_, rfl, (Below.drew (Below.refl base w)).trans b1, t1, .inr ⟨he, rfl, _, hA1, rfl⟩⟩

set_option maxRecDepth 100000 in
set_option maxHeartbeats 2000000 in
theorem tr2 (base g gc gA : Nat) (bv : Value) (l : List UInt8) (w : World) (h : RF 63 w g gc bv l 0) (hA : AB w gA #[.int .i64 2, .slice none 0 0, .int .i64 0, .int .i64 0, .int .i64 0, .bool false, .int .i64 0, .int .i64 0, .int .i64 0, .slice none 0 0]) (ha : base ≤ gA) (hc : base ≤ gc) :
    Calls Try.prog 17 #[.iface 64 (.pointer (some ⟨g, 0, none⟩)), .pointer (some ⟨gA, 0, none⟩)] w (GotA base g gA 2 (dec2 l) w) := by
  have hk : w.cell? ⟨gA, 0, none⟩ = some (.int .i64 2) := hA.cell rfl
  have q0 : RS0 base g gc gA bv #[.int .i64 2, .slice none 0 0, .int .i64 0, .int .i64 0, .int .i64 0, .bool false, .int .i64 0, .int .i64 0, .int .i64 0, .slice none 0 0] l w w.drew := ⟨h, hA, Below.drew (Below.refl base w), TKR.refl w⟩
  refine thru2 (showsR g) gA w _ hk ?_
  refine Then.got q0 (rnumberF_any 63 (by decide) (by decide) base g gc gA 4 bv _ _ _ 1125899906842624 w.drew q0.1 q0.2.1 rfl hc ha) ?_ ?_
  rotate_left
  · intro he1 w1 a1 b1 t1
    have eD : (dec2 l).1 = (uintF l 1125899906842624).1 := rfl
    rw [← eD] at he1 ⊢
    exact ⟨b1, TKQ.of_tkr t1, .inr ⟨he1, rfl, _, a1, rfl⟩⟩
  intro he1 w1 q1 t1
  have eD : (dec2 l).1 = 0 := he1
  exact ⟨q1.2.2.1, TKQ.of_tkr q1.2.2.2, .inl ⟨eD, rfl, ⟨gc, bv, q1.1⟩, _, _, q1.2.1, HB.nil _, BA.nil _⟩⟩

set_option maxRecDepth 100000 in
set_option maxHeartbeats 2000000 in
theorem tr3 (base g gc gA : Nat) (bv : Value) (l : List UInt8) (w : World) (h : RF 63 w g gc bv l 0) (hA : AB w gA #[.int .i64 3, .slice none 0 0, .int .i64 0, .int .i64 0, .int .i64 0, .bool false, .int .i64 0, .int .i64 0, .int .i64 0, .slice none 0 0]) (ha : base ≤ gA) (hc : base ≤ gc) (hlen : l.length ≤ 140737488355328) :
    Calls Try.prog 17 #[.iface 64 (.pointer (some ⟨g, 0, none⟩)), .pointer (some ⟨gA, 0, none⟩)] w (GotA base g gA 3 (dec3 l) w) := by
  have hk : w.cell? ⟨gA, 0, none⟩ = some (.int .i64 3) := hA.cell rfl
  have q0 : RS0 base g gc gA bv #[.int .i64 3, .slice none 0 0, .int .i64 0, .int .i64 0, .int .i64 0, .bool false, .int .i64 0, .int .i64 0, .int .i64 0, .slice none 0 0] l w w.drew := ⟨h, hA, Below.drew (Below.refl base w), TKR.refl w⟩
  refine thru3 (showsR g) gA w _ hk ?_
  refine Then.gotT q0 (cs' := fun z => (#[.int .i64 3, .slice none 0 0, .int .i64 0, .int .i64 0, .int .i64 0, .bool false, .int .i64 0, .int .i64 0, .int .i64 0, .slice none 0 0] : Array Value).setIfInBounds 1 z) (rtextF_any 63 (by decide) (by decide) base g gc gA 1 bv _ _ _ 24 w.drew q0.1 q0.2.1 rfl hc ha hlen) ?_ ?_
  rotate_left
  · intro he1 w1 v1 a1 b1 t1
    have eD : (dec3 l).1 = (bytesF l 24).1 := andE_neg he1
    rw [← eD] at he1 ⊢
    exact ⟨b1, TKQ.of_tkr t1, .inr ⟨he1, rfl, _, a1, rfl⟩⟩
  intro he1 w1 pt ct q1 t1 hn1
  refine Then.got q1.drew (rnumberF_any 63 (by decide) (by decide) base g gc gA 3 bv _ _ _ 2147483648 w1.drew q1.drew.1 q1.drew.2.1 rfl hc ha) ?_ ?_
  rotate_left
  · intro he2 w2 a2 b2 t2
    have eD : (dec3 l).1 = (uintF (bytesF l 24).2.2 2147483648).1 := (andE_pos he1).trans (rfl)
    rw [← eD] at he2 ⊢
    exact ⟨b2, TKQ.of_tkr t2, .inr ⟨he2, rfl, _, a2, rfl⟩⟩
  intro he2 w2 q2 t2
  have hn2 := hn1.tkr t2
  have eD : (dec3 l).1 = 0 := (andE_pos he1).trans (he2)
  exact ⟨q2.2.2.1, TKQ.of_tkr q2.2.2.2, .inl ⟨eD, rfl, ⟨gc, bv, q2.1⟩, _, _, q2.2.1, hn2.1, BA.nil _⟩⟩

set_option maxRecDepth 100000 in
set_option maxHeartbeats 2000000 in
theorem tr4 (base g gc gA : Nat) (bv : Value) (l : List UInt8) (w : World) (h : RF 63 w g gc bv l 0) (hA : AB w gA #[.int .i64 4, .slice none 0 0, .int .i64 0, .int .i64 0, .int .i64 0, .bool false, .int .i64 0, .int .i64 0, .int .i64 0, .slice none 0 0]) (ha : base ≤ gA) (hc : base ≤ gc) (hlen : l.length ≤ 140737488355328) :
    Calls Try.prog 17 #[.iface 64 (.pointer (some ⟨g, 0, none⟩)), .pointer (some ⟨gA, 0, none⟩)] w (GotA base g gA 4 (dec4 l) w) := by
  have hk : w.cell? ⟨gA, 0, none⟩ = some (.int .i64 4) := hA.cell rfl
  have q0 : RS0 base g gc gA bv #[.int .i64 4, .slice none 0 0, .int .i64 0, .int .i64 0, .int .i64 0, .bool false, .int .i64 0, .int .i64 0, .int .i64 0, .slice none 0 0] l w w.drew := ⟨h, hA, Below.drew (Below.refl base w), TKR.refl w⟩
  refine thru4 (showsR g) gA w _ hk ?_
  refine Then.gotT q0 (cs' := fun z => (#[.int .i64 4, .slice none 0 0, .int .i64 0, .int .i64 0, .int .i64 0, .bool false, .int .i64 0, .int .i64 0, .int .i64 0, .slice none 0 0] : Array Value).setIfInBounds 1 z) (rtextF_any 63 (by decide) (by decide) base g gc gA 1 bv _ _ _ 24 w.drew q0.1 q0.2.1 rfl hc ha hlen) ?_ ?_
  rotate_left
  · intro he1 w1 v1 a1 b1 t1
    have eD : (dec4 l).1 = (bytesF l 24).1 := andE_neg he1
    rw [← eD] at he1 ⊢
    exact ⟨b1, TKQ.of_tkr t1, .inr ⟨he1, rfl, _, a1, rfl⟩⟩
  intro he1 w1 pt ct q1 t1 hn1
  refine Then.got q1.drew (rnumberF_any 63 (by decide) (by decide) base g gc gA 4 bv _ _ _ 1125899906842624 w1.drew q1.drew.1 q1.drew.2.1 rfl hc ha) ?_ ?_
  rotate_left
  · intro he2 w2 a2 b2 t2
    have eD : (dec4 l).1 = (uintF (bytesF l 24).2.2 1125899906842624).1 := (andE_pos he1).trans (andE_neg he2)
    rw [← eD] at he2 ⊢
    exact ⟨b2, TKQ.of_tkr t2, .inr ⟨he2, rfl, _, a2, rfl⟩⟩
  intro he2 w2 q2 t2
  have hn2 := hn1.tkr t2
  refine Then.got q2.drew (rnumberF_any 63 (by decide) (by decide) base g gc gA 3 bv _ _ _ 2147483648 w2.drew q2.drew.1 q2.drew.2.1 rfl hc ha) ?_ ?_
  rotate_left
  · intro he3 w3 a3 b3 t3
    have eD : (dec4 l).1 = (uintF (uintF (bytesF l 24).2.2 1125899906842624).2.2 2147483648).1 := (andE_pos he1).trans ((andE_pos he2).trans (rfl))
    rw [← eD] at he3 ⊢
    exact ⟨b3, TKQ.of_tkr t3, .inr ⟨he3, rfl, _, a3, rfl⟩⟩
  intro he3 w3 q3 t3
  have hn3 := hn2.tkr t3
  have eD : (dec4 l).1 = 0 := (andE_pos he1).trans ((andE_pos he2).trans (he3))
  exact ⟨q3.2.2.1, TKQ.of_tkr q3.2.2.2, .inl ⟨eD, rfl, ⟨gc, bv, q3.1⟩, _, _, q3.2.1, hn3.1, BA.nil _⟩⟩

set_option maxRecDepth 100000 in
set_option maxHeartbeats 2000000 in
theorem tr5 (base g gc gA : Nat) (bv : Value) (l : List UInt8) (w : World) (h : RF 63 w g gc bv l 0) (hA : AB w gA #[.int .i64 5, .slice none 0 0, .int .i64 0, .int .i64 0, .int .i64 0, .bool false, .int .i64 0, .int .i64 0, .int .i64 0, .slice none 0 0]) (ha : base ≤ gA) (hc : base ≤ gc) (hs : base ≤ w.heap.size) (hlen : l.length ≤ 140737488355328) :
    Calls Try.prog 17 #[.iface 64 (.pointer (some ⟨g, 0, none⟩)), .pointer (some ⟨gA, 0, none⟩)] w (GotA base g gA 5 (dec5 l) w) := by
  have hk : w.cell? ⟨gA, 0, none⟩ = some (.int .i64 5) := hA.cell rfl
  have q0 : RS0 base g gc gA bv #[.int .i64 5, .slice none 0 0, .int .i64 0, .int .i64 0, .int .i64 0, .bool false, .int .i64 0, .int .i64 0, .int .i64 0, .slice none 0 0] l w w.drew := ⟨h, hA, Below.drew (Below.refl base w), TKR.refl w⟩
  refine thru5 (showsR g) gA w _ hk ?_
  refine Then.gotT q0 (cs' := fun z => (#[.int .i64 5, .slice none 0 0, .int .i64 0, .int .i64 0, .int .i64 0, .bool false, .int .i64 0, .int .i64 0, .int .i64 0, .slice none 0 0] : Array Value).setIfInBounds 1 z) (rtextF_any 63 (by decide) (by decide) base g gc gA 1 bv _ _ _ 24 w.drew q0.1 q0.2.1 rfl hc ha hlen) ?_ ?_
  rotate_left
  · intro he1 w1 v1 a1 b1 t1
    have eD : (dec5 l).1 = (bytesF l 24).1 := andE_neg he1
    rw [← eD] at he1 ⊢
    exact ⟨b1, TKQ.of_tkr t1, .inr ⟨he1, rfl, _, a1, rfl⟩⟩
  intro he1 w1 pt ct q1 t1 hn1
  refine rshns base g gc gA bv hc ha _ _ w [2, 3] _ _ w1.drew q1.drew (by have := q1.drew.2.2.1.size; omega) (by simp) ?_ ?_
  rotate_left
  · intro he2 w2 cs2 z2 a2 b2 t2
    rw [show (numsF [2, 3] (bytesF l 24).2.2 _).1 = (numsG 2 (bytesF l 24).2.2).1 from (numsF_G _ _ _).1] at he2 ⊢
    have eD : (dec5 l).1 = (numsG 2 (bytesF l 24).2.2).1 := (andE_pos he1).trans (rfl)
    rw [← eD] at he2 ⊢
    exact ⟨b2, TKQ.of_tkr t2, .inr ⟨he2, rfl, _, a2, z2⟩⟩
  intro he2 w2 q2 t2
  have q2 : RS0 base g gc gA bv #[.int .i64 5, .slice pt (bytesF l 24).2.1.length ct, .int .i64 ((uintF (bytesF l 24).2.2 2147483648).2.1 : Int), .int .i64 ((uintF (uintF (bytesF l 24).2.2 2147483648).2.2 2147483648).2.1 : Int), .int .i64 0, .bool false, .int .i64 0, .int .i64 0, .int .i64 0, .slice none 0 0] (numsG 2 (bytesF l 24).2.2).2.1 w w2 := q2
  rw [show (numsF [2, 3] (bytesF l 24).2.2 _).1 = (numsG 2 (bytesF l 24).2.2).1 from (numsF_G _ _ _).1] at he2
  have hn2 := hn1.tkr t2
  have eD : (dec5 l).1 = 0 := (andE_pos he1).trans (he2)
  exact ⟨q2.2.2.1, TKQ.of_tkr q2.2.2.2, .inl ⟨eD, rfl, ⟨gc, bv, q2.1⟩, _, _, q2.2.1, hn2.1, BA.nil _⟩⟩

set_option maxRecDepth 100000 in
set_option maxHeartbeats 2000000 in
theorem tr6a (base g gc gA : Nat) (bv : Value) (l : List UInt8) (w : World) (h : RF 63 w g gc bv l 0) (hA : AB w gA #[.int .i64 6, .slice none 0 0, .int .i64 0, .int .i64 0, .int .i64 0, .bool false, .int .i64 0, .int .i64 0, .int .i64 0, .slice none 0 0]) (ha : base ≤ gA) (hc : base ≤ gc) (hs : base ≤ w.heap.size) (hf : (flagF (numsG 2 l).2.1).2.1 = true) (hlen : l.length ≤ 140737488355328) :
    Calls Try.prog 17 #[.iface 64 (.pointer (some ⟨g, 0, none⟩)), .pointer (some ⟨gA, 0, none⟩)] w (GotA base g gA 6 (dec6a l) w) := by
  have hk : w.cell? ⟨gA, 0, none⟩ = some (.int .i64 6) := hA.cell rfl
  have q0 : RS0 base g gc gA bv #[.int .i64 6, .slice none 0 0, .int .i64 0, .int .i64 0, .int .i64 0, .bool false, .int .i64 0, .int .i64 0, .int .i64 0, .slice none 0 0] l w w.drew := ⟨h, hA, Below.drew (Below.refl base w), TKR.refl w⟩
  refine thru6 (showsR g) gA w _ hk ?_
  refine rshns base g gc gA bv hc ha _ _ w [2, 3] _ _ w.drew q0 (by have := q0.2.2.1.size; omega) (by simp) ?_ ?_
  rotate_left
  · intro he1 w1 cs1 z1 a1 b1 t1
    rw [show (numsF [2, 3] l _).1 = (numsG 2 l).1 from (numsF_G _ _ _).1] at he1 ⊢
    have eD : (dec6a l).1 = (numsG 2 l).1 := andE_neg he1
    rw [← eD] at he1 ⊢
    exact ⟨b1, TKQ.of_tkr t1, .inr ⟨he1, rfl, _, a1, z1⟩⟩
  intro he1 w1 q1 t1
  have q1 : RS0 base g gc gA bv #[.int .i64 6, .slice none 0 0, .int .i64 ((uintF l 2147483648).2.1 : Int), .int .i64 ((uintF (uintF l 2147483648).2.2 2147483648).2.1 : Int), .int .i64 0, .bool false, .int .i64 0, .int .i64 0, .int .i64 0, .slice none 0 0] (numsG 2 l).2.1 w w1 := q1
  rw [show (numsF [2, 3] l _).1 = (numsG 2 l).1 from (numsF_G _ _ _).1] at he1
  refine Then.got q1.drew (rflagF_any 63 (by decide) (by decide) base g gc gA 5 bv _ _ _ w1.drew q1.drew.1 q1.drew.2.1 rfl hc ha) ?_ ?_
  rotate_left
  · intro he2 w2 a2 b2 t2
    have eD : (dec6a l).1 = (flagF (numsG 2 l).2.1).1 := (andE_pos he1).trans (andE_neg he2)
    rw [← eD] at he2 ⊢
    exact ⟨b2, TKQ.of_tkr t2, .inr ⟨he2, rfl, _, a2, rfl⟩⟩
  intro he2 w2 q2 t2
  refine ⟨_, rfl, fun hfl => ?_, fun hfl => ?_⟩
  rotate_left
  · exact absurd (hf.symm.trans hfl) (by simp)
  refine Then.gotT q2.drew (cs' := fun z => (#[.int .i64 6, .slice none 0 0, .int .i64 ((uintF l 2147483648).2.1 : Int), .int .i64 ((uintF (uintF l 2147483648).2.2 2147483648).2.1 : Int), .int .i64 0, .bool (flagF (numsG 2 l).2.1).2.1, .int .i64 0, .int .i64 0, .int .i64 0, .slice none 0 0] : Array Value).setIfInBounds 1 z) (rtextF_any 63 (by decide) (by decide) base g gc gA 1 bv _ _ _ 24 w2.drew q2.drew.1 q2.drew.2.1 rfl hc ha (by have := numsG_le 2 l; have := flagF_le (numsG 2 l).2.1; omega)) ?_ ?_
  rotate_left
  · intro he3 w3 v3 a3 b3 t3
    have eD : (dec6a l).1 = (bytesF (flagF (numsG 2 l).2.1).2.2 24).1 := (andE_pos he1).trans ((andE_pos he2).trans (andE_neg he3))
    rw [← eD] at he3 ⊢
    exact ⟨b3, TKQ.of_tkr t3, .inr ⟨he3, rfl, _, a3, rfl⟩⟩
  intro he3 w3 pt ct q3 t3 hn3
  refine Then.got q3.drew (rnumberF_any 63 (by decide) (by decide) base g gc gA 8 bv _ _ _ 2147483648 w3.drew q3.drew.1 q3.drew.2.1 rfl hc ha) ?_ ?_
  rotate_left
  · intro he4 w4 a4 b4 t4
    have eD : (dec6a l).1 = (uintF (bytesF (flagF (numsG 2 l).2.1).2.2 24).2.2 2147483648).1 := (andE_pos he1).trans ((andE_pos he2).trans ((andE_pos he3).trans (rfl)))
    rw [← eD] at he4 ⊢
    exact ⟨b4, TKQ.of_tkr t4, .inr ⟨he4, rfl, _, a4, rfl⟩⟩
  intro he4 w4 q4 t4
  have hn4 := hn3.tkr t4
  have eD : (dec6a l).1 = 0 := (andE_pos he1).trans ((andE_pos he2).trans ((andE_pos he3).trans (he4)))
  exact ⟨q4.2.2.1, TKQ.of_tkr q4.2.2.2, .inl ⟨eD, rfl, ⟨gc, bv, q4.1⟩, _, _, q4.2.1, hn4.1, BA.nil _⟩⟩

set_option maxRecDepth 100000 in
set_option maxHeartbeats 2000000 in
theorem tr6b (base g gc gA : Nat) (bv : Value) (l : List UInt8) (w : World) (h : RF 63 w g gc bv l 0) (hA : AB w gA #[.int .i64 6, .slice none 0 0, .int .i64 0, .int .i64 0, .int .i64 0, .bool false, .int .i64 0, .int .i64 0, .int .i64 0, .slice none 0 0]) (ha : base ≤ gA) (hc : base ≤ gc) (hs : base ≤ w.heap.size) (hf : (flagF (numsG 2 l).2.1).2.1 = false) :
    Calls Try.prog 17 #[.iface 64 (.pointer (some ⟨g, 0, none⟩)), .pointer (some ⟨gA, 0, none⟩)] w (GotA base g gA 6 (dec6b l) w) := by
  have hk : w.cell? ⟨gA, 0, none⟩ = some (.int .i64 6) := hA.cell rfl
  have q0 : RS0 base g gc gA bv #[.int .i64 6, .slice none 0 0, .int .i64 0, .int .i64 0, .int .i64 0, .bool false, .int .i64 0, .int .i64 0, .int .i64 0, .slice none 0 0] l w w.drew := ⟨h, hA, Below.drew (Below.refl base w), TKR.refl w⟩
  refine thru6 (showsR g) gA w _ hk ?_
  refine rshns base g gc gA bv hc ha _ _ w [2, 3] _ _ w.drew q0 (by have := q0.2.2.1.size; omega) (by simp) ?_ ?_
  rotate_left
  · intro he1 w1 cs1 z1 a1 b1 t1
    rw [show (numsF [2, 3] l _).1 = (numsG 2 l).1 from (numsF_G _ _ _).1] at he1 ⊢
    have eD : (dec6b l).1 = (numsG 2 l).1 := andE_neg he1
    rw [← eD] at he1 ⊢
    exact ⟨b1, TKQ.of_tkr t1, .inr ⟨he1, rfl, _, a1, z1⟩⟩
  intro he1 w1 q1 t1
  have q1 : RS0 base g gc gA bv #[.int .i64 6, .slice none 0 0, .int .i64 ((uintF l 2147483648).2.1 : Int), .int .i64 ((uintF (uintF l 2147483648).2.2 2147483648).2.1 : Int), .int .i64 0, .bool false, .int .i64 0, .int .i64 0, .int .i64 0, .slice none 0 0] (numsG 2 l).2.1 w w1 := q1
  rw [show (numsF [2, 3] l _).1 = (numsG 2 l).1 from (numsF_G _ _ _).1] at he1
  refine Then.got q1.drew (rflagF_any 63 (by decide) (by decide) base g gc gA 5 bv _ _ _ w1.drew q1.drew.1 q1.drew.2.1 rfl hc ha) ?_ ?_
  rotate_left
  · intro he2 w2 a2 b2 t2
    have eD : (dec6b l).1 = (flagF (numsG 2 l).2.1).1 := (andE_pos he1).trans (andE_neg he2)
    rw [← eD] at he2 ⊢
    exact ⟨b2, TKQ.of_tkr t2, .inr ⟨he2, rfl, _, a2, rfl⟩⟩
  intro he2 w2 q2 t2
  refine ⟨_, rfl, fun hfl => ?_, fun hfl => ?_⟩
  · exact absurd (hf.symm.trans hfl) (by simp)
  refine Then.got q2.drew (rnumberF_any 63 (by decide) (by decide) base g gc gA 8 bv _ _ _ 2147483648 w2.drew q2.drew.1 q2.drew.2.1 rfl hc ha) ?_ ?_
  rotate_left
  · intro he3 w3 a3 b3 t3
    have eD : (dec6b l).1 = (uintF (flagF (numsG 2 l).2.1).2.2 2147483648).1 := (andE_pos he1).trans ((andE_pos he2).trans (rfl))
    rw [← eD] at he3 ⊢
    exact ⟨b3, TKQ.of_tkr t3, .inr ⟨he3, rfl, _, a3, rfl⟩⟩
  intro he3 w3 q3 t3
  have eD : (dec6b l).1 = 0 := (andE_pos he1).trans ((andE_pos he2).trans (he3))
  exact ⟨q3.2.2.1, TKQ.of_tkr q3.2.2.2, .inl ⟨eD, rfl, ⟨gc, bv, q3.1⟩, _, _, q3.2.1, HB.nil _, BA.nil _⟩⟩

set_option maxRecDepth 100000 in
set_option maxHeartbeats 2000000 in
theorem tr7 (base g gc gA : Nat) (bv : Value) (l : List UInt8) (w : World) (h : RF 63 w g gc bv l 0) (hA : AB w gA #[.int .i64 7, .slice none 0 0, .int .i64 0, .int .i64 0, .int .i64 0, .bool false, .int .i64 0, .int .i64 0, .int .i64 0, .slice none 0 0]) (ha : base ≤ gA) (hc : base ≤ gc) (hs : base ≤ w.heap.size) :
    Calls Try.prog 17 #[.iface 64 (.pointer (some ⟨g, 0, none⟩)), .pointer (some ⟨gA, 0, none⟩)] w (GotA base g gA 7 (dec7 l) w) := by
  have hk : w.cell? ⟨gA, 0, none⟩ = some (.int .i64 7) := hA.cell rfl
  have q0 : RS0 base g gc gA bv #[.int .i64 7, .slice none 0 0, .int .i64 0, .int .i64 0, .int .i64 0, .bool false, .int .i64 0, .int .i64 0, .int .i64 0, .slice none 0 0] l w w.drew := ⟨h, hA, Below.drew (Below.refl base w), TKR.refl w⟩
  refine thru7 (showsR g) gA w _ hk ?_
  refine rshns base g gc gA bv hc ha _ _ w [2, 3, 6, 7, 8] _ _ w.drew q0 (by have := q0.2.2.1.size; omega) (by simp) ?_ ?_
  rotate_left
  · intro he1 w1 cs1 z1 a1 b1 t1
    rw [show (numsF [2, 3, 6, 7, 8] l _).1 = (numsG 5 l).1 from (numsF_G _ _ _).1] at he1 ⊢
    have eD : (dec7 l).1 = (numsG 5 l).1 := rfl
    rw [← eD] at he1 ⊢
    exact ⟨b1, TKQ.of_tkr t1, .inr ⟨he1, rfl, _, a1, z1⟩⟩
  intro he1 w1 q1 t1
  have q1 : RS0 base g gc gA bv #[.int .i64 7, .slice none 0 0, .int .i64 ((uintF l 2147483648).2.1 : Int), .int .i64 ((uintF (uintF l 2147483648).2.2 2147483648).2.1 : Int), .int .i64 0, .bool false, .int .i64 ((uintF (uintF (uintF l 2147483648).2.2 2147483648).2.2 2147483648).2.1 : Int), .int .i64 ((uintF (uintF (uintF (uintF l 2147483648).2.2 2147483648).2.2 2147483648).2.2 2147483648).2.1 : Int), .int .i64 ((uintF (uintF (uintF (uintF (uintF l 2147483648).2.2 2147483648).2.2 2147483648).2.2 2147483648).2.2 2147483648).2.1 : Int), .slice none 0 0] (numsG 5 l).2.1 w w1 := q1
  rw [show (numsF [2, 3, 6, 7, 8] l _).1 = (numsG 5 l).1 from (numsF_G _ _ _).1] at he1
  have eD : (dec7 l).1 = 0 := he1
  exact ⟨q1.2.2.1, TKQ.of_tkr q1.2.2.2, .inl ⟨eD, rfl, ⟨gc, bv, q1.1⟩, _, _, q1.2.1, HB.nil _, BA.nil _⟩⟩

set_option maxRecDepth 100000 in
set_option maxHeartbeats 2000000 in
theorem tr10 (base g gc gA : Nat) (bv : Value) (l : List UInt8) (w : World) (h : RF 63 w g gc bv l 0) (hA : AB w gA #[.int .i64 10, .slice none 0 0, .int .i64 0, .int .i64 0, .int .i64 0, .bool false, .int .i64 0, .int .i64 0, .int .i64 0, .slice none 0 0]) (ha : base ≤ gA) (hc : base ≤ gc) (hs : base ≤ w.heap.size) (hlen : l.length ≤ 140737488355328) :
    Calls Try.prog 17 #[.iface 64 (.pointer (some ⟨g, 0, none⟩)), .pointer (some ⟨gA, 0, none⟩)] w (GotA base g gA 10 (dec10 l) w) := by
  have hk : w.cell? ⟨gA, 0, none⟩ = some (.int .i64 10) := hA.cell rfl
  have q0 : RS0 base g gc gA bv #[.int .i64 10, .slice none 0 0, .int .i64 0, .int .i64 0, .int .i64 0, .bool false, .int .i64 0, .int .i64 0, .int .i64 0, .slice none 0 0] l w w.drew := ⟨h, hA, Below.drew (Below.refl base w), TKR.refl w⟩
  refine thru10 (showsR g) gA w _ hk ?_
  refine Then.gotT q0 (cs' := fun z => (#[.int .i64 10, .slice none 0 0, .int .i64 0, .int .i64 0, .int .i64 0, .bool false, .int .i64 0, .int .i64 0, .int .i64 0, .slice none 0 0] : Array Value).setIfInBounds 1 z) (rtextF_any 63 (by decide) (by decide) base g gc gA 1 bv _ _ _ 24 w.drew q0.1 q0.2.1 rfl hc ha hlen) ?_ ?_
  rotate_left
  · intro he1 w1 v1 a1 b1 t1
    have eD : (dec10 l).1 = (bytesF l 24).1 := andE_neg he1
    rw [← eD] at he1 ⊢
    exact ⟨b1, TKQ.of_tkr t1, .inr ⟨he1, rfl, _, a1, rfl⟩⟩
  intro he1 w1 pt ct q1 t1 hn1
  refine rshns base g gc gA bv hc ha _ _ w [2, 3, 8] _ _ w1.drew q1.drew (by have := q1.drew.2.2.1.size; omega) (by simp) ?_ ?_
  rotate_left
  · intro he2 w2 cs2 z2 a2 b2 t2
    rw [show (numsF [2, 3, 8] (bytesF l 24).2.2 _).1 = (numsG 3 (bytesF l 24).2.2).1 from (numsF_G _ _ _).1] at he2 ⊢
    have eD : (dec10 l).1 = (numsG 3 (bytesF l 24).2.2).1 := (andE_pos he1).trans (rfl)
    rw [← eD] at he2 ⊢
    exact ⟨b2, TKQ.of_tkr t2, .inr ⟨he2, rfl, _, a2, z2⟩⟩
  intro he2 w2 q2 t2
  have q2 : RS0 base g gc gA bv #[.int .i64 10, .slice pt (bytesF l 24).2.1.length ct, .int .i64 ((uintF (bytesF l 24).2.2 2147483648).2.1 : Int), .int .i64 ((uintF (uintF (bytesF l 24).2.2 2147483648).2.2 2147483648).2.1 : Int), .int .i64 0, .bool false, .int .i64 0, .int .i64 0, .int .i64 ((uintF (uintF (uintF (bytesF l 24).2.2 2147483648).2.2 2147483648).2.2 2147483648).2.1 : Int), .slice none 0 0] (numsG 3 (bytesF l 24).2.2).2.1 w w2 := q2
  rw [show (numsF [2, 3, 8] (bytesF l 24).2.2 _).1 = (numsG 3 (bytesF l 24).2.2).1 from (numsF_G _ _ _).1] at he2
  have hn2 := hn1.tkr t2
  have eD : (dec10 l).1 = 0 := (andE_pos he1).trans (he2)
  exact ⟨q2.2.2.1, TKQ.of_tkr q2.2.2.2, .inl ⟨eD, rfl, ⟨gc, bv, q2.1⟩, _, _, q2.2.1, hn2.1, BA.nil _⟩⟩

end Go.Proofs.Ythkgbgkijdeaoaa
