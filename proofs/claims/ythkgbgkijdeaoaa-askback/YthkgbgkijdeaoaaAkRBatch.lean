/- What this text proves: the walks of fields.Reader's GoOn and of ask's reader's batch over this program. -/
import Derived.Test.YthkgbgkijdeaoaaFlOpen
import Derived.Test.YthkgbgkijdeaoaaCReadK
namespace Go.Proofs.Ythkgbgkijdeaoaa
open Go.RowKit

set_option maxRecDepth 100000 in
set_option maxHeartbeats 1000000 in
theorem goon_ok (g : Nat) (x y v : Value) (l : List UInt8) (w : World) (h : w.heap[g]? = some (.cells #[x, y] 63 (0, 0))) (hv : HB w v l) (hsz : l.length ≤ 140737488355328) :
    Calls Try.prog 93 #[.pointer (some ⟨g, 0, none⟩), v, .int .i64 0] w fun e w' => e = .returned (.tuple #[]) ∧ ∃ gc, RF 63 w' g gc v l 0 ∧ Only g w w' ∧ w.heap.size ≤ gc := by
  have H := throw_none w
  have hO := flopen_any v l w hv hsz
  obtain ⟨p, c, rfl⟩ := hv.shape
  go_enter Try.func93, Try.ntmps93
  go_wp2_with fail
  refine H.mono ?_
  rintro e w1 ⟨rfl, rfl⟩
  clear H
  go_wp2_with fail
  refine hO.mono ?_
  rintro e w2 ⟨gc, hg, rfl, hr, hb⟩
  have h2 := (hb.block g (Array.getElem?_eq_some_iff.1 h).1).trans h
  have hlt := (Array.getElem?_eq_some_iff.1 h).1
  clear hO h hv
  have c0 : w2.cell? ⟨g, 0, none⟩ = some x := by rw [cell_of_row _ _ _ _ _ _ h2]; rfl
  have c1 : w2.cell? ⟨g, 1, none⟩ = some y := by rw [cell_of_row _ _ _ _ _ _ h2]; rfl
  have f0 : ∀ i, w2.frozen? ⟨g, i, none⟩ = false := fun i => by simp [World.frozen?, h2]
  have g0 := f0 0
  have g1 := f0 1
  have ho : Only g w2 ((w2.setCell ⟨g, 0, none⟩ (.slice p l.length c)).setCell ⟨g, 1, none⟩ (.pointer (some ⟨gc, 0, none⟩))) := ((Only.refl _ w2).setCell _ _).setCell _ _
  have t : TK 63 w2 _ := TK.of_only ho h2
  have hr2 := hr.tk t (by decide) (by decide)
  have h3 : (w2.setCell ⟨g, 0, none⟩ (.slice p l.length c)).heap[g]? = some (.cells #[.slice p l.length c, y] 63 (0, 0)) := by rw [heap_setCell_same w2 g 0 _ _ _ h2]; rfl
  have h4 : ((w2.setCell ⟨g, 0, none⟩ (.slice p l.length c)).setCell ⟨g, 1, none⟩ (.pointer (some ⟨gc, 0, none⟩))).heap[g]? = some (.cells #[.slice p l.length c, .pointer (some ⟨gc, 0, none⟩)] 63 (0, 0)) := by rw [heap_setCell_same _ g 1 _ _ _ h3]; rfl
  have ho2 : Only g w1 _ := (Only.of_below hb (by omega)).trans ho
  clear f0 hr h2 h3
  go_wp2
  go_end0
  exact ⟨rfl, gc, ⟨h4, hr2⟩, ho2, hg⟩

set_option maxRecDepth 100000 in
set_option maxHeartbeats 1000000 in
theorem goon_bad (e : Int) (he : e ≠ 0) (u v : Value) (w : World) :
    Calls Try.prog 93 #[u, v, .int .i64 e] w fun x w' => x = .panicked (thrown e) ∧ w' = w := by
  have H := throw_some e he w
  go_enter Try.func93, Try.ntmps93
  go_wp2_with fail
  refine H.mono ?_
  rintro x w1 ⟨rfl, rfl⟩
  go_wp2
  exact ⟨rfl, rfl, rfl⟩

theorem par_cellsA {w : World} {g : Nat} {v0 v1 v2 v3 v4 v5 v6 v7 : Value} {T : TypeId} (h : w.heap[g]? = some (.cells #[v0, v1, v2, v3, v4, v5, v6, v7] T (0, 0))) :
    w.cell? ⟨g, 0, none⟩ = some v0 ∧ w.cell? ⟨g, 1, none⟩ = some v1 ∧ w.cell? ⟨g, 2, none⟩ = some v2 ∧ w.cell? ⟨g, 3, none⟩ = some v3 ∧ w.cell? ⟨g, 4, none⟩ = some v4 ∧ w.cell? ⟨g, 5, none⟩ = some v5 ∧ w.cell? ⟨g, 6, none⟩ = some v6 ∧ w.cell? ⟨g, 7, none⟩ = some v7 := by
  refine ⟨?_, ?_, ?_, ?_, ?_, ?_, ?_, ?_⟩ <;> (rw [cell_of_row _ _ _ _ _ _ h]; rfl)

/-- Blocks of other types than a reader's, a codec's reader's and a request's stay. -/
def TKQ (w w' : World) : Prop := ∀ (k : Nat) cur t fr, w.heap[k]? = some (.cells cur t fr) → t ≠ 63 → t ≠ 106 → t ≠ 25 → w'.heap[k]? = some (.cells cur t fr)
theorem TKQ.of_below {w w' : World} (hb : Below w.heap.size w w') : TKQ w w' := fun k _ _ _ hk _ _ _ => (hb.block k (Array.getElem?_eq_some_iff.1 hk).1).trans hk
theorem TKQ.trans {a b c : World} (h : TKQ a b) (k : TKQ b c) : TKQ a c := fun i cur t fr hi h0 h1 h2 => k i cur t fr (h i cur t fr hi h0 h1 h2) h0 h1 h2
theorem TKQ.of_tkr {w w' : World} (h : TKR w w') : TKQ w w' := fun k cur t fr hk _ h1 h2 => h k cur t fr hk h1 h2
theorem TKQ.of_tk {w w' : World} (h : TK 63 w w') : TKQ w w' := fun k cur t fr hk h0 _ _ => h k cur t fr hk h0

/-- What the reader's batch does. -/
def GotB (base g gA : Nat) (cs : Array Value) (e : Int) (bs : List (List UInt8 × List UInt8)) (l : List UInt8) (w : World) (x : Ending) (w' : World) : Prop :=
  Below base w w' ∧ TKQ w w' ∧ ((e = 0 ∧ x = .returned (.tuple #[]) ∧ (∃ gc v, RF 63 w' g gc v l 0) ∧ ∃ u, BA w' u bs ∧ AB w' gA (cs.setIfInBounds 9 u)) ∨ (e ≠ 0 ∧ x = .panicked (thrown e) ∧ AB w' gA cs))

theorem crS_le (mi mk : Int) (b : List UInt8) : (crS mi mk b).2.1.length ≤ b.length ∧ (crS mi mk b).1.length ≤ 32 := by
  have l1 : (crU b).2.2.length ≤ b.length := rdU_le b 0 32
  have m1 : ((crU b).2.1 : Int) ≤ 32 := rdU_most b 0 32 (by omega)
  have l2 := bdS_le mi mk (crU b).2.2 (crU b).1 (crU b).2.1
  have l3 := bdS_len mi mk (crU b).2.2 (crU b).1 (crU b).2.1
  unfold crS
  omega

set_option maxRecDepth 100000 in
set_option maxHeartbeats 4000000 in
theorem rbatch_any (base g gc gA : Nat) (p : Option Addr) (n c : Nat) (b l : List UInt8) (v9 : Value) (cs : Array Value) (w : World) (h : RF 63 w g gc (.slice p n c) l 0) (hb : HB w (.slice p n c) b) (hl : l.length ≤ b.length) (hdr : b.drop (b.length - l.length) = l) (hsz : b.length ≤ 140737488351232)
    (hA : AB w gA cs) (h9 : cs[9]? = some v9) (hg : base ≤ g) (ha : base ≤ gA) :
    Calls Try.prog 89 #[.pointer (some ⟨g, 0, none⟩), .pointer (some ⟨gA, 9, none⟩)] w (GotB base g gA cs (crS 24 48 l).2.2 (crS 24 48 l).1 (crS 24 48 l).2.1 w) := by
  have ltg : g < w.heap.size := (Array.getElem?_eq_some_iff.1 h.1).1
  have bA := (Below.refl w.heap.size w).alloc (Nat.le_refl _) (.cells #[.int .i64 0, .int .i64 0, .int .i64 24, .int .i64 48, .int .i64 0, .int .i64 0, .int .i64 0, .int .i64 0] 73)
  have aA := heap_alloc_new w (.cells #[.int .i64 0, .int .i64 0, .int .i64 24, .int .i64 48, .int .i64 0, .int .i64 0, .int .i64 0, .int .i64 0] 73)
  obtain ⟨wA, hWA⟩ : ∃ x, x = w.alloc (.cells #[.int .i64 0, .int .i64 0, .int .i64 24, .int .i64 48, .int .i64 0, .int .i64 0, .int .i64 0, .int .i64 0] 73) := ⟨_, rfl⟩
  have HWA : Hid (wA = w.alloc (.cells #[.int .i64 0, .int .i64 0, .int .i64 24, .int .i64 48, .int .i64 0, .int .i64 0, .int .i64 0, .int .i64 0] 73)) := hWA
  rw [← hWA] at bA aA
  have hr := h.later bA
  have hbA := hb.later bA
  have hL := flleft_any 63 g gc p n c b l wA.drew hr hbA hl
  have hlsz : l.length ≤ 140737488351232 := by omega
  rw [hdr] at hL
  have hS := par_cellsA aA
  have hSd := par_cellsA (w := wA.drew) aA
  have hx0 := h.1
  rw [hWA] at hL hS hSd
  clear hWA hb hbA hr hdr
  obtain ⟨R, hR⟩ : ∃ R, R = GotB base g gA cs (crS 24 48 l).2.2 (crS 24 48 l).1 (crS 24 48 l).2.1 w := ⟨_, rfl⟩
  have HR : Hid (R = GotB base g gA cs (crS 24 48 l).2.2 (crS 24 48 l).1 (crS 24 48 l).2.1 w) := hR
  rw [← hR]
  clear hR
  go_enter Try.func89, Try.ntmps89
  go_wp2
  go_region_held3 (fun w' => w'.cell? ⟨w.heap.size, 0, none⟩ = some (.int .i64 0) ∧ w'.cell? ⟨w.heap.size, 1, none⟩ = some (.int .i64 0) ∧ w'.cell? ⟨w.heap.size, 2, none⟩ = some (.int .i64 24) ∧ w'.cell? ⟨w.heap.size, 3, none⟩ = some (.int .i64 48) ∧ w'.cell? ⟨w.heap.size, 4, none⟩ = some (.int .i64 0) ∧ w'.cell? ⟨w.heap.size, 5, none⟩ = some (.int .i64 0) ∧ w'.cell? ⟨w.heap.size, 6, none⟩ = some (.int .i64 0) ∧ w'.cell? ⟨w.heap.size, 7, none⟩ = some (.int .i64 0)) (first | with_reducible exact hS | with_reducible exact hSd | with_reducible exact hS1 | with_reducible exact hS2) (first
    | (go_at_call 92; refine hL.mono ?_; rintro e w1 ⟨v, rfl, hv, hb1⟩; rw [← HWA.out] at hb1; have hb1' := (Below.drew (Below.refl wA.heap.size wA)).trans hb1; have a1 := (hb1'.block _ (Array.getElem?_eq_some_iff.1 aA).1).trans aA; have hS1 := par_cellsA a1; have hC := creadK_any 0 0 24 48 0 0 0 0 v l w1 hv hlsz)
    | (go_at_call 91; refine hC.mono ?_; rintro e w2 ⟨u, v2, rfl, hu, hv2, hb2, hx2⟩; have a2 := (hb2.block _ (Array.getElem?_eq_some_iff.1 a1).1).trans a1; have hS2 := par_cellsA a2))
  have b02 : Below w.heap.size w w2 := bA.trans ((hb1'.trans (hb2.mono hb1'.size)).mono bA.size)
  have hg2 := (b02.block g ltg).trans hx0
  have hA2 := hA.later b02
  obtain ⟨q2, m2, d2, rfl⟩ : ∃ q2 m2 d2, v2 = .slice q2 m2 d2 := by obtain ⟨q, d, e⟩ := hv2.shape; exact ⟨_, _, _, e⟩
  have bs2 := b02.mono (Nat.le_trans hg (Nat.le_of_lt ltg))
  have cl := crS_le 24 48 l
  clear HWA bA aA hL hS hSd hC hS1 hS2 a1 a2 hb1 hb1' hv hb2 h hA hx0
  generalize (crS 24 48 l).2.2 = e at *
  generalize (crS 24 48 l).2.1 = l2 at *
  generalize (crS 24 48 l).1 = bs at *
  by_cases he : e = 0
  · subst he
    obtain ⟨g0, gR, rfl, br, _⟩ := hx2 rfl
    rw [if_pos rfl] at hv2 hu
    clear hx2
    have H := goon_ok g _ _ _ l2 w2 hg2 hv2 (by omega)
    go_wp2_with fail
    refine H.mono ?_
    rintro x w3 ⟨rfl, gc3, hr3, ho, hgc⟩
    have t3 : TK 63 w2 w3 := TK.of_only ho hg2
    have hA3 : AB w3 gA cs := t3 _ _ _ _ hA2 (by decide)
    have br3 := br.tk t3 (by decide) (by decide)
    have c9 := hA3.cell h9
    have f9 := hA3.free 9
    have b3 := bs2.trans (ho.below hg)
    have hr4 := hr3.put (by decide) (i := 9) hA3 (.slice (some ⟨gR, 0, none⟩) bs.length bs.length)
    have hA4 := hA3.put 9 (.slice (some ⟨gR, 0, none⟩) bs.length bs.length)
    have t4 : TK 25 w3 (w3.setCell ⟨gA, 9, none⟩ (.slice (some ⟨gR, 0, none⟩) bs.length bs.length)) := TK.of_only ((Only.refl gA w3).setCell 9 _) hA3
    have br4 := br3.tk t4 (by decide) (by decide)
    have b4 := b3.setCell (p := ⟨gA, 9, none⟩) ha (.slice (some ⟨gR, 0, none⟩) bs.length bs.length)
    have k4 : TKQ w _ := ((TKQ.of_below b02).trans (TKQ.of_tk t3)).trans (TKQ.of_tkr (TKR.put (i := 9) hA3 (.slice (some ⟨gR, 0, none⟩) bs.length bs.length)))
    have hba := br4.ba rfl (by have := cl.2; omega)
    clear H hr3 br br3 br4 hA3 t3 t4 hu hv2
    go_wp2
    go_end0
    rw [HR.out]
    exact ⟨b4, k4, .inl ⟨rfl, rfl, ⟨gc3, _, hr4⟩, _, hba, hA4⟩⟩
  · have H := goon_bad e he (.pointer (some ⟨g, 0, none⟩)) (.slice q2 m2 d2) w2
    go_wp2_with fail
    refine H.mono ?_
    rintro x w3 ⟨rfl, rfl⟩
    go_wp2
    refine ⟨rfl, ?_⟩
    rw [HR.out]
    exact ⟨bs2, TKQ.of_below b02, .inr ⟨he, rfl, hA2⟩⟩

end Go.Proofs.Ythkgbgkijdeaoaa
