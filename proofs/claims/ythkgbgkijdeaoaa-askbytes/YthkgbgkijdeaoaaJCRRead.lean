/- What this text proves: the walk of annalsref12.Read over this program: the batch that bytes begin with, and what is left, or the error. -/
import Derived.Test.YthkgbgkijdeaoaaJCRead
import Derived.Test.YthkgbgkijdeaoaaJX1
namespace Go.Proofs.Ythkgbgkijdeaoaa
open Go.RowKit

theorem XR.tk {T : TypeId} {g : Nat} {w w' : World} {l : List UInt8} {e : Int} (h : XR w g l e) (t : TK T w w') (hT : 5 ≠ T) (hR : 68 ≠ T) : XR w' g l e := by
  obtain ⟨p, c, h1, h2⟩ := h
  exact ⟨p, c, t g _ _ _ h1 hR, h2.tk t hT⟩
theorem XR.typed {g : Nat} {w : World} {l : List UInt8} {e : Int} (h : XR w g l e) : ∃ cs f, w.heap[g]? = some (.cells cs 68 f) := by
  obtain ⟨p, c, h1, h2⟩ := h
  exact ⟨_, _, h1⟩

theorem xuint_all (g : Nat) (l : List UInt8) (e most : Int) (w : World) (h : XR w g l e) (he : e ≠ 0 → l = []) (hsz : l.length ≤ 140737488355328) : Calls Try.prog 31 #[.pointer (some ⟨g, 0, none⟩), .int .i64 most] w fun x w' => x = .returned (.int .i64 ((rdU l e most).2.1 : Int)) ∧ XR w' g (rdU l e most).2.2 (rdU l e most).1 ∧ Only g w w' := by
  unfold rdU
  by_cases h0 : e = 0
  · subst h0
    rw [if_pos rfl]
    exact xuint_any g l most w h hsz
  · rw [if_neg h0]
    obtain rfl := he h0
    refine (xuint_stays g e most w h h0).mono ?_
    rintro x w' ⟨rfl, rfl⟩
    exact ⟨rfl, h, Only.refl _ _⟩

theorem xbytes_all (g : Nat) (l : List UInt8) (e most : Int) (w : World) (h : XR w g l e) (he : e ≠ 0 → l = []) (hsz : l.length ≤ 140737488355328) : Calls Try.prog 50 #[.pointer (some ⟨g, 0, none⟩), .int .i64 most] w fun x w' => ∃ v, x = .returned v ∧ ∃ p c, v = .slice p (rdB l e most).2.1.length c ∧ HBN w' g (.slice p (rdB l e most).2.1.length c) (rdB l e most).2.1 ∧ XR w' g (rdB l e most).2.2 (rdB l e most).1 ∧ Only g w w' := by
  unfold rdB
  by_cases h0 : e = 0
  · subst h0
    rw [if_pos rfl]
    exact (xbytes_any g l most w h hsz).mono fun x w' ⟨p, c, h1, h2, h3, h4⟩ => ⟨_, h1, p, c, rfl, h2, h3, h4⟩
  · rw [if_neg h0]
    obtain rfl := he h0
    refine (xbytes_stays g e most w h h0).mono ?_
    rintro x w' ⟨rfl, rfl⟩
    exact ⟨_, rfl, none, 0, rfl, HBN.nil _ _, h, Only.refl _ _⟩

theorem bytesF_fell (l : List UInt8) (most : Int) (h : (bytesF l most).1 ≠ 0) : (bytesF l most).2.2 = [] := by
  unfold bytesF at h ⊢
  dsimp only at h ⊢
  split
  · rfl
  · split
    · rfl
    · rename_i h1 h2
      rw [if_neg h1, if_neg h2] at h
      exact absurd rfl h
theorem rdU_fellX (l : List UInt8) (e most : Int) (he : e ≠ 0 → l = []) : (rdU l e most).1 ≠ 0 → (rdU l e most).2.2 = [] := by
  unfold rdU
  split
  · intro h; rw [uintF_fell l most h]
  · rename_i h; intro _; exact he h
theorem rdB_fell (l : List UInt8) (e most : Int) (he : e ≠ 0 → l = []) : (rdB l e most).1 ≠ 0 → (rdB l e most).2.2 = [] := by
  unfold rdB
  split
  · exact bytesF_fell l most
  · rename_i h; intro _; exact he h
theorem bdS_fell (mi mk : Int) (l : List UInt8) (e : Int) (he : e ≠ 0 → l = []) (k : Nat) : (bdS mi mk l e k).2.2 ≠ 0 → (bdS mi mk l e k).2.1 = [] := by
  induction k with
  | zero => exact he
  | succ k ih => exact rdB_fell _ _ _ (rdB_fell _ _ _ ih)

/-- A row of bindings that the call owns, none of their bytes in block g. -/
def RBx (w : World) (base g : Nat) (y : Value) (ps : List (List UInt8 × List UInt8)) : Prop :=
  ∃ vs : List Value, w.ownsRow base 92 2 y ps.length vs ∧ ∀ (j : Nat) x, ps[j]? = some x → ∃ p1 c1 p2 c2, vs[j * 2]? = some (.slice p1 x.1.length c1) ∧ vs[j * 2 + 1]? = some (.slice p2 x.2.length c2) ∧ HBN w g (.slice p1 x.1.length c1) x.1 ∧ HBN w g (.slice p2 x.2.length c2) x.2

theorem RBx.nil (w : World) (base g : Nat) : RBx w base g (.slice none 0 0) [] := ⟨[], World.ownsRow_nil _ _ _ _, fun j x h => by simp at h⟩

theorem owns2_tk {T e : TypeId} {w w' : World} {base n s : Nat} {v : Value} {xs : List Value} (h : w.ownsRow base e s v n xs) (t : TK T w w') (hT : e ≠ T) : w'.ownsRow base e s v n xs := by
  refine ⟨h.1, ?_⟩
  rcases h.2 with hn | ⟨g, cap, cur, rfl, hbg, hg, rest⟩
  · exact .inl hn
  · exact .inr ⟨g, cap, cur, rfl, hbg, t g cur _ _ hg hT, rest⟩

theorem RBx.tk {T : TypeId} {w w' : World} {base g : Nat} {y : Value} {ps : List (List UInt8 × List UInt8)} (h : RBx w base g y ps) (t : TK T w w') (hT : 5 ≠ T) (hB : 92 ≠ T) : RBx w' base g y ps := by
  obtain ⟨vs, h1, h2⟩ := h
  refine ⟨vs, owns2_tk h1 t hB, fun j x hx => ?_⟩
  obtain ⟨p1, c1, p2, c2, q1, q2, q3, q4⟩ := h2 j x hx
  exact ⟨p1, c1, p2, c2, q1, q2, q3.tk t hT, q4.tk t hT⟩

theorem RBx.ba {w : World} {base g : Nat} {y : Value} {ps : List (List UInt8 × List UInt8)} (h : RBx w base g y ps) : BA w y ps := by
  obtain ⟨vs, h1, h2⟩ := h
  obtain ⟨h4, h5⟩ := h1
  rcases h5 with ⟨rfl, h0⟩ | ⟨g', cap, cur, rfl, hb, hg, hl, hm, hs, ht⟩
  · obtain rfl : ps = [] := List.eq_nil_of_length_eq_zero h0
    exact ⟨none, 0, rfl, Nat.le_refl _, Nat.zero_le _, fun h => absurd rfl h⟩
  · refine ⟨_, cap, rfl, hl, hm, fun _ => ⟨g', 0, rfl, fun k x hx => ?_⟩⟩
    obtain ⟨p1, c1, p2, c2, q1, q2, q3, q4⟩ := h2 k x hx
    have cellOf : ∀ i v, vs[i]? = some v → w.cell? ⟨g', 0 + i, none⟩ = some v := by
      intro i v hv
      rw [Nat.zero_add, cell_of_row w g' i cur 92 (0, 0) hg]
      have hi : i < vs.length := (List.getElem?_eq_some_iff.1 hv).1
      rw [← ht, List.getElem?_take, if_pos (by omega)] at hv
      simpa using hv
    exact ⟨p1, c1, p2, c2, cellOf _ _ q1, by rw [Nat.zero_add]; have := cellOf _ _ q2; rwa [Nat.zero_add] at this, q3.1, q4.1⟩

theorem RBx.snoc {w wA w' : World} {base g p1 c1 p2 c2 : _} {y v' : Value} {vs : List Value} {ps : List (List UInt8 × List UInt8)} {a b : List UInt8} (h2 : wA.ownsRow base 92 2 y ps.length vs) (h3 : ∀ (j : Nat) x, ps[j]? = some x → ∃ p1 c1 p2 c2, vs[j * 2]? = some (.slice p1 x.1.length c1) ∧ vs[j * 2 + 1]? = some (.slice p2 x.2.length c2) ∧ HBN w g (.slice p1 x.1.length c1) x.1 ∧ HBN w g (.slice p2 x.2.length c2) x.2)
    (ha : HBN w g (.slice p1 a.length c1) a) (hb' : HBN w g (.slice p2 b.length c2) b) (hb : Below w.heap.size w wA) (hg : wA.grownBy w' y.ownBlock) (ho : w'.ownsRow base 92 2 v' (ps.length + 1) (vs ++ [.slice p1 a.length c1, .slice p2 b.length c2])) : RBx w' base g v' (ps ++ [(a, b)]) := by
  have t := TK.of_grown h2 hg
  have hvl : vs.length = ps.length * 2 := h2.1
  refine ⟨vs ++ [.slice p1 a.length c1, .slice p2 b.length c2], by simpa using ho, fun j x hx => ?_⟩
  by_cases hj : j < ps.length
  · rw [List.getElem?_append_left hj] at hx
    obtain ⟨p1', c1', p2', c2', q1, q2, q3, q4⟩ := h3 j x hx
    refine ⟨p1', c1', p2', c2', ?_, ?_, (q3.later hb).tk t (by decide), (q4.later hb).tk t (by decide)⟩
    · rw [List.getElem?_append_left (by omega)]; exact q1
    · rw [List.getElem?_append_left (by omega)]; exact q2
  · rw [List.getElem?_append_right (by omega)] at hx
    cases hj2 : j - ps.length with
    | succ i => rw [hj2] at hx; simp at hx
    | zero =>
      rw [hj2] at hx
      simp at hx
      obtain rfl : j = ps.length := by omega
      subst hx
      refine ⟨p1, c1, p2, c2, ?_, ?_, (ha.later hb).tk t (by decide), (hb'.later hb).tk t (by decide)⟩
      · rw [List.getElem?_append_right (by omega), hvl, Nat.sub_self]; rfl
      · rw [List.getElem?_append_right (by omega), hvl, show ps.length * 2 + 1 - ps.length * 2 = 1 by omega]; rfl

/-- Under way: the parameters' block, the document's reader. -/
def CX (w0 : World) (gp g : Nat) (P8 : Array Value) (l : List UInt8) (e : Int) (w : World) : Prop :=
  w.heap[gp]? = some (.cells P8 73 (0, 0)) ∧ XR w g l e ∧ Below w0.heap.size w0 w ∧ w0.heap.size ≤ g

theorem CX.only {w0 w w' : World} {gp g : Nat} {P8 : Array Value} {l l' : List UInt8} {e e' : Int} (h : CX w0 gp g P8 l e w) (ho : Only g w w') (hr : XR w' g l' e') : CX w0 gp g P8 l' e' w' ∧ TK 68 w w' := by
  obtain ⟨h1, h2, h3, h4⟩ := h
  obtain ⟨cs, f, hg⟩ := h2.typed
  have t := TK.of_only ho hg
  exact ⟨⟨t _ _ _ _ h1 (by decide), hr, h3.trans (ho.below h4), h4⟩, t⟩
theorem CX.later {w0 w w' : World} {gp g : Nat} {P8 : Array Value} {l : List UInt8} {e : Int} (h : CX w0 gp g P8 l e w) (hb : Below w.heap.size w w') : CX w0 gp g P8 l e w' := by
  obtain ⟨h1, h2, h3, h4⟩ := h
  exact ⟨(hb.block _ (Array.getElem?_eq_some_iff.1 h1).1).trans h1, h2.later hb, h3.trans (hb.mono h3.size), h4⟩
theorem CX.grown {w0 w w' : World} {gp g base n : Nat} {P8 : Array Value} {l : List UInt8} {e : Int} {y : Value} {vs : List Value} (h : CX w0 gp g P8 l e w) (hr : w.ownsRow base 92 2 y n vs) (hb : w0.heap.size ≤ base) (hg : w.grownBy w' y.ownBlock) : CX w0 gp g P8 l e w' := by
  have t := TK.of_grown hr hg
  obtain ⟨h1, h2, h3, h4⟩ := h
  exact ⟨t _ _ _ _ h1 (by decide), h2.tk t (by decide) (by decide), h3.grown hg h3.size (fun k hk => by have := (hr.lt k hk).1; omega), h4⟩

set_option maxRecDepth 100000 in
set_option maxHeartbeats 8000000 in
theorem crread_core (pa pb mi mk pc pd pe pf : Int) (v : Value) (b : List UInt8) (w : World) (hv : HB w v b) (hsz : b.length ≤ 140737488351232)
    (e1 : Int) (n : Nat) (r1 : List UInt8) (S : Nat → List (List UInt8 × List UInt8)) (Sl Ml : Nat → List UInt8) (Se Me : Nat → Int) (So Sp : Nat → List UInt8)
    (hU1 : ∀ g w, XR w g b 0 → Calls Try.prog 31 #[.pointer (some ⟨g, 0, none⟩), .int .i64 32] w fun x w' => x = .returned (.int .i64 (n : Int)) ∧ XR w' g r1 e1 ∧ Only g w w')
    (hBi : Hid (∀ k g w, XR w g (Sl k) (Se k) → Calls Try.prog 50 #[.pointer (some ⟨g, 0, none⟩), .int .i64 mi] w fun x w' => ∃ v, x = .returned v ∧ ∃ p c, v = .slice p (So k).length c ∧ HBN w' g (.slice p (So k).length c) (So k) ∧ XR w' g (Ml k) (Me k) ∧ Only g w w'))
    (hBk : Hid (∀ k g w, XR w g (Ml k) (Me k) → Calls Try.prog 50 #[.pointer (some ⟨g, 0, none⟩), .int .i64 mk] w fun x w' => ∃ v, x = .returned v ∧ ∃ p c, v = .slice p (Sp k).length c ∧ HBN w' g (.slice p (Sp k).length c) (Sp k) ∧ XR w' g (Sl (k + 1)) (Se (k + 1)) ∧ Only g w w'))
    (hS0 : Hid (S 0 = [] ∧ Sl 0 = r1 ∧ Se 0 = e1)) (hSk : Hid (∀ k, S (k + 1) = S k ++ [(So k, Sp k)])) (hSl : Hid (∀ k, (S k).length = k)) (hn : n ≤ 32) :
    Calls Try.prog 32 #[.agg #[.int .i64 pa, .int .i64 pb, .int .i64 mi, .int .i64 mk, .int .i64 pc, .int .i64 pd, .int .i64 pe, .int .i64 pf], v] w (RdTold (Se n) (S n) (Sl n) w) := by
  obtain ⟨P8, hP8⟩ : ∃ P8 : Array Value, P8 = #[.int .i64 pa, .int .i64 pb, .int .i64 mi, .int .i64 mk, .int .i64 pc, .int .i64 pd, .int .i64 pe, .int .i64 pf] := ⟨_, rfl⟩
  have bA := (Below.refl w.heap.size w).alloc (Nat.le_refl _) (.cells P8 73)
  have gA := heap_alloc_new w (.cells P8 73)
  obtain ⟨p, c, rfl⟩ := hv.shape
  obtain ⟨i0, hi, hz0, hz1, hz2⟩ := info_parts i_bind
  obtain ⟨V, hV⟩ : ∃ V, V = w.alloc (.cells P8 73) := ⟨_, rfl⟩
  rw [← hV] at bA gA
  have sV : w.heap.size < V.heap.size := (Array.getElem?_eq_some_iff.1 gA).1
  have sV1 : V.heap.size = w.heap.size + 1 := by rw [hV]; simp
  have bV := (Below.refl V.heap.size V).alloc (Nat.le_refl _) (.cells #[] 5)
  have hf := (hv.later bA).later bV
  have hmade : (V.alloc (.cells #[] 5)).ownsRow (w.heap.size + 1) 5 1 (.slice (some ⟨w.heap.size + 1, 0, none⟩) 0 0) 0 (bcs []) := by
    have := World.ownsRow_made (e := 5) (size := 1) (base := V.heap.size) V #[] 0 (Nat.le_refl _) (Nat.zero_le _) rfl
    rw [sV1] at this
    exact this
  rw [hV] at hf hmade
  rw [hP8] at hf hmade hV
  clear hv
  go_enter Try.func32, Try.ntmps32
  go_wp2_with (first | (at_builtin; refine wpList_append_hb rfl (.tmp 10) (.tmp 11) 22 rfl (w.heap.size + 1) 5 Try.underlying22 i_u8 _ 0 (bcs []) rfl hmade _ _ _ b rfl hf ?qa ?qb ?_))
  case qa => omega
  case qb => simp
  intro v1 w1 hown1 hgrow1
  rw [← hV] at hgrow1
  rw [← sV1] at hown1
  have hb1 : Below V.heap.size V w1 := bV.grown hgrow1 (by simp) (by intro k hk; cases hk; show _ ≤ w.heap.size + 1; omega)
  have hown1' : w1.ownsRow V.heap.size 5 1 v1 b.length (bcs b) := by simpa [bcs] using hown1
  have hlt := hown1'.lt
  obtain ⟨p1, d1, rfl⟩ := owns_shape hown1'
  have hh := HB.of_owns hown1'
  have hty := fun a n c (e : Value.slice p1 b.length d1 = .slice (some a) n c) => TY.of_owns hown1' e
  have bW := (Below.refl w1.heap.size w1).alloc (Nat.le_refl _) (.cells #[.slice p1 b.length d1, .int .i64 0] 68)
  have hgw : w.heap.size ≤ w1.heap.size := by have := hb1.size; omega
  have c2 : CX w w.heap.size w1.heap.size P8 b 0 (w1.alloc (.cells #[.slice p1 b.length d1, .int .i64 0] 68)) :=
    ⟨((hb1.trans (bW.mono hb1.size)).block _ sV).trans gA, ⟨p1, d1, heap_alloc_new w1 _, hh.later bW, fun a n c e => ⟨by have := (hlt a.block (by rw [e]; rfl)).2; omega, (hty a n c e).later bW⟩⟩, bA.trans ((hb1.trans (bW.mono hb1.size)).mono bA.size), hgw⟩
  clear hgrow1 hown1 hown1' hlt hf hh hty bA gA bV hmade sV1 bW hb1 hV
  have hU := hU1 _ _ c2.2.1
  clear hU1
  go_wp2_with fail
  refine hU.mono ?_
  rintro x w3 ⟨rfl, r3, o3⟩
  obtain ⟨c3, _⟩ := c2.only o3 r3
  generalize w1.heap.size = g at *
  clear hU c2 r3 o3
  go_wp2
  go_loopw [8, 17] (fun y i wr => ∃ k : Nat, k ≤ n ∧ i = .int .i64 (k : Int) ∧ CX w w.heap.size g P8 (Sl k) (Se k) wr ∧ RBx wr w.heap.size g y (S k)) (fun _ i _ => n - (intOf i).toNat)
  case atStart =>
    obtain ⟨s1, s2, s3⟩ := hS0.out
    exact ⟨0, Nat.zero_le _, rfl, by rw [s2, s3]; exact c3, by rw [s1]; exact RBx.nil _ _ _⟩
  case round =>
    clear c3
    obtain ⟨k, hk, rfl, cr, br⟩ := hrel
    by_cases hlt : k < n
    · have hlt2 : (k : Int) < (n : Int) := by omega
      have hsm := hSl.out k
      have HSk : Hid (S (k + 1) = S k ++ [(So k, Sp k)]) := hSk.out k
      have hB1 := hBi.out k g wr cr.2.1
      have hB2 := fun w h => hBk.out k g w h
      have m2 : wr.cell? ⟨w.heap.size, 2, none⟩ = some (.int .i64 mi) := by rw [cell_of_row _ _ _ _ _ _ cr.1, hP8]; rfl
      clear hBi hBk hS0 hSk hSl
      go_wp2_with fail
      refine hB1.mono ?_
      rintro x w5 ⟨v5, rfl, p5, c5, rfl, h5, r5, o5⟩
      obtain ⟨cr5, t5⟩ := cr.only o5 r5
      have br5 := br.tk t5 (by decide) (by decide)
      have hB3 := hB2 _ cr5.2.1
      have m3 : w5.cell? ⟨w.heap.size, 3, none⟩ = some (.int .i64 mk) := by rw [cell_of_row _ _ _ _ _ _ cr5.1, hP8]; rfl
      clear hB1 m2 cr br r5 o5 t5 hB2
      go_wp2_with fail
      refine hB3.mono ?_
      rintro x w7 ⟨v7, rfl, p7, c7, rfl, h7, r7, o7⟩
      obtain ⟨cr7, t7⟩ := cr5.only o7 r7
      obtain ⟨vs, ow7, br7⟩ := br5.tk t7 (by decide) (by decide)
      have h57 := h5.tk t7 (by decide)
      clear hB3 m3 cr5 br5 r7 o7 t7 h5
      have bB := (Below.refl w7.heap.size w7).alloc (Nat.le_refl _) (.cells #[.slice p5 (So k).length c5, .slice p7 (Sp k).length c7] 92)
      have owB := owns2_tk ow7 (TK.of_below (T := 68) bB) (by decide)
      have cr8 := cr7.later bB
      have hws : w.heap.size ≤ w7.heap.size := cr7.2.2.1.size
      rw [hsm] at owB
      go_wp2_with (first | (at_builtin; refine wpList_append_own _ rfl (.tmp 23) (.tmp 30) 23 rfl w.heap.size 92 i0 _ 2 48 Try.underlying23 hi hz0 hz1 hz2 rfl (by decide) _ _ _ rfl owB ⟨w7.heap.size, 0, none⟩ 1 1 [.slice p5 (So k).length c5, .slice p7 (Sp k).length c7] rfl rfl ?ra ?rb ?rc ?rd ?re ?_))
      case ra => exact cell_two_new _ _ _ _
      case rb => intro u hu; simp at hu; rcases hu with rfl | rfl <;> rfl
      case rc => unfold maxLen; omega
      case rd => omega
      case re => simp; omega
      intro y9 w9 ow9 gr9 _
      have cr9 := cr8.grown owB (Nat.le_refl _) gr9
      have br9 := RBx.snoc (w := w7) (ps := S k) (by rw [hsm]; exact owB) br7 h57 h7 bB gr9 (by rw [hsm]; exact ow9)
      rw [← HSk.out] at br9
      clear ow7 br7 h57 h7 bB owB cr8 cr7 ow9 gr9
      go_wp2
      go_roundw
      case rel => first | exact ⟨k + 1, by omega, by go_num, cr9, br9⟩ | ((repeat apply Exists.intro); exact ⟨⟨k + 1, by omega, by go_num, cr9, br9⟩, rfl⟩)
      case measure => simp [intOf]; omega
    · obtain rfl : k = n := by omega
      have hbw := cr.2.2.1
      have hBA := br.ba
      have hnk : ¬ (k : Int) < (k : Int) := by omega
      obtain ⟨qx, dx, xd, xb⟩ := cr.2.1
      have ce := xd.cells.2
      have cb := xd.cells.1
      obtain ⟨py, cy, rfl⟩ := hBA.shape
      clear hBi hBk hS0 hSk hSl
      generalize hEN : Se k = EN at *
      clear hEN
      by_cases he : EN = 0
      · subst he
        have bD : Below wr.heap.size wr wr.drew := (Below.refl _ wr).drew
        have cbD := cell_later bD cb
        have hbaD := hBA.later bD
        have hxD := xb.1.later bD
        have bF := hbw.trans (bD.mono hbw.size)
        clear hBA xb xd br cr
        go_wp2
        go_region
        all_goals
          go_wp2
          go_ret3
          refine ⟨_, _, rfl, ?_, ?_, bF⟩
          · rw [if_pos rfl]; exact hbaD
          · rw [if_pos rfl]; exact hxD
      · have hne : (EN != 0) = true := by simpa using he
        have bD : Below wr.heap.size wr wr.drew := (Below.refl _ wr).drew
        have ceD := cell_later bD ce
        have bF := hbw.trans (bD.mono hbw.size)
        clear hBA xb xd br cr
        go_wp2
        go_region
        all_goals
          go_wp2
          go_ret3
          refine ⟨_, _, rfl, ?_, ?_, bF⟩
          · rw [if_neg he]; exact ⟨none, 0, rfl, Nat.le_refl _, Nat.zero_le _, fun h => absurd rfl h⟩
          · rw [if_neg he]; exact HB.nil _

theorem crread_any (pa pb mi mk pc pd pe pf : Int) (v : Value) (b : List UInt8) (w : World) (hv : HB w v b) (hsz : b.length ≤ 140737488351232) :
    Calls Try.prog 32 #[.agg #[.int .i64 pa, .int .i64 pb, .int .i64 mi, .int .i64 mk, .int .i64 pc, .int .i64 pd, .int .i64 pe, .int .i64 pf], v] w (RdTold (crS mi mk b).2.2 (crS mi mk b).1 (crS mi mk b).2.1 w) := by
  have l1 : (crU b).2.2.length ≤ b.length := rdU_le b 0 32
  have m1 : ((crU b).2.1 : Int) ≤ 32 := rdU_most b 0 32 (by omega)
  have ls := fun k => bdS_le mi mk (crU b).2.2 (crU b).1 k
  have f1 : (crU b).1 ≠ 0 → (crU b).2.2 = [] := rdU_fellX b 0 32 (fun h => absurd rfl h)
  have fk := fun k => bdS_fell mi mk (crU b).2.2 (crU b).1 f1 k
  exact crread_core pa pb mi mk pc pd pe pf v b w hv hsz (crU b).1 (crU b).2.1 (crU b).2.2
    (fun k => (bdS mi mk (crU b).2.2 (crU b).1 k).1) (fun k => (bdS mi mk (crU b).2.2 (crU b).1 k).2.1) (fun k => (rdB (bdS mi mk (crU b).2.2 (crU b).1 k).2.1 (bdS mi mk (crU b).2.2 (crU b).1 k).2.2 mi).2.2)
    (fun k => (bdS mi mk (crU b).2.2 (crU b).1 k).2.2) (fun k => (rdB (bdS mi mk (crU b).2.2 (crU b).1 k).2.1 (bdS mi mk (crU b).2.2 (crU b).1 k).2.2 mi).1)
    (fun k => (rdB (bdS mi mk (crU b).2.2 (crU b).1 k).2.1 (bdS mi mk (crU b).2.2 (crU b).1 k).2.2 mi).2.1)
    (fun k => (rdB (rdB (bdS mi mk (crU b).2.2 (crU b).1 k).2.1 (bdS mi mk (crU b).2.2 (crU b).1 k).2.2 mi).2.2 (rdB (bdS mi mk (crU b).2.2 (crU b).1 k).2.1 (bdS mi mk (crU b).2.2 (crU b).1 k).2.2 mi).1 mk).2.1)
    (fun g w h => xuint_all g b 0 32 w h (fun h => absurd rfl h) (by omega))
    (fun k g w h => xbytes_all g _ _ _ w h (fk k) (by have := ls k; omega))
    (fun k g w h => xbytes_all g _ _ _ w h (rdB_fell _ _ _ (fk k)) (by have := ls k; have := rdB_le (bdS mi mk (crU b).2.2 (crU b).1 k).2.1 (bdS mi mk (crU b).2.2 (crU b).1 k).2.2 mi; omega))
    ⟨rfl, rfl, rfl⟩ (fun _ => rfl) (fun k => bdS_len mi mk _ _ k) (by omega)

end Go.Proofs.Ythkgbgkijdeaoaa
