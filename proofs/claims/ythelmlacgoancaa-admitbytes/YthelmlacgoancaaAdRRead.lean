/- What this text proves: the walk of annalsref15.Read over this program: what is read of bytes. (By program: mkadrr.py.) -/
import Derived.Test.YthelmlacgoancaaAdRead
import Derived.Test.YthelmlacgoancaaXPos
namespace Go.Proofs.Ythelmlacgoancaa
open Go.RowKit

theorem XR.tk {T : TypeId} {g : Nat} {w w' : World} {l : List UInt8} {e : Int} (h : XR w g l e) (t : TK T w w') (hT : 5 ≠ T) (hR : 49 ≠ T) : XR w' g l e := by
  obtain ⟨p, c, h1, h2⟩ := h
  exact ⟨p, c, t g _ _ _ h1 hR, h2.tk t hT⟩
theorem XR.typed {g : Nat} {w : World} {l : List UInt8} {e : Int} (h : XR w g l e) : ∃ cs f, w.heap[g]? = some (.cells cs 49 f) := by
  obtain ⟨p, c, h1, h2⟩ := h
  exact ⟨_, _, h1⟩

theorem xuint_all (g : Nat) (l : List UInt8) (e most : Int) (w : World) (h : XR w g l e) (he : e ≠ 0 → l = []) (hsz : l.length ≤ 140737488355328) : Calls Try.prog 35 #[.pointer (some ⟨g, 0, none⟩), .int .i64 most] w fun x w' => x = .returned (.int .i64 ((rdU l e most).2.1 : Int)) ∧ XR w' g (rdU l e most).2.2 (rdU l e most).1 ∧ Only g w w' := by
  unfold rdU
  by_cases h0 : e = 0
  · subst h0
    rw [if_pos rfl]
    exact xuint_any g l most w h hsz
  · rw [if_neg h0]
    obtain rfl := he h0
    refine (xuint_stays g e most w h h0).mono ?_
    rintro x w' ⟨rfl, rfl⟩
    exact ⟨rfl, h, Only.refl _ _⟩

theorem drewC {w : World} {a : Addr} {v : Value} (h : w.cell? a = some v) : w.drew.cell? a = some v := h

theorem i_intA : (Try.prog.info? 3).map (fun i => (i.zero, i.size, i.bytes)) = some (some (.int .i64 0), 1, 8) := by kernel_rfl

/-- Numbers as cells. -/
def ivs (vs : List Nat) : List Value := vs.map fun n : Nat => Value.int .i64 (n : Int)

/-- Under way: the result's block, the document's reader, the numbers. -/
def AX (w0 : World) (g : Nat) (y : Value) (vs : List Nat) (l : List UInt8) (e : Int) (w : World) : Prop :=
  w.heap[w0.heap.size]? = some (.cells #[.int .i64 0, .int .i64 0, .int .i64 0, .int .i64 0, .int .i64 0, .int .i64 0, .int .i64 0, .int .i64 0] 23 (0, 0)) ∧ w.ownsRow w0.heap.size 3 1 y vs.length (ivs vs) ∧ XR w g l e ∧ Below w0.heap.size w0 w ∧ w0.heap.size < g

theorem AX.only {w0 w w' : World} {g : Nat} {y : Value} {vs : List Nat} {l l' : List UInt8} {e e' : Int} (h : AX w0 g y vs l e w) (ho : Only g w w') (hr : XR w' g l' e') : AX w0 g y vs l' e' w' := by
  obtain ⟨h0, h1, h2, h3, h4⟩ := h
  obtain ⟨cs, f, hg⟩ := h2.typed
  have t := TK.of_only ho hg
  exact ⟨t _ _ _ _ h0 (by decide), owns_tk h1 t (by decide), hr, h3.trans (ho.below (Nat.le_of_lt h4)), h4⟩
theorem AX.later {w0 w w' : World} {g : Nat} {y : Value} {vs : List Nat} {l : List UInt8} {e : Int} (h : AX w0 g y vs l e w) (hb : Below w.heap.size w w') : AX w0 g y vs l e w' := by
  obtain ⟨h0, h1, h2, h3, h4⟩ := h
  exact ⟨(hb.block _ (Array.getElem?_eq_some_iff.1 h0).1).trans h0, owns_later h1 hb, h2.tk (TK.of_below (T := 3) hb) (by decide) (by decide), h3.trans (hb.mono h3.size), h4⟩
theorem AX.grown {w0 w w' : World} {g : Nat} {y y' : Value} {vs : List Nat} {n : Nat} {l : List UInt8} {e : Int} (h : AX w0 g y vs l e w) (hg : w.grownBy w' y.ownBlock) (ho : w'.ownsRow w0.heap.size 3 1 y' (vs.length + 1) (ivs vs ++ [.int .i64 (n : Int)])) : AX w0 g y' (vs ++ [n]) l e w' := by
  obtain ⟨h0, h1, h2, h3, h4⟩ := h
  have t := TK.of_grown h1 hg
  exact ⟨t _ _ _ _ h0 (by decide), by simpa [ivs] using ho, h2.tk t (by decide) (by decide), h3.grown hg h3.size (fun k hk => (h1.lt k hk).1), h4⟩

theorem owns_cell {w : World} {base : Nat} {b : Nat} {n c : Nat} {xs : List Value} (h : w.ownsRow base 3 1 (.slice (some ⟨b, 0, none⟩) n c) n xs) (k : Nat) (x : Value) (hx : xs[k]? = some x) : w.cell? ⟨b, k, none⟩ = some x := by
  obtain ⟨h4, h5⟩ := h
  rcases h5 with ⟨e, _⟩ | ⟨g', cap, cur, e, hb, hg, hl, hm, hs, ht⟩
  · cases e
  · simp only [Value.slice.injEq, Option.some.injEq, Addr.mk.injEq, and_true, true_and] at e
    obtain ⟨rfl, rfl⟩ := e
    rw [cell_of_row _ _ _ _ _ _ hg]
    have hi : k < xs.length := (List.getElem?_eq_some_iff.1 hx).1
    rw [← ht, List.getElem?_take, if_pos (by omega)] at hx
    simpa using hx

set_option maxRecDepth 100000 in
set_option maxHeartbeats 1600000 in
theorem radread_core (v : Value) (b : List UInt8) (w : World) (hv : HB w v b) (hsz : b.length ≤ 140737488355200)
    (N : Nat → Nat) (S : Nat → List Nat) (Sl : Nat → List UInt8) (Se : Nat → Int)
    (hU : Hid (∀ k g w, XR w g (Sl k) (Se k) → Calls Try.prog 35 #[.pointer (some ⟨g, 0, none⟩), .int .i64 2147483648] w fun x w' => x = .returned (.int .i64 (N k : Int)) ∧ XR w' g (Sl (k + 1)) (Se (k + 1)) ∧ Only g w w'))
    (hS0 : Hid (S 0 = [] ∧ Sl 0 = b ∧ Se 0 = 0)) (hSk : Hid (∀ k, S (k + 1) = S k ++ [N k])) (hSl : Hid (∀ k, (S k).length = k)) :
    Calls Try.prog 22 #[v] w (AdTold (Se 8) (S 8) (Sl 8) w) := by
  have b0 := (Below.refl w.heap.size w).alloc (Nat.le_refl _) (.cells #[.int .i64 0, .int .i64 0, .int .i64 0, .int .i64 0, .int .i64 0, .int .i64 0, .int .i64 0, .int .i64 0] 23)
  have g0 := heap_alloc_new w (.cells #[.int .i64 0, .int .i64 0, .int .i64 0, .int .i64 0, .int .i64 0, .int .i64 0, .int .i64 0, .int .i64 0] 23)
  obtain ⟨p, c, rfl⟩ := hv.shape
  obtain ⟨i0, hi, hz0, hz1, hz2⟩ := info_parts i_intA
  obtain ⟨V, hV⟩ : ∃ V, w.alloc (.cells #[.int .i64 0, .int .i64 0, .int .i64 0, .int .i64 0, .int .i64 0, .int .i64 0, .int .i64 0, .int .i64 0] 23) = V := ⟨_, rfl⟩
  rw [hV] at b0 g0
  have sV1 : V.heap.size = w.heap.size + 1 := by rw [← hV]; simp
  have sV : w.heap.size < V.heap.size := by omega
  have bV := (Below.refl V.heap.size V).alloc (Nat.le_refl _) (.cells #[] 5)
  have hf := (hv.later b0).later bV
  have hmade : (V.alloc (.cells #[] 5)).ownsRow (w.heap.size + 1) 5 1 (.slice (some ⟨w.heap.size + 1, 0, none⟩) 0 0) 0 (bcs []) := by
    have := World.ownsRow_made (e := 5) (size := 1) (base := V.heap.size) V #[] 0 (Nat.le_refl _) (Nat.zero_le _) rfl
    rw [sV1] at this
    exact this
  clear hv
  go_enter Try.func22, Try.ntmps22
  go_wp2_with (first | (at_builtin; refine wpList_append_hb rfl (.tmp 7) (.tmp 8) 29 rfl (w.heap.size + 1) 5 Try.underlying29 i_u8 _ 0 (bcs []) rfl hmade _ _ _ b rfl hf ?qa ?qb ?_))
  case qa => omega
  case qb => simp; omega
  intro v1 w1 hown1 hgrow1
  rw [← sV1] at hown1
  have hb1 : Below V.heap.size V w1 := bV.grown hgrow1 (by simp) (by intro k hk; cases hk; show _ ≤ w.heap.size + 1; omega)
  have hown1' : w1.ownsRow V.heap.size 5 1 v1 b.length (bcs b) := by simpa [bcs] using hown1
  have hlt := hown1'.lt
  obtain ⟨p1, d1, rfl⟩ := owns_shape hown1'
  have hh := HB.of_owns hown1'
  have hty := fun a n c (e : Value.slice p1 b.length d1 = .slice (some a) n c) => TY.of_owns hown1' e
  have bW := (Below.refl w1.heap.size w1).alloc (Nat.le_refl _) (.cells #[.slice p1 b.length d1, .int .i64 0] 49)
  have hgw : w.heap.size < w1.heap.size := by have := hb1.size; omega
  have c2 : AX w w1.heap.size (.slice none 0 0) [] b 0 (w1.alloc (.cells #[.slice p1 b.length d1, .int .i64 0] 49)) :=
    ⟨((hb1.trans (bW.mono hb1.size)).block _ sV).trans g0, World.ownsRow_nil _ _ _ _, ⟨p1, d1, heap_alloc_new w1 _, hh.later bW, fun a n c e => ⟨by have := (hlt a.block (by rw [e]; rfl)).2; omega, (hty a n c e).later bW⟩⟩, b0.trans ((hb1.trans (bW.mono hb1.size)).mono b0.size), hgw⟩
  clear hgrow1 hown1 hown1' hlt hf hh hty b0 g0 bV hmade sV1 bW hb1 hV sV hgw
  go_wp2
  generalize w1.alloc (.cells #[.slice p1 b.length d1, .int .i64 0] 49) = w2 at *
  generalize w1.heap.size = g at *
  go_loopw [6, 12] (fun y i wr => ∃ k : Nat, k ≤ 8 ∧ i = .int .i64 (k : Int) ∧ AX w g y (S k) (Sl k) (Se k) wr) (fun _ i _ => 8 - (intOf i).toNat)
  case atStart =>
    obtain ⟨s1, s2, s3⟩ := hS0.out
    exact ⟨0, Nat.zero_le _, rfl, by rw [s1, s2, s3]; exact c2⟩
  case round =>
    clear c2
    obtain ⟨k, hk, rfl, cr⟩ := hrel
    by_cases hlt : k < 8
    · have hlt2 : (k : Int) < 8 := by omega
      have hsm := hSl.out k
      have HSk : Hid (S (k + 1) = S k ++ [N k]) := hSk.out k
      have hB1 := hU.out k g wr cr.2.2.1
      clear hU hS0 hSk hSl
      go_wp2_with fail
      refine hB1.mono ?_
      rintro x w5 ⟨rfl, r5, o5⟩
      have cr5 := cr.only o5 r5
      have bB := (Below.refl w5.heap.size w5).alloc (Nat.le_refl _) (.cells #[.int .i64 (N k : Int)] 3)
      have gB := heap_alloc_new w5 (.cells #[.int .i64 (N k : Int)] 3)
      have cr6 := cr5.later bB
      have hws : w.heap.size ≤ w5.heap.size := cr5.2.2.2.1.size
      have ow6 := cr6.2.1
      clear hB1 cr r5 o5 cr5
      go_wp2_with (first | (at_builtin; refine wpList_append_own _ rfl (.tmp 14) (.tmp 17) 50 rfl w.heap.size 3 i0 _ 1 8 Try.underlying50 hi hz0 hz1 hz2 rfl (by decide) _ _ _ rfl ow6 ⟨w5.heap.size, 0, none⟩ 1 1 [.int .i64 (N k : Int)] rfl rfl ?ra ?rb ?rc ?rd ?re ?_))
      case ra =>
        intro j u hu
        cases j with
        | zero => simp at hu; subst hu; rw [show (⟨w5.heap.size, 0, none⟩ : Addr).add 0 = ⟨w5.heap.size, 0, none⟩ from rfl, cell_of_row _ _ _ _ _ _ gB]; rfl
        | succ j => simp at hu
      case rb => intro u hu; simp at hu; subst hu; rfl
      case rc => rw [hsm]; unfold maxLen; omega
      case rd => rw [hsm]; omega
      case re => simp; omega
      intro y9 w9 ow9 gr9 _
      have cr9 := cr6.grown gr9 (by rw [hsm]; exact ow9)
      rw [← HSk.out] at cr9
      clear ow6 bB gB cr6 ow9 gr9
      go_wp2
      go_roundw
      case rel => first | exact ⟨k + 1, by omega, by go_num, cr9⟩ | ((repeat apply Exists.intro); exact ⟨⟨k + 1, by omega, by go_num, cr9⟩, rfl⟩)
      case measure => simp [intOf]; omega
    · obtain rfl : k = 8 := by omega
      have hsm := hSl.out 8
      obtain ⟨g0, ow, xr, hbw, hgw⟩ := cr
      obtain ⟨px, cx, xd, xb⟩ := xr
      have ce := xd.cells.2
      have cb := xd.cells.1
      have hnk : ¬ ((8 : Nat) : Int) < 8 := by omega
      have hgne : g ≠ w.heap.size := by omega
      obtain ⟨⟨x0, x1, x2, x3, x4, x5, x6, x7⟩, fx⟩ := zero_cells g0
      have y0 := fx 0
      have y1 := fx 1
      have y2 := fx 2
      have y3 := fx 3
      have y4 := fx 4
      have y5 := fx 5
      have y6 := fx 6
      have y7 := fx 7
      have bD : Below wr.heap.size wr wr.drew := (Below.refl _ wr).drew
      obtain ⟨py, cy, hy⟩ := owns_shape ow
      subst hy
      clear hU hS0 hSk hSl fx
      generalize hEN : Se 8 = EN at *
      clear hEN
      by_cases he : EN = 0
      · subst he
        generalize S 8 = vs at *
        match vs, hsm with
        | [n0, n1, n2, n3, n4, n5, n6, n7], _ =>
          have hbk : ∃ gi, py = some ⟨gi, 0, none⟩ := by
            rcases ow.2 with ⟨e, h0⟩ | ⟨g', cap, cur, e, _⟩
            · simp at h0
            · simp only [Value.slice.injEq] at e; exact ⟨g', e.1⟩
          obtain ⟨gi, rfl⟩ := hbk
          have hin : gi ≠ w.heap.size := by
            intro e
            rcases ow.2 with ⟨e2, _⟩ | ⟨g', cap, cur, e2, _, hg, _⟩
            · cases e2
            · simp only [Value.slice.injEq, Option.some.injEq, Addr.mk.injEq, and_true] at e2
              rw [← e2.1, e, g0] at hg
              simp at hg
          have c0 := owns_cell ow 0 _ rfl
          have c1 := owns_cell ow 1 _ rfl
          have c2 := owns_cell ow 2 _ rfl
          have c3 := owns_cell ow 3 _ rfl
          have c4 := owns_cell ow 4 _ rfl
          have c5 := owns_cell ow 5 _ rfl
          have c6 := owns_cell ow 6 _ rfl
          have c7 := owns_cell ow 7 _ rfl
          have hon : Only w.heap.size wr ((((((((wr.setCell ⟨w.heap.size, 0, none⟩ (.int .i64 (n0 : Int))).setCell ⟨w.heap.size, 1, none⟩ (.int .i64 (n1 : Int))).setCell ⟨w.heap.size, 2, none⟩ (.int .i64 (n2 : Int))).setCell ⟨w.heap.size, 3, none⟩ (.int .i64 (n3 : Int))).setCell ⟨w.heap.size, 4, none⟩ (.int .i64 (n4 : Int))).setCell ⟨w.heap.size, 5, none⟩ (.int .i64 (n5 : Int))).setCell ⟨w.heap.size, 6, none⟩ (.int .i64 (n6 : Int))).setCell ⟨w.heap.size, 7, none⟩ (.int .i64 (n7 : Int))) := (((((((((Only.refl w.heap.size wr).setCell 0 _).setCell 1 _).setCell 2 _).setCell 3 _).setCell 4 _).setCell 5 _).setCell 6 _).setCell 7 _)
          have hQ : wr.cell? ⟨gi, 0, none⟩ = some (.int .i64 (n0 : Int)) ∧ wr.cell? ⟨gi, 1, none⟩ = some (.int .i64 (n1 : Int)) ∧ wr.cell? ⟨gi, 2, none⟩ = some (.int .i64 (n2 : Int)) ∧ wr.cell? ⟨gi, 3, none⟩ = some (.int .i64 (n3 : Int)) ∧ wr.cell? ⟨gi, 4, none⟩ = some (.int .i64 (n4 : Int)) ∧ wr.cell? ⟨gi, 5, none⟩ = some (.int .i64 (n5 : Int)) ∧ wr.cell? ⟨gi, 6, none⟩ = some (.int .i64 (n6 : Int)) ∧ wr.cell? ⟨gi, 7, none⟩ = some (.int .i64 (n7 : Int)) ∧ wr.cell? ⟨g, 0, none⟩ = some (.slice px (Sl 8).length cx) := ⟨c0, c1, c2, c3, c4, c5, c6, c7, cb⟩
          have hQd : wr.drew.cell? ⟨gi, 0, none⟩ = some (.int .i64 (n0 : Int)) ∧ wr.drew.cell? ⟨gi, 1, none⟩ = some (.int .i64 (n1 : Int)) ∧ wr.drew.cell? ⟨gi, 2, none⟩ = some (.int .i64 (n2 : Int)) ∧ wr.drew.cell? ⟨gi, 3, none⟩ = some (.int .i64 (n3 : Int)) ∧ wr.drew.cell? ⟨gi, 4, none⟩ = some (.int .i64 (n4 : Int)) ∧ wr.drew.cell? ⟨gi, 5, none⟩ = some (.int .i64 (n5 : Int)) ∧ wr.drew.cell? ⟨gi, 6, none⟩ = some (.int .i64 (n6 : Int)) ∧ wr.drew.cell? ⟨gi, 7, none⟩ = some (.int .i64 (n7 : Int)) ∧ wr.drew.cell? ⟨g, 0, none⟩ = some (.slice px (Sl 8).length cx) := ⟨drewC c0, drewC c1, drewC c2, drewC c3, drewC c4, drewC c5, drewC c6, drewC c7, drewC cb⟩
          have hF : ((((((((wr.setCell ⟨w.heap.size, 0, none⟩ (.int .i64 (n0 : Int))).setCell ⟨w.heap.size, 1, none⟩ (.int .i64 (n1 : Int))).setCell ⟨w.heap.size, 2, none⟩ (.int .i64 (n2 : Int))).setCell ⟨w.heap.size, 3, none⟩ (.int .i64 (n3 : Int))).setCell ⟨w.heap.size, 4, none⟩ (.int .i64 (n4 : Int))).setCell ⟨w.heap.size, 5, none⟩ (.int .i64 (n5 : Int))).setCell ⟨w.heap.size, 6, none⟩ (.int .i64 (n6 : Int))).setCell ⟨w.heap.size, 7, none⟩ (.int .i64 (n7 : Int))).cell? ⟨gi, 0, none⟩ = some (.int .i64 (n0 : Int)) ∧ ((((((((wr.setCell ⟨w.heap.size, 0, none⟩ (.int .i64 (n0 : Int))).setCell ⟨w.heap.size, 1, none⟩ (.int .i64 (n1 : Int))).setCell ⟨w.heap.size, 2, none⟩ (.int .i64 (n2 : Int))).setCell ⟨w.heap.size, 3, none⟩ (.int .i64 (n3 : Int))).setCell ⟨w.heap.size, 4, none⟩ (.int .i64 (n4 : Int))).setCell ⟨w.heap.size, 5, none⟩ (.int .i64 (n5 : Int))).setCell ⟨w.heap.size, 6, none⟩ (.int .i64 (n6 : Int))).setCell ⟨w.heap.size, 7, none⟩ (.int .i64 (n7 : Int))).cell? ⟨gi, 1, none⟩ = some (.int .i64 (n1 : Int)) ∧ ((((((((wr.setCell ⟨w.heap.size, 0, none⟩ (.int .i64 (n0 : Int))).setCell ⟨w.heap.size, 1, none⟩ (.int .i64 (n1 : Int))).setCell ⟨w.heap.size, 2, none⟩ (.int .i64 (n2 : Int))).setCell ⟨w.heap.size, 3, none⟩ (.int .i64 (n3 : Int))).setCell ⟨w.heap.size, 4, none⟩ (.int .i64 (n4 : Int))).setCell ⟨w.heap.size, 5, none⟩ (.int .i64 (n5 : Int))).setCell ⟨w.heap.size, 6, none⟩ (.int .i64 (n6 : Int))).setCell ⟨w.heap.size, 7, none⟩ (.int .i64 (n7 : Int))).cell? ⟨gi, 2, none⟩ = some (.int .i64 (n2 : Int)) ∧ ((((((((wr.setCell ⟨w.heap.size, 0, none⟩ (.int .i64 (n0 : Int))).setCell ⟨w.heap.size, 1, none⟩ (.int .i64 (n1 : Int))).setCell ⟨w.heap.size, 2, none⟩ (.int .i64 (n2 : Int))).setCell ⟨w.heap.size, 3, none⟩ (.int .i64 (n3 : Int))).setCell ⟨w.heap.size, 4, none⟩ (.int .i64 (n4 : Int))).setCell ⟨w.heap.size, 5, none⟩ (.int .i64 (n5 : Int))).setCell ⟨w.heap.size, 6, none⟩ (.int .i64 (n6 : Int))).setCell ⟨w.heap.size, 7, none⟩ (.int .i64 (n7 : Int))).cell? ⟨gi, 3, none⟩ = some (.int .i64 (n3 : Int)) ∧ ((((((((wr.setCell ⟨w.heap.size, 0, none⟩ (.int .i64 (n0 : Int))).setCell ⟨w.heap.size, 1, none⟩ (.int .i64 (n1 : Int))).setCell ⟨w.heap.size, 2, none⟩ (.int .i64 (n2 : Int))).setCell ⟨w.heap.size, 3, none⟩ (.int .i64 (n3 : Int))).setCell ⟨w.heap.size, 4, none⟩ (.int .i64 (n4 : Int))).setCell ⟨w.heap.size, 5, none⟩ (.int .i64 (n5 : Int))).setCell ⟨w.heap.size, 6, none⟩ (.int .i64 (n6 : Int))).setCell ⟨w.heap.size, 7, none⟩ (.int .i64 (n7 : Int))).cell? ⟨gi, 4, none⟩ = some (.int .i64 (n4 : Int)) ∧ ((((((((wr.setCell ⟨w.heap.size, 0, none⟩ (.int .i64 (n0 : Int))).setCell ⟨w.heap.size, 1, none⟩ (.int .i64 (n1 : Int))).setCell ⟨w.heap.size, 2, none⟩ (.int .i64 (n2 : Int))).setCell ⟨w.heap.size, 3, none⟩ (.int .i64 (n3 : Int))).setCell ⟨w.heap.size, 4, none⟩ (.int .i64 (n4 : Int))).setCell ⟨w.heap.size, 5, none⟩ (.int .i64 (n5 : Int))).setCell ⟨w.heap.size, 6, none⟩ (.int .i64 (n6 : Int))).setCell ⟨w.heap.size, 7, none⟩ (.int .i64 (n7 : Int))).cell? ⟨gi, 5, none⟩ = some (.int .i64 (n5 : Int)) ∧ ((((((((wr.setCell ⟨w.heap.size, 0, none⟩ (.int .i64 (n0 : Int))).setCell ⟨w.heap.size, 1, none⟩ (.int .i64 (n1 : Int))).setCell ⟨w.heap.size, 2, none⟩ (.int .i64 (n2 : Int))).setCell ⟨w.heap.size, 3, none⟩ (.int .i64 (n3 : Int))).setCell ⟨w.heap.size, 4, none⟩ (.int .i64 (n4 : Int))).setCell ⟨w.heap.size, 5, none⟩ (.int .i64 (n5 : Int))).setCell ⟨w.heap.size, 6, none⟩ (.int .i64 (n6 : Int))).setCell ⟨w.heap.size, 7, none⟩ (.int .i64 (n7 : Int))).cell? ⟨gi, 6, none⟩ = some (.int .i64 (n6 : Int)) ∧ ((((((((wr.setCell ⟨w.heap.size, 0, none⟩ (.int .i64 (n0 : Int))).setCell ⟨w.heap.size, 1, none⟩ (.int .i64 (n1 : Int))).setCell ⟨w.heap.size, 2, none⟩ (.int .i64 (n2 : Int))).setCell ⟨w.heap.size, 3, none⟩ (.int .i64 (n3 : Int))).setCell ⟨w.heap.size, 4, none⟩ (.int .i64 (n4 : Int))).setCell ⟨w.heap.size, 5, none⟩ (.int .i64 (n5 : Int))).setCell ⟨w.heap.size, 6, none⟩ (.int .i64 (n6 : Int))).setCell ⟨w.heap.size, 7, none⟩ (.int .i64 (n7 : Int))).cell? ⟨gi, 7, none⟩ = some (.int .i64 (n7 : Int)) ∧ ((((((((wr.setCell ⟨w.heap.size, 0, none⟩ (.int .i64 (n0 : Int))).setCell ⟨w.heap.size, 1, none⟩ (.int .i64 (n1 : Int))).setCell ⟨w.heap.size, 2, none⟩ (.int .i64 (n2 : Int))).setCell ⟨w.heap.size, 3, none⟩ (.int .i64 (n3 : Int))).setCell ⟨w.heap.size, 4, none⟩ (.int .i64 (n4 : Int))).setCell ⟨w.heap.size, 5, none⟩ (.int .i64 (n5 : Int))).setCell ⟨w.heap.size, 6, none⟩ (.int .i64 (n6 : Int))).setCell ⟨w.heap.size, 7, none⟩ (.int .i64 (n7 : Int))).cell? ⟨g, 0, none⟩ = some (.slice px (Sl 8).length cx) := ⟨cell_onyA hon c0 hin, cell_onyA hon c1 hin, cell_onyA hon c2 hin, cell_onyA hon c3 hin, cell_onyA hon c4 hin, cell_onyA hon c5 hin, cell_onyA hon c6 hin, cell_onyA hon c7 hin, cell_onyA hon cb hgne⟩
          have hFd : ((((((((wr.setCell ⟨w.heap.size, 0, none⟩ (.int .i64 (n0 : Int))).setCell ⟨w.heap.size, 1, none⟩ (.int .i64 (n1 : Int))).setCell ⟨w.heap.size, 2, none⟩ (.int .i64 (n2 : Int))).setCell ⟨w.heap.size, 3, none⟩ (.int .i64 (n3 : Int))).setCell ⟨w.heap.size, 4, none⟩ (.int .i64 (n4 : Int))).setCell ⟨w.heap.size, 5, none⟩ (.int .i64 (n5 : Int))).setCell ⟨w.heap.size, 6, none⟩ (.int .i64 (n6 : Int))).setCell ⟨w.heap.size, 7, none⟩ (.int .i64 (n7 : Int))).drew.cell? ⟨gi, 0, none⟩ = some (.int .i64 (n0 : Int)) ∧ ((((((((wr.setCell ⟨w.heap.size, 0, none⟩ (.int .i64 (n0 : Int))).setCell ⟨w.heap.size, 1, none⟩ (.int .i64 (n1 : Int))).setCell ⟨w.heap.size, 2, none⟩ (.int .i64 (n2 : Int))).setCell ⟨w.heap.size, 3, none⟩ (.int .i64 (n3 : Int))).setCell ⟨w.heap.size, 4, none⟩ (.int .i64 (n4 : Int))).setCell ⟨w.heap.size, 5, none⟩ (.int .i64 (n5 : Int))).setCell ⟨w.heap.size, 6, none⟩ (.int .i64 (n6 : Int))).setCell ⟨w.heap.size, 7, none⟩ (.int .i64 (n7 : Int))).drew.cell? ⟨gi, 1, none⟩ = some (.int .i64 (n1 : Int)) ∧ ((((((((wr.setCell ⟨w.heap.size, 0, none⟩ (.int .i64 (n0 : Int))).setCell ⟨w.heap.size, 1, none⟩ (.int .i64 (n1 : Int))).setCell ⟨w.heap.size, 2, none⟩ (.int .i64 (n2 : Int))).setCell ⟨w.heap.size, 3, none⟩ (.int .i64 (n3 : Int))).setCell ⟨w.heap.size, 4, none⟩ (.int .i64 (n4 : Int))).setCell ⟨w.heap.size, 5, none⟩ (.int .i64 (n5 : Int))).setCell ⟨w.heap.size, 6, none⟩ (.int .i64 (n6 : Int))).setCell ⟨w.heap.size, 7, none⟩ (.int .i64 (n7 : Int))).drew.cell? ⟨gi, 2, none⟩ = some (.int .i64 (n2 : Int)) ∧ ((((((((wr.setCell ⟨w.heap.size, 0, none⟩ (.int .i64 (n0 : Int))).setCell ⟨w.heap.size, 1, none⟩ (.int .i64 (n1 : Int))).setCell ⟨w.heap.size, 2, none⟩ (.int .i64 (n2 : Int))).setCell ⟨w.heap.size, 3, none⟩ (.int .i64 (n3 : Int))).setCell ⟨w.heap.size, 4, none⟩ (.int .i64 (n4 : Int))).setCell ⟨w.heap.size, 5, none⟩ (.int .i64 (n5 : Int))).setCell ⟨w.heap.size, 6, none⟩ (.int .i64 (n6 : Int))).setCell ⟨w.heap.size, 7, none⟩ (.int .i64 (n7 : Int))).drew.cell? ⟨gi, 3, none⟩ = some (.int .i64 (n3 : Int)) ∧ ((((((((wr.setCell ⟨w.heap.size, 0, none⟩ (.int .i64 (n0 : Int))).setCell ⟨w.heap.size, 1, none⟩ (.int .i64 (n1 : Int))).setCell ⟨w.heap.size, 2, none⟩ (.int .i64 (n2 : Int))).setCell ⟨w.heap.size, 3, none⟩ (.int .i64 (n3 : Int))).setCell ⟨w.heap.size, 4, none⟩ (.int .i64 (n4 : Int))).setCell ⟨w.heap.size, 5, none⟩ (.int .i64 (n5 : Int))).setCell ⟨w.heap.size, 6, none⟩ (.int .i64 (n6 : Int))).setCell ⟨w.heap.size, 7, none⟩ (.int .i64 (n7 : Int))).drew.cell? ⟨gi, 4, none⟩ = some (.int .i64 (n4 : Int)) ∧ ((((((((wr.setCell ⟨w.heap.size, 0, none⟩ (.int .i64 (n0 : Int))).setCell ⟨w.heap.size, 1, none⟩ (.int .i64 (n1 : Int))).setCell ⟨w.heap.size, 2, none⟩ (.int .i64 (n2 : Int))).setCell ⟨w.heap.size, 3, none⟩ (.int .i64 (n3 : Int))).setCell ⟨w.heap.size, 4, none⟩ (.int .i64 (n4 : Int))).setCell ⟨w.heap.size, 5, none⟩ (.int .i64 (n5 : Int))).setCell ⟨w.heap.size, 6, none⟩ (.int .i64 (n6 : Int))).setCell ⟨w.heap.size, 7, none⟩ (.int .i64 (n7 : Int))).drew.cell? ⟨gi, 5, none⟩ = some (.int .i64 (n5 : Int)) ∧ ((((((((wr.setCell ⟨w.heap.size, 0, none⟩ (.int .i64 (n0 : Int))).setCell ⟨w.heap.size, 1, none⟩ (.int .i64 (n1 : Int))).setCell ⟨w.heap.size, 2, none⟩ (.int .i64 (n2 : Int))).setCell ⟨w.heap.size, 3, none⟩ (.int .i64 (n3 : Int))).setCell ⟨w.heap.size, 4, none⟩ (.int .i64 (n4 : Int))).setCell ⟨w.heap.size, 5, none⟩ (.int .i64 (n5 : Int))).setCell ⟨w.heap.size, 6, none⟩ (.int .i64 (n6 : Int))).setCell ⟨w.heap.size, 7, none⟩ (.int .i64 (n7 : Int))).drew.cell? ⟨gi, 6, none⟩ = some (.int .i64 (n6 : Int)) ∧ ((((((((wr.setCell ⟨w.heap.size, 0, none⟩ (.int .i64 (n0 : Int))).setCell ⟨w.heap.size, 1, none⟩ (.int .i64 (n1 : Int))).setCell ⟨w.heap.size, 2, none⟩ (.int .i64 (n2 : Int))).setCell ⟨w.heap.size, 3, none⟩ (.int .i64 (n3 : Int))).setCell ⟨w.heap.size, 4, none⟩ (.int .i64 (n4 : Int))).setCell ⟨w.heap.size, 5, none⟩ (.int .i64 (n5 : Int))).setCell ⟨w.heap.size, 6, none⟩ (.int .i64 (n6 : Int))).setCell ⟨w.heap.size, 7, none⟩ (.int .i64 (n7 : Int))).drew.cell? ⟨gi, 7, none⟩ = some (.int .i64 (n7 : Int)) ∧ ((((((((wr.setCell ⟨w.heap.size, 0, none⟩ (.int .i64 (n0 : Int))).setCell ⟨w.heap.size, 1, none⟩ (.int .i64 (n1 : Int))).setCell ⟨w.heap.size, 2, none⟩ (.int .i64 (n2 : Int))).setCell ⟨w.heap.size, 3, none⟩ (.int .i64 (n3 : Int))).setCell ⟨w.heap.size, 4, none⟩ (.int .i64 (n4 : Int))).setCell ⟨w.heap.size, 5, none⟩ (.int .i64 (n5 : Int))).setCell ⟨w.heap.size, 6, none⟩ (.int .i64 (n6 : Int))).setCell ⟨w.heap.size, 7, none⟩ (.int .i64 (n7 : Int))).drew.cell? ⟨g, 0, none⟩ = some (.slice px (Sl 8).length cx) := ⟨drewC hF.1, drewC hF.2.1, drewC hF.2.2.1, drewC hF.2.2.2.1, drewC hF.2.2.2.2.1, drewC hF.2.2.2.2.2.1, drewC hF.2.2.2.2.2.2.1, drewC hF.2.2.2.2.2.2.2.1, drewC hF.2.2.2.2.2.2.2.2⟩
          have xbF := xb.1.only (fun a n c e => by
            intro q
            obtain ⟨_, cur, fr, hty⟩ := xb.2 a n c e
            rw [q, g0] at hty
            simp at hty) hon
          have bF := hbw.trans (hon.below (Nat.le_refl _))
          have xbD := xbF.later ((Below.refl _ _).drew)
          have bFD := bF.trans (((Below.refl _ _).drew).mono bF.size)
          clear ow g0 xb xd hbw bD hon c0 c1 c2 c3 c4 c5 c6 c7
          go_wp2
          go_region_held3 (fun w' => w'.cell? ⟨gi, 0, none⟩ = some (.int .i64 (n0 : Int)) ∧ w'.cell? ⟨gi, 1, none⟩ = some (.int .i64 (n1 : Int)) ∧ w'.cell? ⟨gi, 2, none⟩ = some (.int .i64 (n2 : Int)) ∧ w'.cell? ⟨gi, 3, none⟩ = some (.int .i64 (n3 : Int)) ∧ w'.cell? ⟨gi, 4, none⟩ = some (.int .i64 (n4 : Int)) ∧ w'.cell? ⟨gi, 5, none⟩ = some (.int .i64 (n5 : Int)) ∧ w'.cell? ⟨gi, 6, none⟩ = some (.int .i64 (n6 : Int)) ∧ w'.cell? ⟨gi, 7, none⟩ = some (.int .i64 (n7 : Int)) ∧ w'.cell? ⟨g, 0, none⟩ = some (.slice px (Sl 8).length cx)) (first | with_reducible exact hQ | with_reducible exact hQd | with_reducible exact hFd | with_reducible exact hF) (fail)
          clear hQ hQd hF hFd
          go_wp2
          refine bodyPost_ret (v := .tuple #[.agg #[.int .i64 (n0 : Int), .int .i64 (n1 : Int), .int .i64 (n2 : Int), .int .i64 (n3 : Int), .int .i64 (n4 : Int), .int .i64 (n5 : Int), .int .i64 (n6 : Int), .int .i64 (n7 : Int)], .slice px (Sl 8).length cx, .int .i64 0]) ?_ rfl ?_
          · simp only [results, Try.results22]
            go_simp
          · exact ⟨n0, n1, n2, n3, n4, n5, n6, n7, _, rfl, by rw [if_pos rfl], by rw [if_pos rfl]; exact xbD, bFD⟩
      · have hne : (EN != 0) = true := by simpa using he
        have hon : Only w.heap.size wr ((((((((wr.setCell ⟨w.heap.size, 0, none⟩ (.int .i64 0)).setCell ⟨w.heap.size, 1, none⟩ (.int .i64 0)).setCell ⟨w.heap.size, 2, none⟩ (.int .i64 0)).setCell ⟨w.heap.size, 3, none⟩ (.int .i64 0)).setCell ⟨w.heap.size, 4, none⟩ (.int .i64 0)).setCell ⟨w.heap.size, 5, none⟩ (.int .i64 0)).setCell ⟨w.heap.size, 6, none⟩ (.int .i64 0)).setCell ⟨w.heap.size, 7, none⟩ (.int .i64 0)) := (((((((((Only.refl w.heap.size wr).setCell 0 _).setCell 1 _).setCell 2 _).setCell 3 _).setCell 4 _).setCell 5 _).setCell 6 _).setCell 7 _)
        have hQd : wr.drew.cell? ⟨g, 1, none⟩ = some (.int .i64 EN) := drewC ce
        have hF : ((((((((wr.setCell ⟨w.heap.size, 0, none⟩ (.int .i64 0)).setCell ⟨w.heap.size, 1, none⟩ (.int .i64 0)).setCell ⟨w.heap.size, 2, none⟩ (.int .i64 0)).setCell ⟨w.heap.size, 3, none⟩ (.int .i64 0)).setCell ⟨w.heap.size, 4, none⟩ (.int .i64 0)).setCell ⟨w.heap.size, 5, none⟩ (.int .i64 0)).setCell ⟨w.heap.size, 6, none⟩ (.int .i64 0)).setCell ⟨w.heap.size, 7, none⟩ (.int .i64 0)).cell? ⟨g, 1, none⟩ = some (.int .i64 EN) := cell_onyA hon ce hgne
        have hFd : ((((((((wr.setCell ⟨w.heap.size, 0, none⟩ (.int .i64 0)).setCell ⟨w.heap.size, 1, none⟩ (.int .i64 0)).setCell ⟨w.heap.size, 2, none⟩ (.int .i64 0)).setCell ⟨w.heap.size, 3, none⟩ (.int .i64 0)).setCell ⟨w.heap.size, 4, none⟩ (.int .i64 0)).setCell ⟨w.heap.size, 5, none⟩ (.int .i64 0)).setCell ⟨w.heap.size, 6, none⟩ (.int .i64 0)).setCell ⟨w.heap.size, 7, none⟩ (.int .i64 0)).drew.cell? ⟨g, 1, none⟩ = some (.int .i64 EN) := drewC hF
        have bF := hbw.trans (hon.below (Nat.le_refl _))
        have bFD := bF.trans (((Below.refl _ _).drew).mono bF.size)
        clear hsm ow g0 xb xd hbw bD hon
        go_wp2
        go_region_held3 (fun w' => w'.cell? ⟨g, 1, none⟩ = some (.int .i64 EN)) (first | with_reducible exact ce | with_reducible exact hQd | with_reducible exact hFd | with_reducible exact hF) (fail)
        clear hQd hF hFd
        go_wp2
        refine bodyPost_ret (v := .tuple #[.agg #[.int .i64 0, .int .i64 0, .int .i64 0, .int .i64 0, .int .i64 0, .int .i64 0, .int .i64 0, .int .i64 0], .slice none 0 0, .int .i64 EN]) ?_ rfl ?_
        · simp only [results, Try.results22]
          go_simp
        · exact ⟨0, 0, 0, 0, 0, 0, 0, 0, _, rfl, by rw [if_neg he], by rw [if_neg he]; exact HB.nil _, bFD⟩

theorem radread_any (v : Value) (b : List UInt8) (w : World) (hv : HB w v b) (hsz : b.length ≤ 140737488355200) : Calls Try.prog 22 #[v] w (AdTold (auS b 8).2.2 (auS b 8).1 (auS b 8).2.1 w) :=
  radread_core v b w hv hsz (fun k => (rdU (auS b k).2.1 (auS b k).2.2 2147483648).2.1) (fun k => (auS b k).1) (fun k => (auS b k).2.1) (fun k => (auS b k).2.2)
    (fun k g w h => xuint_all g _ _ _ w h (auS_fell b k) (by have := auS_le b k; omega)) ⟨rfl, rfl, rfl⟩ (fun _ => rfl) (fun k => auS_len b k)

end Go.Proofs.Ythelmlacgoancaa
