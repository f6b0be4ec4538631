/- What this text proves: the walk of annalsref26.ReadAnswer over this program, by cases. (By program: mktlrra.py.) What this text proves: the walk of annalsref26.ReadAnswer over this program, the kinds. (By program: mktlrra2.py.) What this text proves: the walk of annalsref26.ReadAnswer over this program, whatever the bytes and the kind. -/
import Derived.Test.YtldmbfemoepfkaaJRR
import Derived.Test.YtldmbfemoepfkaaTlRdTold
namespace Go.Proofs.Ytldmbfemoepfkaa
open Go.RowKit

theorem nine_self {w : World} {g : Nat} {c0 c1 c2 c3 c4 c5 c6 c7 c8 : Value} (h : CB 27 w g #[c0, c1, c2, c3, c4, c5, c6, c7, c8]) : nineS w g c0 c1 c2 c3 c4 c5 c6 c7 c8 = w := by
  unfold nineS
  rw [setCell_selfR (i := 0) (v := c0) h rfl, setCell_selfR (i := 1) (v := c1) h rfl, setCell_selfR (i := 2) (v := c2) h rfl, setCell_selfR (i := 3) (v := c3) h rfl, setCell_selfR (i := 4) (v := c4) h rfl, setCell_selfR (i := 5) (v := c5) h rfl, setCell_selfR (i := 6) (v := c6) h rfl, setCell_selfR (i := 7) (v := c7) h rfl, setCell_selfR (i := 8) (v := c8) h rfl]
set_option maxHeartbeats 600000 in
theorem rrd_code (k : Int) (v : Value) (b : List UInt8) (w : World) (hv : HB w v b) (hsz : b.length ≤ 140737488351232) (e0 : Int) (cd : Nat) (l1 : List UInt8) (hu : rdU b 0 2147483648 = (e0, cd, l1)) (D : Int × List UInt8 × AA) (he : e0 ≠ 0) (hD : Hid (D = (e0, l1, { AA0 with code := cd }))) :
    Calls Try.prog 7 #[.int .i64 k, v] w (RdTold D w) := by
  have bA := (Below.refl w.heap.size w).alloc (Nat.le_refl _) (.cells #[.int .i64 0, .int .i64 0, .bool false, .bool false, .slice none 0 0, .int .i64 0, .slice none 0 0, .slice none 0 0, .bool false] 27)
  have gA := CB.made 27 w #[.int .i64 0, .int .i64 0, .bool false, .bool false, .slice none 0 0, .int .i64 0, .slice none 0 0, .slice none 0 0, .bool false]
  obtain ⟨p, c, rfl⟩ := hv.shape
  obtain ⟨V, hV⟩ : ∃ V, V = w.alloc (.cells #[.int .i64 0, .int .i64 0, .bool false, .bool false, .slice none 0 0, .int .i64 0, .slice none 0 0, .slice none 0 0, .bool false] 27) := ⟨_, rfl⟩
  rw [← hV] at bA gA
  have bV := (Below.refl V.heap.size V).alloc (Nat.le_refl _) (.cells #[] 5)
  have hf := (hv.later bA).later bV
  have sV1 : V.heap.size = w.heap.size + 1 := by rw [hV]; simp
  have hmade : (V.alloc (.cells #[] 5)).ownsRow (w.heap.size + 1) 5 1 (.slice (some ⟨w.heap.size + 1, 0, none⟩) 0 0) 0 (bcs []) := by
    have := World.ownsRow_made (e := 5) (size := 1) (base := V.heap.size) V #[] 0 (Nat.le_refl _) (Nat.zero_le _) rfl
    rw [sV1] at this
    exact this
  rw [hV] at hf hmade
  clear hv
  go_enter Try.func7, Try.ntmps7
  go_wp2_with (first | (at_builtin; refine wpList_append_hb rfl (.tmp 9) (.tmp 10) 22 rfl (w.heap.size + 1) 5 Try.underlying22 i_u8 _ 0 (bcs []) rfl hmade _ _ _ b rfl hf ?qa ?qb ?_))
  case qa => omega
  try case qb => simp
  intro v1 w1 hown1 hgrow1
  rw [← hV] at hgrow1
  rw [← sV1] at hown1
  have hb1 : Below V.heap.size V w1 := bV.grown hgrow1 (by simp) (by intro k hk; cases hk; show _ ≤ w.heap.size + 1; omega)
  have hown1' : w1.ownsRow V.heap.size 5 1 v1 b.length (bcs b) := by simpa [bcs] using hown1
  have hlt := hown1'.lt
  obtain ⟨p1, d1, rfl⟩ := owns_shape hown1'
  have hh := HB.of_owns hown1'
  have hty := fun a n c (e : Value.slice p1 b.length d1 = .slice (some a) n c) => TY.of_owns hown1' e
  have bW := (Below.refl w1.heap.size w1).alloc (Nat.le_refl _) (.cells #[.slice p1 b.length d1, .int .i64 0] 47)
  have x2 : XR (w1.alloc (.cells #[.slice p1 b.length d1, .int .i64 0] 47)) w1.heap.size b 0 := ⟨p1, d1, heap_alloc_new w1 _, hh.later bW, fun a n c e => ⟨by have := (hlt a.block (by rw [e]; rfl)).2; omega, (hty a n c e).later bW⟩⟩
  have bw1 : Below w.heap.size w w1 := bA.trans (hb1.mono bA.size)
  have a1 : CB 27 w1 w.heap.size #[.int .i64 0, .int .i64 0, .bool false, .bool false, .slice none 0 0, .int .i64 0, .slice none 0 0, .slice none 0 0, .bool false] := gA.later hb1
  have bw2 : Below w.heap.size w _ := bw1.trans (bW.mono bw1.size)
  have a2 := a1.later bW
  have HU := xuint_all w1.heap.size b 0 2147483648 _ x2 (fun h => absurd rfl h) (by omega)
  rw [hu] at HU
  simp only at HU
  have hul : l1.length ≤ b.length := by have := (rdU_suf b 0 2147483648).length_le; rw [hu] at this; exact this
  have hfu : e0 ≠ 0 → l1 = [] := by have := rdU_fellX b 0 2147483648 (fun h => absurd rfl h); rw [hu] at this; exact this
  have hs1 : w.heap.size < w1.heap.size := a1.lt
  clear hu hgrow1 hown1 hown1' hh hty hmade hf bV hb1 hV gA bA bW hlt sV1
  go_wp2_with fail
  refine HU.mono ?_
  rintro x w2 ⟨rfl, hx2, ho2⟩
  obtain ⟨cs0, f0, hg0⟩ := x2.typed
  have t2 := TK.of_only ho2 hg0
  have A2 : CB 27 w2 w.heap.size #[.int .i64 0, .int .i64 0, .bool false, .bool false, .slice none 0 0, .int .i64 0, .slice none 0 0, .slice none 0 0, .bool false] := t2 _ _ _ _ a2 (by decide)
  have bw3 : Below w.heap.size w w2 := bw2.trans (ho2.below bw1.size)
  have hgl : w1.heap.size < w2.heap.size := by obtain ⟨cs1, f1, h1⟩ := hx2.typed; exact (Array.getElem?_eq_some_iff.1 h1).1
  have bC := (Below.refl w2.heap.size w2).alloc (Nat.le_refl _) (.cells #[.int .i64 (cd : Int), .int .i64 0, .bool false, .bool false, .slice none 0 0, .int .i64 0, .slice none 0 0, .slice none 0 0, .bool false] 27)
  have C3 := CB.made 27 w2 #[.int .i64 (cd : Int), .int .i64 0, .bool false, .bool false, .slice none 0 0, .int .i64 0, .slice none 0 0, .slice none 0 0, .bool false]
  have A3 := A2.later bC
  have x3 := hx2.later bC
  have B3 := bw3.trans (bC.mono bw3.size)
  have nR1 : ¬ w.heap.size = w1.heap.size := by omega
  have nR2 : ¬ w.heap.size = w2.heap.size := by omega
  have n12 : ¬ w1.heap.size = w2.heap.size := by omega
  have nR2' : ¬ w2.heap.size = w.heap.size := by omega
  have nR1' : ¬ w1.heap.size = w.heap.size := by omega
  have n12' : ¬ w2.heap.size = w1.heap.size := by omega
  obtain ⟨px2, cx2, hxd2, hxb2⟩ := hx2
  obtain ⟨k0, k1⟩ := hxd2.cells
  obtain ⟨a0, a1', a2', a3, a4, a5, a6, a7, a8⟩ := nine A2
  have fz := fun i => A2.free i
  have hRl : w.heap.size < w2.heap.size := A2.lt
  clear HU ho2 t2 hg0 a2 x2 bw2 a1 bw1 hxd2 bC
  obtain ⟨W3, hW3⟩ : ∃ x, x = w2.alloc (.cells #[.int .i64 (cd : Int), .int .i64 0, .bool false, .bool false, .slice none 0 0, .int .i64 0, .slice none 0 0, .slice none 0 0, .bool false] 27) := ⟨_, rfl⟩
  rw [← hW3] at C3 A3 x3 B3
  have HW3 := hid_of hW3
  clear hW3
  have hne : (e0 != 0) = true := by simpa using he
  have hne2 : (e0 == 0) = false := by simpa using he
  have FB := Below.drew ((nine_below (.int .i64 0) (.int .i64 0) (.bool false) (.bool false) (.slice none 0 0) (.int .i64 0) (.slice none 0 0) (.slice none 0 0) (.bool false) bw3 (Nat.le_refl _)).alloc (nine_below (.int .i64 0) (.int .i64 0) (.bool false) (.bool false) (.slice none 0 0) (.int .i64 0) (.slice none 0 0) (.slice none 0 0) (.bool false) bw3 (Nat.le_refl _)).size (.cells #[.int .i64 (cd : Int), .int .i64 0, .bool false, .bool false, .slice none 0 0, .int .i64 0, .slice none 0 0, .slice none 0 0, .bool false] 27))
  have HBAD := hid_of (show RdTold D w (.returned (.tuple #[.agg zeroC, .slice none 0 0, .int .i64 e0])) ((nineS w2 w.heap.size (.int .i64 0) (.int .i64 0) (.bool false) (.bool false) (.slice none 0 0) (.int .i64 0) (.slice none 0 0) (.slice none 0 0) (.bool false)).alloc (.cells #[.int .i64 (cd : Int), .int .i64 0, .bool false, .bool false, .slice none 0 0, .int .i64 0, .slice none 0 0, .slice none 0 0, .bool false] 27)).drew from by rw [hD.out]; exact ⟨FB, fun h => absurd h he, fun _ => rfl⟩)
  unfold nineS at HBAD
  clear HW3 A3 C3 B3 x3 he hfu hul FB A2 bw3 hxb2 hD
  go_wp2
  go_region
  all_goals go_wp2
  all_goals
    refine bodyPost_ret (v := .tuple #[.agg zeroC, .slice none 0 0, .int .i64 e0]) ?_ rfl HBAD.out
    simp only [results, Try.results7, zeroC]
    go_simp

set_option maxHeartbeats 600000 in
theorem rrd_told (k : Int) (v : Value) (b : List UInt8) (w : World) (hv : HB w v b) (hsz : b.length ≤ 140737488351232) (e0 : Int) (cd : Nat) (l1 : List UInt8) (hu : rdU b 0 2147483648 = (e0, cd, l1)) (D : Int × List UInt8 × AA) (he : Hid (e0 = 0)) (hcd : (cd : Int) ≠ 0) (hD : Hid (D = (0, l1, { AA0 with code := cd }))) :
    Calls Try.prog 7 #[.int .i64 k, v] w (RdTold D w) := by
  have bA := (Below.refl w.heap.size w).alloc (Nat.le_refl _) (.cells #[.int .i64 0, .int .i64 0, .bool false, .bool false, .slice none 0 0, .int .i64 0, .slice none 0 0, .slice none 0 0, .bool false] 27)
  have gA := CB.made 27 w #[.int .i64 0, .int .i64 0, .bool false, .bool false, .slice none 0 0, .int .i64 0, .slice none 0 0, .slice none 0 0, .bool false]
  obtain ⟨p, c, rfl⟩ := hv.shape
  obtain ⟨V, hV⟩ : ∃ V, V = w.alloc (.cells #[.int .i64 0, .int .i64 0, .bool false, .bool false, .slice none 0 0, .int .i64 0, .slice none 0 0, .slice none 0 0, .bool false] 27) := ⟨_, rfl⟩
  rw [← hV] at bA gA
  have bV := (Below.refl V.heap.size V).alloc (Nat.le_refl _) (.cells #[] 5)
  have hf := (hv.later bA).later bV
  have sV1 : V.heap.size = w.heap.size + 1 := by rw [hV]; simp
  have hmade : (V.alloc (.cells #[] 5)).ownsRow (w.heap.size + 1) 5 1 (.slice (some ⟨w.heap.size + 1, 0, none⟩) 0 0) 0 (bcs []) := by
    have := World.ownsRow_made (e := 5) (size := 1) (base := V.heap.size) V #[] 0 (Nat.le_refl _) (Nat.zero_le _) rfl
    rw [sV1] at this
    exact this
  rw [hV] at hf hmade
  clear hv
  go_enter Try.func7, Try.ntmps7
  go_wp2_with (first | (at_builtin; refine wpList_append_hb rfl (.tmp 9) (.tmp 10) 22 rfl (w.heap.size + 1) 5 Try.underlying22 i_u8 _ 0 (bcs []) rfl hmade _ _ _ b rfl hf ?qa ?qb ?_))
  case qa => omega
  try case qb => simp
  intro v1 w1 hown1 hgrow1
  rw [← hV] at hgrow1
  rw [← sV1] at hown1
  have hb1 : Below V.heap.size V w1 := bV.grown hgrow1 (by simp) (by intro k hk; cases hk; show _ ≤ w.heap.size + 1; omega)
  have hown1' : w1.ownsRow V.heap.size 5 1 v1 b.length (bcs b) := by simpa [bcs] using hown1
  have hlt := hown1'.lt
  obtain ⟨p1, d1, rfl⟩ := owns_shape hown1'
  have hh := HB.of_owns hown1'
  have hty := fun a n c (e : Value.slice p1 b.length d1 = .slice (some a) n c) => TY.of_owns hown1' e
  have bW := (Below.refl w1.heap.size w1).alloc (Nat.le_refl _) (.cells #[.slice p1 b.length d1, .int .i64 0] 47)
  have x2 : XR (w1.alloc (.cells #[.slice p1 b.length d1, .int .i64 0] 47)) w1.heap.size b 0 := ⟨p1, d1, heap_alloc_new w1 _, hh.later bW, fun a n c e => ⟨by have := (hlt a.block (by rw [e]; rfl)).2; omega, (hty a n c e).later bW⟩⟩
  have bw1 : Below w.heap.size w w1 := bA.trans (hb1.mono bA.size)
  have a1 : CB 27 w1 w.heap.size #[.int .i64 0, .int .i64 0, .bool false, .bool false, .slice none 0 0, .int .i64 0, .slice none 0 0, .slice none 0 0, .bool false] := gA.later hb1
  have bw2 : Below w.heap.size w _ := bw1.trans (bW.mono bw1.size)
  have a2 := a1.later bW
  have HU := xuint_all w1.heap.size b 0 2147483648 _ x2 (fun h => absurd rfl h) (by omega)
  rw [hu] at HU
  simp only at HU
  have hul : l1.length ≤ b.length := by have := (rdU_suf b 0 2147483648).length_le; rw [hu] at this; exact this
  have hfu : e0 ≠ 0 → l1 = [] := by have := rdU_fellX b 0 2147483648 (fun h => absurd rfl h); rw [hu] at this; exact this
  have hs1 : w.heap.size < w1.heap.size := a1.lt
  clear hu hgrow1 hown1 hown1' hh hty hmade hf bV hb1 hV gA bA bW hlt sV1
  go_wp2_with fail
  refine HU.mono ?_
  rintro x w2 ⟨rfl, hx2, ho2⟩
  obtain ⟨cs0, f0, hg0⟩ := x2.typed
  have t2 := TK.of_only ho2 hg0
  have A2 : CB 27 w2 w.heap.size #[.int .i64 0, .int .i64 0, .bool false, .bool false, .slice none 0 0, .int .i64 0, .slice none 0 0, .slice none 0 0, .bool false] := t2 _ _ _ _ a2 (by decide)
  have bw3 : Below w.heap.size w w2 := bw2.trans (ho2.below bw1.size)
  have hgl : w1.heap.size < w2.heap.size := by obtain ⟨cs1, f1, h1⟩ := hx2.typed; exact (Array.getElem?_eq_some_iff.1 h1).1
  have bC := (Below.refl w2.heap.size w2).alloc (Nat.le_refl _) (.cells #[.int .i64 (cd : Int), .int .i64 0, .bool false, .bool false, .slice none 0 0, .int .i64 0, .slice none 0 0, .slice none 0 0, .bool false] 27)
  have C3 := CB.made 27 w2 #[.int .i64 (cd : Int), .int .i64 0, .bool false, .bool false, .slice none 0 0, .int .i64 0, .slice none 0 0, .slice none 0 0, .bool false]
  have A3 := A2.later bC
  have x3 := hx2.later bC
  have B3 := bw3.trans (bC.mono bw3.size)
  have nR1 : ¬ w.heap.size = w1.heap.size := by omega
  have nR2 : ¬ w.heap.size = w2.heap.size := by omega
  have n12 : ¬ w1.heap.size = w2.heap.size := by omega
  have nR2' : ¬ w2.heap.size = w.heap.size := by omega
  have nR1' : ¬ w1.heap.size = w.heap.size := by omega
  have n12' : ¬ w2.heap.size = w1.heap.size := by omega
  obtain ⟨px2, cx2, hxd2, hxb2⟩ := hx2
  obtain ⟨k0, k1⟩ := hxd2.cells
  obtain ⟨a0, a1', a2', a3, a4, a5, a6, a7, a8⟩ := nine A2
  have fz := fun i => A2.free i
  have hRl : w.heap.size < w2.heap.size := A2.lt
  clear HU ho2 t2 hg0 a2 x2 bw2 a1 bw1 hxd2 bC
  obtain ⟨W3, hW3⟩ : ∃ x, x = w2.alloc (.cells #[.int .i64 (cd : Int), .int .i64 0, .bool false, .bool false, .slice none 0 0, .int .i64 0, .slice none 0 0, .slice none 0 0, .bool false] 27) := ⟨_, rfl⟩
  rw [← hW3] at C3 A3 x3 B3
  have HW3 := hid_of hW3
  clear hW3
  rw [he.out] at k1
  have hne3 : ((cd : Int) == 0) = false := by simpa using hcd
  have F1 := nine_tk (.int .i64 (cd : Int)) (.int .i64 0) (.bool false) (.bool false) (.slice none 0 0) (.int .i64 0) (.slice none 0 0) (.slice none 0 0) (.bool false) A2
  have F2 := HBN.tk hxb2 F1 (by decide)
  have F3 := nine_below (.int .i64 (cd : Int)) (.int .i64 0) (.bool false) (.bool false) (.slice none 0 0) (.int .i64 0) (.slice none 0 0) (.slice none 0 0) (.bool false) bw3 (Nat.le_refl _)
  have G1 := (Below.refl _ _).alloc (Nat.le_refl _) (.cells #[.int .i64 (cd : Int), .int .i64 0, .bool false, .bool false, .slice none 0 0, .int .i64 0, .slice none 0 0, .slice none 0 0, .bool false] 27) (w := nineS w2 w.heap.size (.int .i64 (cd : Int)) (.int .i64 0) (.bool false) (.bool false) (.slice none 0 0) (.int .i64 0) (.slice none 0 0) (.slice none 0 0) (.bool false))
  have G2 := (F2.later G1).later (Below.drew (Below.refl _ _))
  have G3 := Below.drew (F3.alloc F3.size (.cells #[.int .i64 (cd : Int), .int .i64 0, .bool false, .bool false, .slice none 0 0, .int .i64 0, .slice none 0 0, .slice none 0 0, .bool false] 27))
  have HFIN := hid_of (show RdTold D w (.returned (.tuple #[.agg #[.int .i64 (cd : Int), .int .i64 0, .bool false, .bool false, .slice none 0 0, .int .i64 0, .slice none 0 0, .slice none 0 0, .bool false], .slice px2 l1.length cx2, .int .i64 0])) ((nineS w2 w.heap.size (.int .i64 (cd : Int)) (.int .i64 0) (.bool false) (.bool false) (.slice none 0 0) (.int .i64 0) (.slice none 0 0) (.slice none 0 0) (.bool false)).alloc (.cells #[.int .i64 (cd : Int), .int .i64 0, .bool false, .bool false, .slice none 0 0, .int .i64 0, .slice none 0 0, .slice none 0 0, .bool false] 27)).drew from by rw [hD.out]; exact ⟨G3, fun _ => ⟨.slice none 0 0, .slice none 0 0, .slice none 0 0, _, rfl, ⟨HB.nil _, IA.nil _, EA.nil _⟩, G2.1⟩, fun h => absurd rfl h⟩)
  unfold nineS at HFIN
  clear HW3 A3 C3 B3 x3 hfu hul F1 F2 F3 G1 G2 G3 A2 bw3 hxb2 hD
  go_wp2
  go_region
  all_goals go_wp2
  all_goals
    refine bodyPost_ret (v := .tuple #[.agg #[.int .i64 (cd : Int), .int .i64 0, .bool false, .bool false, .slice none 0 0, .int .i64 0, .slice none 0 0, .slice none 0 0, .bool false], .slice px2 l1.length cx2, .int .i64 0]) ?_ rfl HFIN.out
    simp only [results, Try.results7]
    go_simp

set_option maxHeartbeats 600000 in
theorem rrd0 (k : Int) (v : Value) (b : List UInt8) (w : World) (hv : HB w v b) (hsz : b.length ≤ 140737488351232) (e0 : Int) (cd : Nat) (l1 : List UInt8) (hu : rdU b 0 2147483648 = (e0, cd, l1)) (D : Int × List UInt8 × AA) (he : Hid (e0 = 0)) (hcd : Hid (cd = 0)) (hk : ¬ (k = 1 ∨ k = 3 ∨ k = 4 ∨ k = 5 ∨ k = 6 ∨ k = 7 ∨ k = 10)) (hD : Hid (D = (0, l1, AA0))) :
    Calls Try.prog 7 #[.int .i64 k, v] w (RdTold D w) := by
  rw [hcd.out] at hu
  have bA := (Below.refl w.heap.size w).alloc (Nat.le_refl _) (.cells #[.int .i64 0, .int .i64 0, .bool false, .bool false, .slice none 0 0, .int .i64 0, .slice none 0 0, .slice none 0 0, .bool false] 27)
  have gA := CB.made 27 w #[.int .i64 0, .int .i64 0, .bool false, .bool false, .slice none 0 0, .int .i64 0, .slice none 0 0, .slice none 0 0, .bool false]
  obtain ⟨p, c, rfl⟩ := hv.shape
  obtain ⟨V, hV⟩ : ∃ V, V = w.alloc (.cells #[.int .i64 0, .int .i64 0, .bool false, .bool false, .slice none 0 0, .int .i64 0, .slice none 0 0, .slice none 0 0, .bool false] 27) := ⟨_, rfl⟩
  rw [← hV] at bA gA
  have bV := (Below.refl V.heap.size V).alloc (Nat.le_refl _) (.cells #[] 5)
  have hf := (hv.later bA).later bV
  have sV1 : V.heap.size = w.heap.size + 1 := by rw [hV]; simp
  have hmade : (V.alloc (.cells #[] 5)).ownsRow (w.heap.size + 1) 5 1 (.slice (some ⟨w.heap.size + 1, 0, none⟩) 0 0) 0 (bcs []) := by
    have := World.ownsRow_made (e := 5) (size := 1) (base := V.heap.size) V #[] 0 (Nat.le_refl _) (Nat.zero_le _) rfl
    rw [sV1] at this
    exact this
  rw [hV] at hf hmade
  clear hv
  go_enter Try.func7, Try.ntmps7
  go_wp2_with (first | (at_builtin; refine wpList_append_hb rfl (.tmp 9) (.tmp 10) 22 rfl (w.heap.size + 1) 5 Try.underlying22 i_u8 _ 0 (bcs []) rfl hmade _ _ _ b rfl hf ?qa ?qb ?_))
  case qa => omega
  try case qb => simp
  intro v1 w1 hown1 hgrow1
  rw [← hV] at hgrow1
  rw [← sV1] at hown1
  have hb1 : Below V.heap.size V w1 := bV.grown hgrow1 (by simp) (by intro k hk; cases hk; show _ ≤ w.heap.size + 1; omega)
  have hown1' : w1.ownsRow V.heap.size 5 1 v1 b.length (bcs b) := by simpa [bcs] using hown1
  have hlt := hown1'.lt
  obtain ⟨p1, d1, rfl⟩ := owns_shape hown1'
  have hh := HB.of_owns hown1'
  have hty := fun a n c (e : Value.slice p1 b.length d1 = .slice (some a) n c) => TY.of_owns hown1' e
  have bW := (Below.refl w1.heap.size w1).alloc (Nat.le_refl _) (.cells #[.slice p1 b.length d1, .int .i64 0] 47)
  have x2 : XR (w1.alloc (.cells #[.slice p1 b.length d1, .int .i64 0] 47)) w1.heap.size b 0 := ⟨p1, d1, heap_alloc_new w1 _, hh.later bW, fun a n c e => ⟨by have := (hlt a.block (by rw [e]; rfl)).2; omega, (hty a n c e).later bW⟩⟩
  have bw1 : Below w.heap.size w w1 := bA.trans (hb1.mono bA.size)
  have a1 : CB 27 w1 w.heap.size #[.int .i64 0, .int .i64 0, .bool false, .bool false, .slice none 0 0, .int .i64 0, .slice none 0 0, .slice none 0 0, .bool false] := gA.later hb1
  have bw2 : Below w.heap.size w _ := bw1.trans (bW.mono bw1.size)
  have a2 := a1.later bW
  have HU := xuint_all w1.heap.size b 0 2147483648 _ x2 (fun h => absurd rfl h) (by omega)
  rw [hu] at HU
  simp only at HU
  have hul : l1.length ≤ b.length := by have := (rdU_suf b 0 2147483648).length_le; rw [hu] at this; exact this
  have hfu : e0 ≠ 0 → l1 = [] := by have := rdU_fellX b 0 2147483648 (fun h => absurd rfl h); rw [hu] at this; exact this
  have hs1 : w.heap.size < w1.heap.size := a1.lt
  clear hu hgrow1 hown1 hown1' hh hty hmade hf bV hb1 hV gA bA bW hlt sV1
  go_wp2_with fail
  refine HU.mono ?_
  rintro x w2 ⟨rfl, hx2, ho2⟩
  obtain ⟨cs0, f0, hg0⟩ := x2.typed
  have t2 := TK.of_only ho2 hg0
  have A2 : CB 27 w2 w.heap.size #[.int .i64 0, .int .i64 0, .bool false, .bool false, .slice none 0 0, .int .i64 0, .slice none 0 0, .slice none 0 0, .bool false] := t2 _ _ _ _ a2 (by decide)
  have bw3 : Below w.heap.size w w2 := bw2.trans (ho2.below bw1.size)
  have hgl : w1.heap.size < w2.heap.size := by obtain ⟨cs1, f1, h1⟩ := hx2.typed; exact (Array.getElem?_eq_some_iff.1 h1).1
  have bC := (Below.refl w2.heap.size w2).alloc (Nat.le_refl _) (.cells #[.int .i64 0, .int .i64 0, .bool false, .bool false, .slice none 0 0, .int .i64 0, .slice none 0 0, .slice none 0 0, .bool false] 27)
  have C3 := CB.made 27 w2 #[.int .i64 0, .int .i64 0, .bool false, .bool false, .slice none 0 0, .int .i64 0, .slice none 0 0, .slice none 0 0, .bool false]
  have A3 := A2.later bC
  have x3 := hx2.later bC
  have B3 := bw3.trans (bC.mono bw3.size)
  have nR1 : ¬ w.heap.size = w1.heap.size := by omega
  have nR2 : ¬ w.heap.size = w2.heap.size := by omega
  have n12 : ¬ w1.heap.size = w2.heap.size := by omega
  have nR2' : ¬ w2.heap.size = w.heap.size := by omega
  have nR1' : ¬ w1.heap.size = w.heap.size := by omega
  have n12' : ¬ w2.heap.size = w1.heap.size := by omega
  obtain ⟨px2, cx2, hxd2, hxb2⟩ := hx2
  obtain ⟨k0, k1⟩ := hxd2.cells
  obtain ⟨a0, a1', a2', a3, a4, a5, a6, a7, a8⟩ := nine A2
  have fz := fun i => A2.free i
  have hRl : w.heap.size < w2.heap.size := A2.lt
  clear HU ho2 t2 hg0 a2 x2 bw2 a1 bw1 hxd2 bC
  obtain ⟨W3, hW3⟩ : ∃ x, x = w2.alloc (.cells #[.int .i64 0, .int .i64 0, .bool false, .bool false, .slice none 0 0, .int .i64 0, .slice none 0 0, .slice none 0 0, .bool false] 27) := ⟨_, rfl⟩
  rw [← hW3] at C3 A3 x3 B3
  have HW3 := hid_of hW3
  clear hW3
  rw [he.out] at k1
  have q1 : (k == 1) = false := by simpa using fun h => hk (by omega)
  have q3 : (k == 3) = false := by simpa using fun h => hk (by omega)
  have q4 : (k == 4) = false := by simpa using fun h => hk (by omega)
  have q5 : (k == 5) = false := by simpa using fun h => hk (by omega)
  have q6 : (k == 6) = false := by simpa using fun h => hk (by omega)
  have q7 : (k == 7) = false := by simpa using fun h => hk (by omega)
  have q10 : (k == 10) = false := by simpa using fun h => hk (by omega)
  have F1 := nine_tk (.int .i64 0) (.int .i64 0) (.bool false) (.bool false) (.slice none 0 0) (.int .i64 0) (.slice none 0 0) (.slice none 0 0) (.bool false) A2
  have F2 := HBN.tk hxb2 F1 (by decide)
  have F3 := nine_below (.int .i64 0) (.int .i64 0) (.bool false) (.bool false) (.slice none 0 0) (.int .i64 0) (.slice none 0 0) (.slice none 0 0) (.bool false) bw3 (Nat.le_refl _)
  have G1 := (Below.refl _ _).alloc (Nat.le_refl _) (.cells #[.int .i64 0, .int .i64 0, .bool false, .bool false, .slice none 0 0, .int .i64 0, .slice none 0 0, .slice none 0 0, .bool false] 27) (w := nineS w2 w.heap.size (.int .i64 0) (.int .i64 0) (.bool false) (.bool false) (.slice none 0 0) (.int .i64 0) (.slice none 0 0) (.slice none 0 0) (.bool false))
  have G2 := (F2.later G1).later (Below.drew (Below.refl _ _))
  have G3 := Below.drew (F3.alloc F3.size (.cells #[.int .i64 0, .int .i64 0, .bool false, .bool false, .slice none 0 0, .int .i64 0, .slice none 0 0, .slice none 0 0, .bool false] 27))
  have HFIN := hid_of (show RdTold D w (.returned (.tuple #[.agg #[.int .i64 0, .int .i64 0, .bool false, .bool false, .slice none 0 0, .int .i64 0, .slice none 0 0, .slice none 0 0, .bool false], .slice px2 l1.length cx2, .int .i64 0])) ((nineS w2 w.heap.size (.int .i64 0) (.int .i64 0) (.bool false) (.bool false) (.slice none 0 0) (.int .i64 0) (.slice none 0 0) (.slice none 0 0) (.bool false)).alloc (.cells #[.int .i64 0, .int .i64 0, .bool false, .bool false, .slice none 0 0, .int .i64 0, .slice none 0 0, .slice none 0 0, .bool false] 27)).drew from by rw [hD.out]; exact ⟨G3, fun _ => ⟨.slice none 0 0, .slice none 0 0, .slice none 0 0, _, rfl, ⟨HB.nil _, IA.nil _, EA.nil _⟩, G2.1⟩, fun h => absurd rfl h⟩)
  unfold nineS at HFIN
  clear HW3 A3 C3 B3 x3 hfu hul F1 F2 F3 G1 G2 G3 A2 bw3 hxb2 hD
  go_wp2
  go_region
  all_goals go_wp2
  all_goals
    refine bodyPost_ret (v := .tuple #[.agg #[.int .i64 0, .int .i64 0, .bool false, .bool false, .slice none 0 0, .int .i64 0, .slice none 0 0, .slice none 0 0, .bool false], .slice px2 l1.length cx2, .int .i64 0]) ?_ rfl HFIN.out
    simp only [results, Try.results7]
    go_simp

end Go.Proofs.Ytldmbfemoepfkaa

namespace Go.Proofs.Ytldmbfemoepfkaa
open Go.RowKit

set_option maxHeartbeats 600000 in
theorem rrk1 (v : Value) (b : List UInt8) (w : World) (hv : HB w v b) (hsz : b.length ≤ 140737488351232) (e0 : Int) (cd : Nat) (l1 : List UInt8) (hu : rdU b 0 2147483648 = (e0, cd, l1)) (D : Int × List UInt8 × AA) (he : Hid (e0 = 0)) (hcd : Hid (cd = 0)) (hD : Hid (D = rdK 1 l1 0 AA0)) :
    Calls Try.prog 7 #[.int .i64 1, v] w (RdTold D w) := by
  rw [hcd.out] at hu
  have bA := (Below.refl w.heap.size w).alloc (Nat.le_refl _) (.cells #[.int .i64 0, .int .i64 0, .bool false, .bool false, .slice none 0 0, .int .i64 0, .slice none 0 0, .slice none 0 0, .bool false] 27)
  have gA := CB.made 27 w #[.int .i64 0, .int .i64 0, .bool false, .bool false, .slice none 0 0, .int .i64 0, .slice none 0 0, .slice none 0 0, .bool false]
  obtain ⟨p, c, rfl⟩ := hv.shape
  obtain ⟨V, hV⟩ : ∃ V, V = w.alloc (.cells #[.int .i64 0, .int .i64 0, .bool false, .bool false, .slice none 0 0, .int .i64 0, .slice none 0 0, .slice none 0 0, .bool false] 27) := ⟨_, rfl⟩
  rw [← hV] at bA gA
  have bV := (Below.refl V.heap.size V).alloc (Nat.le_refl _) (.cells #[] 5)
  have hf := (hv.later bA).later bV
  have sV1 : V.heap.size = w.heap.size + 1 := by rw [hV]; simp
  have hmade : (V.alloc (.cells #[] 5)).ownsRow (w.heap.size + 1) 5 1 (.slice (some ⟨w.heap.size + 1, 0, none⟩) 0 0) 0 (bcs []) := by
    have := World.ownsRow_made (e := 5) (size := 1) (base := V.heap.size) V #[] 0 (Nat.le_refl _) (Nat.zero_le _) rfl
    rw [sV1] at this
    exact this
  rw [hV] at hf hmade
  clear hv
  go_enter Try.func7, Try.ntmps7
  go_wp2_with (first | (at_builtin; refine wpList_append_hb rfl (.tmp 9) (.tmp 10) 22 rfl (w.heap.size + 1) 5 Try.underlying22 i_u8 _ 0 (bcs []) rfl hmade _ _ _ b rfl hf ?qa ?qb ?_))
  case qa => omega
  try case qb => simp
  intro v1 w1 hown1 hgrow1
  rw [← hV] at hgrow1
  rw [← sV1] at hown1
  have hb1 : Below V.heap.size V w1 := bV.grown hgrow1 (by simp) (by intro k hk; cases hk; show _ ≤ w.heap.size + 1; omega)
  have hown1' : w1.ownsRow V.heap.size 5 1 v1 b.length (bcs b) := by simpa [bcs] using hown1
  have hlt := hown1'.lt
  obtain ⟨p1, d1, rfl⟩ := owns_shape hown1'
  have hh := HB.of_owns hown1'
  have hty := fun a n c (e : Value.slice p1 b.length d1 = .slice (some a) n c) => TY.of_owns hown1' e
  have bW := (Below.refl w1.heap.size w1).alloc (Nat.le_refl _) (.cells #[.slice p1 b.length d1, .int .i64 0] 47)
  have x2 : XR (w1.alloc (.cells #[.slice p1 b.length d1, .int .i64 0] 47)) w1.heap.size b 0 := ⟨p1, d1, heap_alloc_new w1 _, hh.later bW, fun a n c e => ⟨by have := (hlt a.block (by rw [e]; rfl)).2; omega, (hty a n c e).later bW⟩⟩
  have bw1 : Below w.heap.size w w1 := bA.trans (hb1.mono bA.size)
  have a1 : CB 27 w1 w.heap.size #[.int .i64 0, .int .i64 0, .bool false, .bool false, .slice none 0 0, .int .i64 0, .slice none 0 0, .slice none 0 0, .bool false] := gA.later hb1
  have bw2 : Below w.heap.size w _ := bw1.trans (bW.mono bw1.size)
  have a2 := a1.later bW
  have HU := xuint_all w1.heap.size b 0 2147483648 _ x2 (fun h => absurd rfl h) (by omega)
  rw [hu] at HU
  simp only at HU
  have hul : l1.length ≤ b.length := by have := (rdU_suf b 0 2147483648).length_le; rw [hu] at this; exact this
  have hfu : e0 ≠ 0 → l1 = [] := by have := rdU_fellX b 0 2147483648 (fun h => absurd rfl h); rw [hu] at this; exact this
  have hs1 : w.heap.size < w1.heap.size := a1.lt
  clear hu hgrow1 hown1 hown1' hh hty hmade hf bV hb1 hV gA bA bW hlt sV1
  go_wp2_with fail
  refine HU.mono ?_
  rintro x w2 ⟨rfl, hx2, ho2⟩
  obtain ⟨cs0, f0, hg0⟩ := x2.typed
  have t2 := TK.of_only ho2 hg0
  have A2 : CB 27 w2 w.heap.size #[.int .i64 0, .int .i64 0, .bool false, .bool false, .slice none 0 0, .int .i64 0, .slice none 0 0, .slice none 0 0, .bool false] := t2 _ _ _ _ a2 (by decide)
  have bw3 : Below w.heap.size w w2 := bw2.trans (ho2.below bw1.size)
  have hgl : w1.heap.size < w2.heap.size := by obtain ⟨cs1, f1, h1⟩ := hx2.typed; exact (Array.getElem?_eq_some_iff.1 h1).1
  have bC := (Below.refl w2.heap.size w2).alloc (Nat.le_refl _) (.cells #[.int .i64 0, .int .i64 0, .bool false, .bool false, .slice none 0 0, .int .i64 0, .slice none 0 0, .slice none 0 0, .bool false] 27)
  have C3 := CB.made 27 w2 #[.int .i64 0, .int .i64 0, .bool false, .bool false, .slice none 0 0, .int .i64 0, .slice none 0 0, .slice none 0 0, .bool false]
  have A3 := A2.later bC
  have x3 := hx2.later bC
  have B3 := bw3.trans (bC.mono bw3.size)
  have nR1 : ¬ w.heap.size = w1.heap.size := by omega
  have nR2 : ¬ w.heap.size = w2.heap.size := by omega
  have n12 : ¬ w1.heap.size = w2.heap.size := by omega
  have nR2' : ¬ w2.heap.size = w.heap.size := by omega
  have nR1' : ¬ w1.heap.size = w.heap.size := by omega
  have n12' : ¬ w2.heap.size = w1.heap.size := by omega
  obtain ⟨px2, cx2, hxd2, hxb2⟩ := hx2
  obtain ⟨k0, k1⟩ := hxd2.cells
  obtain ⟨a0, a1', a2', a3, a4, a5, a6, a7, a8⟩ := nine A2
  have fz := fun i => A2.free i
  have hRl : w.heap.size < w2.heap.size := A2.lt
  clear HU ho2 t2 hg0 a2 x2 bw2 a1 bw1 hxd2 bC
  obtain ⟨W3, hW3⟩ : ∃ x, x = w2.alloc (.cells #[.int .i64 0, .int .i64 0, .bool false, .bool false, .slice none 0 0, .int .i64 0, .slice none 0 0, .slice none 0 0, .bool false] 27) := ⟨_, rfl⟩
  rw [← hW3] at C3 A3 x3 B3
  have HW3 := hid_of hW3
  clear hW3
  rw [he.out] at k1 x3
  obtain ⟨cs3, f3, hg3⟩ := x3.typed
  have HC := xuint_all w1.heap.size l1 0 2147483648 W3 x3 (fun h => absurd rfl h) (by omega)
  have HDK := hid_of (hD.out.trans (show rdK 1 l1 0 AA0 = ((rdU l1 0 2147483648).1, (rdU l1 0 2147483648).2.2, { AA0 with ep := (rdU l1 0 2147483648).2.1 }) from rfl))
  generalize (rdU l1 0 2147483648).1 = e at *
  generalize (rdU l1 0 2147483648).2.2 = l at *
  generalize (rdU l1 0 2147483648).2.1 = ep at *
  rw [HW3.out] at HC
  go_wp2_with fail
  refine HC.mono ?_
  clear HC k0 k1 a0 a1' a2' a3 a4 a5 a6 a7 a8 fz hxb2 A2 bw3 hfu
  rintro x w4 ⟨rfl, h4, o4⟩
  rw [← HW3.out] at o4
  have t4 : TK 47 W3 w4 := TK.of_only o4 hg3
  have A4 : CB 27 w4 w.heap.size #[.int .i64 0, .int .i64 0, .bool false, .bool false, .slice none 0 0, .int .i64 0, .slice none 0 0, .slice none 0 0, .bool false] := t4 _ _ _ _ A3 (by decide)
  have C4 : CB 27 w4 w2.heap.size #[.int .i64 0, .int .i64 0, .bool false, .bool false, .slice none 0 0, .int .i64 0, .slice none 0 0, .slice none 0 0, .bool false] := t4 _ _ _ _ C3 (by decide)
  have B4 : Below w.heap.size w w4 := B3.trans (o4.below (by omega))
  obtain ⟨px, cx, hxd9, hxb9⟩ := id h4
  obtain ⟨k0, k1⟩ := hxd9.cells
  obtain ⟨a0, a1, a2, a3, a4, a5, a6, a7, a8⟩ := nine A4
  obtain ⟨m0, m1, m2, m3, m4, m5, m6, m7, m8⟩ := nine C4
  have fz := fun i => A4.free i
  have fy := fun i => C4.free i
  have s5 : TK 27 w4 (w4.setCell ⟨w2.heap.size, 1, none⟩ (.int .i64 (ep : Int))) := TK.of_only ((Only.refl w2.heap.size w4).setCell 1 _) C4
  have h5 := hxb9.tk s5 (by decide)
  have A5 := A4.other ⟨w2.heap.size, 1, none⟩ (.int .i64 (ep : Int)) nR2
  have B5 := B4.setCell (p := ⟨w2.heap.size, 1, none⟩) (by show w.heap.size ≤ w2.heap.size; omega) (.int .i64 (ep : Int))
  by_cases hz : e = 0
  · have F := nine_tk (.int .i64 0) (.int .i64 (ep : Int)) (.bool false) (.bool false) (.slice none 0 0) (.int .i64 0) (.slice none 0 0) (.slice none 0 0) (.bool false) A5
    have bd := Below.drew (Below.refl (nineS (w4.setCell ⟨w2.heap.size, 1, none⟩ (.int .i64 (ep : Int))) w.heap.size (.int .i64 0) (.int .i64 (ep : Int)) (.bool false) (.bool false) (.slice none 0 0) (.int .i64 0) (.slice none 0 0) (.slice none 0 0) (.bool false)).heap.size (nineS (w4.setCell ⟨w2.heap.size, 1, none⟩ (.int .i64 (ep : Int))) w.heap.size (.int .i64 0) (.int .i64 (ep : Int)) (.bool false) (.bool false) (.slice none 0 0) (.int .i64 0) (.slice none 0 0) (.slice none 0 0) (.bool false)))
    have FR := (h5.tk F (by decide)).later bd
    have FB := Below.drew (nine_below (.int .i64 0) (.int .i64 (ep : Int)) (.bool false) (.bool false) (.slice none 0 0) (.int .i64 0) (.slice none 0 0) (.slice none 0 0) (.bool false) B5 (Nat.le_refl _))
    have HFIN := hid_of (show RdTold D w (.returned (.tuple #[.agg #[.int .i64 0, .int .i64 (ep : Int), .bool false, .bool false, .slice none 0 0, .int .i64 0, .slice none 0 0, .slice none 0 0, .bool false], .slice px l.length cx, .int .i64 0])) (nineS (w4.setCell ⟨w2.heap.size, 1, none⟩ (.int .i64 (ep : Int))) w.heap.size (.int .i64 0) (.int .i64 (ep : Int)) (.bool false) (.bool false) (.slice none 0 0) (.int .i64 0) (.slice none 0 0) (.slice none 0 0) (.bool false)).drew from by rw [HDK.out, hz]; exact ⟨FB, fun _ => ⟨.slice none 0 0, .slice none 0 0, .slice none 0 0, _, rfl, ⟨HB.nil _, IA.nil _, EA.nil _⟩, FR.1⟩, fun h => absurd rfl h⟩)
    unfold nineS at HFIN
    subst hz
    clear F bd FR FB hxd9 hxb9 HDK s5 h5 A5 B5 A4 C4 B4 h4 o4 t4 HW3 C3 A3 x3 B3 hD
    go_wp2
    go_region
    all_goals go_wp2
    all_goals
      refine bodyPost_ret (v := .tuple #[.agg #[.int .i64 0, .int .i64 (ep : Int), .bool false, .bool false, .slice none 0 0, .int .i64 0, .slice none 0 0, .slice none 0 0, .bool false], .slice px l.length cx, .int .i64 0]) ?_ rfl HFIN.out
      simp only [results, Try.results7]
      go_simp
  · have FB := Below.drew (nine_below (.int .i64 0) (.int .i64 0) (.bool false) (.bool false) (.slice none 0 0) (.int .i64 0) (.slice none 0 0) (.slice none 0 0) (.bool false) B5 (Nat.le_refl _))
    have HBAD := hid_of (show RdTold D w (.returned (.tuple #[.agg zeroC, .slice none 0 0, .int .i64 e])) (nineS (w4.setCell ⟨w2.heap.size, 1, none⟩ (.int .i64 (ep : Int))) w.heap.size (.int .i64 0) (.int .i64 0) (.bool false) (.bool false) (.slice none 0 0) (.int .i64 0) (.slice none 0 0) (.slice none 0 0) (.bool false)).drew from by rw [HDK.out]; exact ⟨FB, fun h => absurd h hz, fun _ => rfl⟩)
    unfold nineS at HBAD
    have hne : (e != 0) = true := by simpa using hz
    clear FB HDK hz hxd9 hxb9 s5 h5 A5 B5 A4 C4 B4 h4 o4 t4 HW3 C3 A3 x3 B3 hD
    go_wp2
    go_region
    all_goals go_wp2
    all_goals
      refine bodyPost_ret (v := .tuple #[.agg zeroC, .slice none 0 0, .int .i64 e]) ?_ rfl HBAD.out
      simp only [results, Try.results7, zeroC]
      go_simp

set_option maxHeartbeats 600000 in
theorem rrk3 (v : Value) (b : List UInt8) (w : World) (hv : HB w v b) (hsz : b.length ≤ 140737488351232) (e0 : Int) (cd : Nat) (l1 : List UInt8) (hu : rdU b 0 2147483648 = (e0, cd, l1)) (D : Int × List UInt8 × AA) (he : Hid (e0 = 0)) (hcd : Hid (cd = 0)) (hD : Hid (D = rdK 3 l1 0 AA0)) :
    Calls Try.prog 7 #[.int .i64 3, v] w (RdTold D w) := by
  rw [hcd.out] at hu
  have bA := (Below.refl w.heap.size w).alloc (Nat.le_refl _) (.cells #[.int .i64 0, .int .i64 0, .bool false, .bool false, .slice none 0 0, .int .i64 0, .slice none 0 0, .slice none 0 0, .bool false] 27)
  have gA := CB.made 27 w #[.int .i64 0, .int .i64 0, .bool false, .bool false, .slice none 0 0, .int .i64 0, .slice none 0 0, .slice none 0 0, .bool false]
  obtain ⟨p, c, rfl⟩ := hv.shape
  obtain ⟨V, hV⟩ : ∃ V, V = w.alloc (.cells #[.int .i64 0, .int .i64 0, .bool false, .bool false, .slice none 0 0, .int .i64 0, .slice none 0 0, .slice none 0 0, .bool false] 27) := ⟨_, rfl⟩
  rw [← hV] at bA gA
  have bV := (Below.refl V.heap.size V).alloc (Nat.le_refl _) (.cells #[] 5)
  have hf := (hv.later bA).later bV
  have sV1 : V.heap.size = w.heap.size + 1 := by rw [hV]; simp
  have hmade : (V.alloc (.cells #[] 5)).ownsRow (w.heap.size + 1) 5 1 (.slice (some ⟨w.heap.size + 1, 0, none⟩) 0 0) 0 (bcs []) := by
    have := World.ownsRow_made (e := 5) (size := 1) (base := V.heap.size) V #[] 0 (Nat.le_refl _) (Nat.zero_le _) rfl
    rw [sV1] at this
    exact this
  rw [hV] at hf hmade
  clear hv
  go_enter Try.func7, Try.ntmps7
  go_wp2_with (first | (at_builtin; refine wpList_append_hb rfl (.tmp 9) (.tmp 10) 22 rfl (w.heap.size + 1) 5 Try.underlying22 i_u8 _ 0 (bcs []) rfl hmade _ _ _ b rfl hf ?qa ?qb ?_))
  case qa => omega
  try case qb => simp
  intro v1 w1 hown1 hgrow1
  rw [← hV] at hgrow1
  rw [← sV1] at hown1
  have hb1 : Below V.heap.size V w1 := bV.grown hgrow1 (by simp) (by intro k hk; cases hk; show _ ≤ w.heap.size + 1; omega)
  have hown1' : w1.ownsRow V.heap.size 5 1 v1 b.length (bcs b) := by simpa [bcs] using hown1
  have hlt := hown1'.lt
  obtain ⟨p1, d1, rfl⟩ := owns_shape hown1'
  have hh := HB.of_owns hown1'
  have hty := fun a n c (e : Value.slice p1 b.length d1 = .slice (some a) n c) => TY.of_owns hown1' e
  have bW := (Below.refl w1.heap.size w1).alloc (Nat.le_refl _) (.cells #[.slice p1 b.length d1, .int .i64 0] 47)
  have x2 : XR (w1.alloc (.cells #[.slice p1 b.length d1, .int .i64 0] 47)) w1.heap.size b 0 := ⟨p1, d1, heap_alloc_new w1 _, hh.later bW, fun a n c e => ⟨by have := (hlt a.block (by rw [e]; rfl)).2; omega, (hty a n c e).later bW⟩⟩
  have bw1 : Below w.heap.size w w1 := bA.trans (hb1.mono bA.size)
  have a1 : CB 27 w1 w.heap.size #[.int .i64 0, .int .i64 0, .bool false, .bool false, .slice none 0 0, .int .i64 0, .slice none 0 0, .slice none 0 0, .bool false] := gA.later hb1
  have bw2 : Below w.heap.size w _ := bw1.trans (bW.mono bw1.size)
  have a2 := a1.later bW
  have HU := xuint_all w1.heap.size b 0 2147483648 _ x2 (fun h => absurd rfl h) (by omega)
  rw [hu] at HU
  simp only at HU
  have hul : l1.length ≤ b.length := by have := (rdU_suf b 0 2147483648).length_le; rw [hu] at this; exact this
  have hfu : e0 ≠ 0 → l1 = [] := by have := rdU_fellX b 0 2147483648 (fun h => absurd rfl h); rw [hu] at this; exact this
  have hs1 : w.heap.size < w1.heap.size := a1.lt
  clear hu hgrow1 hown1 hown1' hh hty hmade hf bV hb1 hV gA bA bW hlt sV1
  go_wp2_with fail
  refine HU.mono ?_
  rintro x w2 ⟨rfl, hx2, ho2⟩
  obtain ⟨cs0, f0, hg0⟩ := x2.typed
  have t2 := TK.of_only ho2 hg0
  have A2 : CB 27 w2 w.heap.size #[.int .i64 0, .int .i64 0, .bool false, .bool false, .slice none 0 0, .int .i64 0, .slice none 0 0, .slice none 0 0, .bool false] := t2 _ _ _ _ a2 (by decide)
  have bw3 : Below w.heap.size w w2 := bw2.trans (ho2.below bw1.size)
  have hgl : w1.heap.size < w2.heap.size := by obtain ⟨cs1, f1, h1⟩ := hx2.typed; exact (Array.getElem?_eq_some_iff.1 h1).1
  have bC := (Below.refl w2.heap.size w2).alloc (Nat.le_refl _) (.cells #[.int .i64 0, .int .i64 0, .bool false, .bool false, .slice none 0 0, .int .i64 0, .slice none 0 0, .slice none 0 0, .bool false] 27)
  have C3 := CB.made 27 w2 #[.int .i64 0, .int .i64 0, .bool false, .bool false, .slice none 0 0, .int .i64 0, .slice none 0 0, .slice none 0 0, .bool false]
  have A3 := A2.later bC
  have x3 := hx2.later bC
  have B3 := bw3.trans (bC.mono bw3.size)
  have nR1 : ¬ w.heap.size = w1.heap.size := by omega
  have nR2 : ¬ w.heap.size = w2.heap.size := by omega
  have n12 : ¬ w1.heap.size = w2.heap.size := by omega
  have nR2' : ¬ w2.heap.size = w.heap.size := by omega
  have nR1' : ¬ w1.heap.size = w.heap.size := by omega
  have n12' : ¬ w2.heap.size = w1.heap.size := by omega
  obtain ⟨px2, cx2, hxd2, hxb2⟩ := hx2
  obtain ⟨k0, k1⟩ := hxd2.cells
  obtain ⟨a0, a1', a2', a3, a4, a5, a6, a7, a8⟩ := nine A2
  have fz := fun i => A2.free i
  have hRl : w.heap.size < w2.heap.size := A2.lt
  clear HU ho2 t2 hg0 a2 x2 bw2 a1 bw1 hxd2 bC
  obtain ⟨W3, hW3⟩ : ∃ x, x = w2.alloc (.cells #[.int .i64 0, .int .i64 0, .bool false, .bool false, .slice none 0 0, .int .i64 0, .slice none 0 0, .slice none 0 0, .bool false] 27) := ⟨_, rfl⟩
  rw [← hW3] at C3 A3 x3 B3
  have HW3 := hid_of hW3
  clear hW3
  rw [he.out] at k1 x3
  obtain ⟨cs3, f3, hg3⟩ := x3.typed
  have HC : Calls Try.prog 18 #[.pointer (some ⟨w1.heap.size, 0, none⟩), .agg #[.int .i64 0, .int .i64 0, .bool false, .bool false, .slice none 0 0, .int .i64 0, .slice none 0 0, .slice none 0 0, .bool false]] W3 (OneT w1.heap.size l1 0 AA0 (.slice none 0 0) (.slice none 0 0) W3) := rone_any w1.heap.size l1 0 AA0 none 0 0 none 0 0 none 0 0 W3 x3 (fun h => absurd rfl h) (by omega) (HBN.nil _ _)
  unfold OneT at HC
  unfold ansC at HC
  have hits : (rdS l1 0 AA0).2.2.its = [] := by unfold rdS; split <;> rfl
  have hevs : (rdS l1 0 AA0).2.2.evs = [] := by unfold rdS; split <;> rfl
  have HDK := hid_of (hD.out.trans (show rdK 3 l1 0 AA0 = ((rdS l1 0 AA0).1, (rdS l1 0 AA0).2.1, (rdS l1 0 AA0).2.2) from rfl))
  generalize (rdS l1 0 AA0).1 = e at *
  generalize (rdS l1 0 AA0).2.1 = l at *
  generalize (rdS l1 0 AA0).2.2 = a at *
  rw [HW3.out] at HC
  go_wp2_with fail
  refine HC.mono ?_
  clear HC k0 k1 a0 a1' a2' a3 a4 a5 a6 a7 a8 fz hxb2 A2 bw3 hfu
  rintro x w4 ⟨kv, rfl, hrow, h4, o4⟩
  obtain ⟨pk, ck, rfl⟩ := hrow.1.shape
  rw [← HW3.out] at o4
  have t4 : TK 47 W3 w4 := TK.of_only o4 hg3
  have A4 : CB 27 w4 w.heap.size #[.int .i64 0, .int .i64 0, .bool false, .bool false, .slice none 0 0, .int .i64 0, .slice none 0 0, .slice none 0 0, .bool false] := t4 _ _ _ _ A3 (by decide)
  have C4 : CB 27 w4 w2.heap.size #[.int .i64 0, .int .i64 0, .bool false, .bool false, .slice none 0 0, .int .i64 0, .slice none 0 0, .slice none 0 0, .bool false] := t4 _ _ _ _ C3 (by decide)
  have B4 : Below w.heap.size w w4 := B3.trans (o4.below (by omega))
  obtain ⟨px, cx, hxd9, hxb9⟩ := id h4
  obtain ⟨k0, k1⟩ := hxd9.cells
  obtain ⟨a0, a1, a2, a3, a4, a5, a6, a7, a8⟩ := nine A4
  obtain ⟨m0, m1, m2, m3, m4, m5, m6, m7, m8⟩ := nine C4
  have fz := fun i => A4.free i
  have fy := fun i => C4.free i
  have s5 := nine_tk (.int .i64 a.code) (.int .i64 a.ep) (.bool a.pr) (.bool a.sa) (.slice pk a.key.length ck) (.int .i64 a.si) (.slice none 0 0) (.slice none 0 0) (.bool a.mo) C4
  have h5 := hxb9.tk s5 (by decide)
  have A5 := nine_other (g := w2.heap.size) (.int .i64 a.code) (.int .i64 a.ep) (.bool a.pr) (.bool a.sa) (.slice pk a.key.length ck) (.int .i64 a.si) (.slice none 0 0) (.slice none 0 0) (.bool a.mo) A4 nR2
  have B5 := nine_below (.int .i64 a.code) (.int .i64 a.ep) (.bool a.pr) (.bool a.sa) (.slice pk a.key.length ck) (.int .i64 a.si) (.slice none 0 0) (.slice none 0 0) (.bool a.mo) B4 (show w.heap.size ≤ w2.heap.size by omega)
  have r5 := hrow.tk s5 (by decide)
  by_cases hz : e = 0
  · have F := nine_tk (.int .i64 a.code) (.int .i64 a.ep) (.bool a.pr) (.bool a.sa) (.slice pk a.key.length ck) (.int .i64 a.si) (.slice none 0 0) (.slice none 0 0) (.bool a.mo) A5
    have bd := Below.drew (Below.refl (nineS (nineS w4 w2.heap.size (.int .i64 a.code) (.int .i64 a.ep) (.bool a.pr) (.bool a.sa) (.slice pk a.key.length ck) (.int .i64 a.si) (.slice none 0 0) (.slice none 0 0) (.bool a.mo)) w.heap.size (.int .i64 a.code) (.int .i64 a.ep) (.bool a.pr) (.bool a.sa) (.slice pk a.key.length ck) (.int .i64 a.si) (.slice none 0 0) (.slice none 0 0) (.bool a.mo)).heap.size (nineS (nineS w4 w2.heap.size (.int .i64 a.code) (.int .i64 a.ep) (.bool a.pr) (.bool a.sa) (.slice pk a.key.length ck) (.int .i64 a.si) (.slice none 0 0) (.slice none 0 0) (.bool a.mo)) w.heap.size (.int .i64 a.code) (.int .i64 a.ep) (.bool a.pr) (.bool a.sa) (.slice pk a.key.length ck) (.int .i64 a.si) (.slice none 0 0) (.slice none 0 0) (.bool a.mo)))
    have FR := (h5.tk F (by decide)).later bd
    have FB := Below.drew (nine_below (.int .i64 a.code) (.int .i64 a.ep) (.bool a.pr) (.bool a.sa) (.slice pk a.key.length ck) (.int .i64 a.si) (.slice none 0 0) (.slice none 0 0) (.bool a.mo) B5 (Nat.le_refl _))
    have HFIN := hid_of (show RdTold D w (.returned (.tuple #[.agg #[.int .i64 a.code, .int .i64 a.ep, .bool a.pr, .bool a.sa, .slice pk a.key.length ck, .int .i64 a.si, .slice none 0 0, .slice none 0 0, .bool a.mo], .slice px l.length cx, .int .i64 0])) (nineS (nineS w4 w2.heap.size (.int .i64 a.code) (.int .i64 a.ep) (.bool a.pr) (.bool a.sa) (.slice pk a.key.length ck) (.int .i64 a.si) (.slice none 0 0) (.slice none 0 0) (.bool a.mo)) w.heap.size (.int .i64 a.code) (.int .i64 a.ep) (.bool a.pr) (.bool a.sa) (.slice pk a.key.length ck) (.int .i64 a.si) (.slice none 0 0) (.slice none 0 0) (.bool a.mo)).drew from by rw [HDK.out, hz]; exact ⟨FB, fun _ => ⟨.slice pk a.key.length ck, .slice none 0 0, .slice none 0 0, _, rfl, ⟨((r5.tk F (by decide)).later bd).1, (by rw [hits]; exact IA.nil _), (by rw [hevs]; exact EA.nil _)⟩, FR.1⟩, fun h => absurd rfl h⟩)
    unfold nineS at HFIN
    subst hz
    clear F bd FR FB hxd9 hxb9 HDK s5 h5 A5 B5 r5 hrow A4 C4 B4 h4 o4 t4 HW3 C3 A3 x3 B3 hD
    go_wp2
    go_region
    all_goals go_wp2
    all_goals
      refine bodyPost_ret (v := .tuple #[.agg #[.int .i64 a.code, .int .i64 a.ep, .bool a.pr, .bool a.sa, .slice pk a.key.length ck, .int .i64 a.si, .slice none 0 0, .slice none 0 0, .bool a.mo], .slice px l.length cx, .int .i64 0]) ?_ rfl HFIN.out
      simp only [results, Try.results7]
      go_simp
  · have FB := Below.drew (nine_below (.int .i64 0) (.int .i64 0) (.bool false) (.bool false) (.slice none 0 0) (.int .i64 0) (.slice none 0 0) (.slice none 0 0) (.bool false) B5 (Nat.le_refl _))
    have HBAD := hid_of (show RdTold D w (.returned (.tuple #[.agg zeroC, .slice none 0 0, .int .i64 e])) (nineS (nineS w4 w2.heap.size (.int .i64 a.code) (.int .i64 a.ep) (.bool a.pr) (.bool a.sa) (.slice pk a.key.length ck) (.int .i64 a.si) (.slice none 0 0) (.slice none 0 0) (.bool a.mo)) w.heap.size (.int .i64 0) (.int .i64 0) (.bool false) (.bool false) (.slice none 0 0) (.int .i64 0) (.slice none 0 0) (.slice none 0 0) (.bool false)).drew from by rw [HDK.out]; exact ⟨FB, fun h => absurd h hz, fun _ => rfl⟩)
    unfold nineS at HBAD
    have hne : (e != 0) = true := by simpa using hz
    clear FB HDK hz hxd9 hxb9 s5 h5 A5 B5 r5 hrow A4 C4 B4 h4 o4 t4 HW3 C3 A3 x3 B3 hD
    go_wp2
    go_region
    all_goals go_wp2
    all_goals
      refine bodyPost_ret (v := .tuple #[.agg zeroC, .slice none 0 0, .int .i64 e]) ?_ rfl HBAD.out
      simp only [results, Try.results7, zeroC]
      go_simp

set_option maxHeartbeats 600000 in
theorem rrk6 (v : Value) (b : List UInt8) (w : World) (hv : HB w v b) (hsz : b.length ≤ 140737488351232) (e0 : Int) (cd : Nat) (l1 : List UInt8) (hu : rdU b 0 2147483648 = (e0, cd, l1)) (D : Int × List UInt8 × AA) (he : Hid (e0 = 0)) (hcd : Hid (cd = 0)) (hD : Hid (D = rdK 6 l1 0 AA0)) :
    Calls Try.prog 7 #[.int .i64 6, v] w (RdTold D w) := by
  rw [hcd.out] at hu
  have bA := (Below.refl w.heap.size w).alloc (Nat.le_refl _) (.cells #[.int .i64 0, .int .i64 0, .bool false, .bool false, .slice none 0 0, .int .i64 0, .slice none 0 0, .slice none 0 0, .bool false] 27)
  have gA := CB.made 27 w #[.int .i64 0, .int .i64 0, .bool false, .bool false, .slice none 0 0, .int .i64 0, .slice none 0 0, .slice none 0 0, .bool false]
  obtain ⟨p, c, rfl⟩ := hv.shape
  obtain ⟨V, hV⟩ : ∃ V, V = w.alloc (.cells #[.int .i64 0, .int .i64 0, .bool false, .bool false, .slice none 0 0, .int .i64 0, .slice none 0 0, .slice none 0 0, .bool false] 27) := ⟨_, rfl⟩
  rw [← hV] at bA gA
  have bV := (Below.refl V.heap.size V).alloc (Nat.le_refl _) (.cells #[] 5)
  have hf := (hv.later bA).later bV
  have sV1 : V.heap.size = w.heap.size + 1 := by rw [hV]; simp
  have hmade : (V.alloc (.cells #[] 5)).ownsRow (w.heap.size + 1) 5 1 (.slice (some ⟨w.heap.size + 1, 0, none⟩) 0 0) 0 (bcs []) := by
    have := World.ownsRow_made (e := 5) (size := 1) (base := V.heap.size) V #[] 0 (Nat.le_refl _) (Nat.zero_le _) rfl
    rw [sV1] at this
    exact this
  rw [hV] at hf hmade
  clear hv
  go_enter Try.func7, Try.ntmps7
  go_wp2_with (first | (at_builtin; refine wpList_append_hb rfl (.tmp 9) (.tmp 10) 22 rfl (w.heap.size + 1) 5 Try.underlying22 i_u8 _ 0 (bcs []) rfl hmade _ _ _ b rfl hf ?qa ?qb ?_))
  case qa => omega
  try case qb => simp
  intro v1 w1 hown1 hgrow1
  rw [← hV] at hgrow1
  rw [← sV1] at hown1
  have hb1 : Below V.heap.size V w1 := bV.grown hgrow1 (by simp) (by intro k hk; cases hk; show _ ≤ w.heap.size + 1; omega)
  have hown1' : w1.ownsRow V.heap.size 5 1 v1 b.length (bcs b) := by simpa [bcs] using hown1
  have hlt := hown1'.lt
  obtain ⟨p1, d1, rfl⟩ := owns_shape hown1'
  have hh := HB.of_owns hown1'
  have hty := fun a n c (e : Value.slice p1 b.length d1 = .slice (some a) n c) => TY.of_owns hown1' e
  have bW := (Below.refl w1.heap.size w1).alloc (Nat.le_refl _) (.cells #[.slice p1 b.length d1, .int .i64 0] 47)
  have x2 : XR (w1.alloc (.cells #[.slice p1 b.length d1, .int .i64 0] 47)) w1.heap.size b 0 := ⟨p1, d1, heap_alloc_new w1 _, hh.later bW, fun a n c e => ⟨by have := (hlt a.block (by rw [e]; rfl)).2; omega, (hty a n c e).later bW⟩⟩
  have bw1 : Below w.heap.size w w1 := bA.trans (hb1.mono bA.size)
  have a1 : CB 27 w1 w.heap.size #[.int .i64 0, .int .i64 0, .bool false, .bool false, .slice none 0 0, .int .i64 0, .slice none 0 0, .slice none 0 0, .bool false] := gA.later hb1
  have bw2 : Below w.heap.size w _ := bw1.trans (bW.mono bw1.size)
  have a2 := a1.later bW
  have HU := xuint_all w1.heap.size b 0 2147483648 _ x2 (fun h => absurd rfl h) (by omega)
  rw [hu] at HU
  simp only at HU
  have hul : l1.length ≤ b.length := by have := (rdU_suf b 0 2147483648).length_le; rw [hu] at this; exact this
  have hfu : e0 ≠ 0 → l1 = [] := by have := rdU_fellX b 0 2147483648 (fun h => absurd rfl h); rw [hu] at this; exact this
  have hs1 : w.heap.size < w1.heap.size := a1.lt
  clear hu hgrow1 hown1 hown1' hh hty hmade hf bV hb1 hV gA bA bW hlt sV1
  go_wp2_with fail
  refine HU.mono ?_
  rintro x w2 ⟨rfl, hx2, ho2⟩
  obtain ⟨cs0, f0, hg0⟩ := x2.typed
  have t2 := TK.of_only ho2 hg0
  have A2 : CB 27 w2 w.heap.size #[.int .i64 0, .int .i64 0, .bool false, .bool false, .slice none 0 0, .int .i64 0, .slice none 0 0, .slice none 0 0, .bool false] := t2 _ _ _ _ a2 (by decide)
  have bw3 : Below w.heap.size w w2 := bw2.trans (ho2.below bw1.size)
  have hgl : w1.heap.size < w2.heap.size := by obtain ⟨cs1, f1, h1⟩ := hx2.typed; exact (Array.getElem?_eq_some_iff.1 h1).1
  have bC := (Below.refl w2.heap.size w2).alloc (Nat.le_refl _) (.cells #[.int .i64 0, .int .i64 0, .bool false, .bool false, .slice none 0 0, .int .i64 0, .slice none 0 0, .slice none 0 0, .bool false] 27)
  have C3 := CB.made 27 w2 #[.int .i64 0, .int .i64 0, .bool false, .bool false, .slice none 0 0, .int .i64 0, .slice none 0 0, .slice none 0 0, .bool false]
  have A3 := A2.later bC
  have x3 := hx2.later bC
  have B3 := bw3.trans (bC.mono bw3.size)
  have nR1 : ¬ w.heap.size = w1.heap.size := by omega
  have nR2 : ¬ w.heap.size = w2.heap.size := by omega
  have n12 : ¬ w1.heap.size = w2.heap.size := by omega
  have nR2' : ¬ w2.heap.size = w.heap.size := by omega
  have nR1' : ¬ w1.heap.size = w.heap.size := by omega
  have n12' : ¬ w2.heap.size = w1.heap.size := by omega
  obtain ⟨px2, cx2, hxd2, hxb2⟩ := hx2
  obtain ⟨k0, k1⟩ := hxd2.cells
  obtain ⟨a0, a1', a2', a3, a4, a5, a6, a7, a8⟩ := nine A2
  have fz := fun i => A2.free i
  have hRl : w.heap.size < w2.heap.size := A2.lt
  clear HU ho2 t2 hg0 a2 x2 bw2 a1 bw1 hxd2 bC
  obtain ⟨W3, hW3⟩ : ∃ x, x = w2.alloc (.cells #[.int .i64 0, .int .i64 0, .bool false, .bool false, .slice none 0 0, .int .i64 0, .slice none 0 0, .slice none 0 0, .bool false] 27) := ⟨_, rfl⟩
  rw [← hW3] at C3 A3 x3 B3
  have HW3 := hid_of hW3
  clear hW3
  rw [he.out] at k1 x3
  obtain ⟨cs3, f3, hg3⟩ := x3.typed
  have HC : Calls Try.prog 20 #[.pointer (some ⟨w1.heap.size, 0, none⟩), .agg #[.int .i64 0, .int .i64 0, .bool false, .bool false, .slice none 0 0, .int .i64 0, .slice none 0 0, .slice none 0 0, .bool false]] W3 _ := rdiff_any w1.heap.size l1 0 W3 x3 (fun h => absurd rfl h) (by omega)
  unfold ansC at HC
  have hkey : (rdD l1 0 AA0).2.2.key = [] := by rfl
  have hevs : (rdD l1 0 AA0).2.2.evs = [] := by rfl
  have HDK := hid_of (hD.out.trans (show rdK 6 l1 0 AA0 = ((rdD l1 0 AA0).1, (rdD l1 0 AA0).2.1, (rdD l1 0 AA0).2.2) from rfl))
  generalize (rdD l1 0 AA0).1 = e at *
  generalize (rdD l1 0 AA0).2.1 = l at *
  generalize (rdD l1 0 AA0).2.2 = a at *
  rw [HW3.out] at HC
  go_wp2_with fail
  refine HC.mono ?_
  clear HC k0 k1 a0 a1' a2' a3 a4 a5 a6 a7 a8 fz hxb2 A2 bw3 hfu
  rintro x w4 ⟨iv, rfl, hrow, h4, o4⟩
  obtain ⟨pq, cq, rfl⟩ := hrow.shape
  rw [← HW3.out] at o4 hrow
  have t4 : TK 47 W3 w4 := TK.of_only o4 hg3
  have A4 : CB 27 w4 w.heap.size #[.int .i64 0, .int .i64 0, .bool false, .bool false, .slice none 0 0, .int .i64 0, .slice none 0 0, .slice none 0 0, .bool false] := t4 _ _ _ _ A3 (by decide)
  have C4 : CB 27 w4 w2.heap.size #[.int .i64 0, .int .i64 0, .bool false, .bool false, .slice none 0 0, .int .i64 0, .slice none 0 0, .slice none 0 0, .bool false] := t4 _ _ _ _ C3 (by decide)
  have B4 : Below w.heap.size w w4 := B3.trans (o4.below (by omega))
  obtain ⟨px, cx, hxd9, hxb9⟩ := id h4
  obtain ⟨k0, k1⟩ := hxd9.cells
  obtain ⟨a0, a1, a2, a3, a4, a5, a6, a7, a8⟩ := nine A4
  obtain ⟨m0, m1, m2, m3, m4, m5, m6, m7, m8⟩ := nine C4
  have fz := fun i => A4.free i
  have fy := fun i => C4.free i
  have s5 := nine_tk (.int .i64 a.code) (.int .i64 a.ep) (.bool a.pr) (.bool a.sa) (.slice none 0 0) (.int .i64 a.si) (.slice pq a.its.length cq) (.slice none 0 0) (.bool a.mo) C4
  have h5 := hxb9.tk s5 (by decide)
  have A5 := nine_other (g := w2.heap.size) (.int .i64 a.code) (.int .i64 a.ep) (.bool a.pr) (.bool a.sa) (.slice none 0 0) (.int .i64 a.si) (.slice pq a.its.length cq) (.slice none 0 0) (.bool a.mo) A4 nR2
  have B5 := nine_below (.int .i64 a.code) (.int .i64 a.ep) (.bool a.pr) (.bool a.sa) (.slice none 0 0) (.int .i64 a.si) (.slice pq a.its.length cq) (.slice none 0 0) (.bool a.mo) B4 (show w.heap.size ≤ w2.heap.size by omega)
  have r5 := hrow.tk s5 (by decide) (by decide)
  by_cases hz : e = 0
  · have F := nine_tk (.int .i64 a.code) (.int .i64 a.ep) (.bool a.pr) (.bool a.sa) (.slice none 0 0) (.int .i64 a.si) (.slice pq a.its.length cq) (.slice none 0 0) (.bool a.mo) A5
    have bd := Below.drew (Below.refl (nineS (nineS w4 w2.heap.size (.int .i64 a.code) (.int .i64 a.ep) (.bool a.pr) (.bool a.sa) (.slice none 0 0) (.int .i64 a.si) (.slice pq a.its.length cq) (.slice none 0 0) (.bool a.mo)) w.heap.size (.int .i64 a.code) (.int .i64 a.ep) (.bool a.pr) (.bool a.sa) (.slice none 0 0) (.int .i64 a.si) (.slice pq a.its.length cq) (.slice none 0 0) (.bool a.mo)).heap.size (nineS (nineS w4 w2.heap.size (.int .i64 a.code) (.int .i64 a.ep) (.bool a.pr) (.bool a.sa) (.slice none 0 0) (.int .i64 a.si) (.slice pq a.its.length cq) (.slice none 0 0) (.bool a.mo)) w.heap.size (.int .i64 a.code) (.int .i64 a.ep) (.bool a.pr) (.bool a.sa) (.slice none 0 0) (.int .i64 a.si) (.slice pq a.its.length cq) (.slice none 0 0) (.bool a.mo)))
    have FR := (h5.tk F (by decide)).later bd
    have FB := Below.drew (nine_below (.int .i64 a.code) (.int .i64 a.ep) (.bool a.pr) (.bool a.sa) (.slice none 0 0) (.int .i64 a.si) (.slice pq a.its.length cq) (.slice none 0 0) (.bool a.mo) B5 (Nat.le_refl _))
    have HFIN := hid_of (show RdTold D w (.returned (.tuple #[.agg #[.int .i64 a.code, .int .i64 a.ep, .bool a.pr, .bool a.sa, .slice none 0 0, .int .i64 a.si, .slice pq a.its.length cq, .slice none 0 0, .bool a.mo], .slice px l.length cx, .int .i64 0])) (nineS (nineS w4 w2.heap.size (.int .i64 a.code) (.int .i64 a.ep) (.bool a.pr) (.bool a.sa) (.slice none 0 0) (.int .i64 a.si) (.slice pq a.its.length cq) (.slice none 0 0) (.bool a.mo)) w.heap.size (.int .i64 a.code) (.int .i64 a.ep) (.bool a.pr) (.bool a.sa) (.slice none 0 0) (.int .i64 a.si) (.slice pq a.its.length cq) (.slice none 0 0) (.bool a.mo)).drew from by rw [HDK.out, hz]; exact ⟨FB, fun _ => ⟨.slice none 0 0, .slice pq a.its.length cq, .slice none 0 0, _, rfl, ⟨(by rw [hkey]; exact HB.nil _), (r5.tk F (by decide) (by decide)).ia.later bd, (by rw [hevs]; exact EA.nil _)⟩, FR.1⟩, fun h => absurd rfl h⟩)
    unfold nineS at HFIN
    subst hz
    clear F bd FR FB hxd9 hxb9 HDK s5 h5 A5 B5 r5 hrow A4 C4 B4 h4 o4 t4 HW3 C3 A3 x3 B3 hD
    go_wp2
    go_region
    all_goals go_wp2
    all_goals
      refine bodyPost_ret (v := .tuple #[.agg #[.int .i64 a.code, .int .i64 a.ep, .bool a.pr, .bool a.sa, .slice none 0 0, .int .i64 a.si, .slice pq a.its.length cq, .slice none 0 0, .bool a.mo], .slice px l.length cx, .int .i64 0]) ?_ rfl HFIN.out
      simp only [results, Try.results7]
      go_simp
  · have FB := Below.drew (nine_below (.int .i64 0) (.int .i64 0) (.bool false) (.bool false) (.slice none 0 0) (.int .i64 0) (.slice none 0 0) (.slice none 0 0) (.bool false) B5 (Nat.le_refl _))
    have HBAD := hid_of (show RdTold D w (.returned (.tuple #[.agg zeroC, .slice none 0 0, .int .i64 e])) (nineS (nineS w4 w2.heap.size (.int .i64 a.code) (.int .i64 a.ep) (.bool a.pr) (.bool a.sa) (.slice none 0 0) (.int .i64 a.si) (.slice pq a.its.length cq) (.slice none 0 0) (.bool a.mo)) w.heap.size (.int .i64 0) (.int .i64 0) (.bool false) (.bool false) (.slice none 0 0) (.int .i64 0) (.slice none 0 0) (.slice none 0 0) (.bool false)).drew from by rw [HDK.out]; exact ⟨FB, fun h => absurd h hz, fun _ => rfl⟩)
    unfold nineS at HBAD
    have hne : (e != 0) = true := by simpa using hz
    clear FB HDK hz hxd9 hxb9 s5 h5 A5 B5 r5 hrow A4 C4 B4 h4 o4 t4 HW3 C3 A3 x3 B3 hD
    go_wp2
    go_region
    all_goals go_wp2
    all_goals
      refine bodyPost_ret (v := .tuple #[.agg zeroC, .slice none 0 0, .int .i64 e]) ?_ rfl HBAD.out
      simp only [results, Try.results7, zeroC]
      go_simp

set_option maxHeartbeats 600000 in
theorem rrk10 (v : Value) (b : List UInt8) (w : World) (hv : HB w v b) (hsz : b.length ≤ 140737488351232) (e0 : Int) (cd : Nat) (l1 : List UInt8) (hu : rdU b 0 2147483648 = (e0, cd, l1)) (D : Int × List UInt8 × AA) (he : Hid (e0 = 0)) (hcd : Hid (cd = 0)) (hD : Hid (D = rdK 10 l1 0 AA0)) :
    Calls Try.prog 7 #[.int .i64 10, v] w (RdTold D w) := by
  rw [hcd.out] at hu
  have bA := (Below.refl w.heap.size w).alloc (Nat.le_refl _) (.cells #[.int .i64 0, .int .i64 0, .bool false, .bool false, .slice none 0 0, .int .i64 0, .slice none 0 0, .slice none 0 0, .bool false] 27)
  have gA := CB.made 27 w #[.int .i64 0, .int .i64 0, .bool false, .bool false, .slice none 0 0, .int .i64 0, .slice none 0 0, .slice none 0 0, .bool false]
  obtain ⟨p, c, rfl⟩ := hv.shape
  obtain ⟨V, hV⟩ : ∃ V, V = w.alloc (.cells #[.int .i64 0, .int .i64 0, .bool false, .bool false, .slice none 0 0, .int .i64 0, .slice none 0 0, .slice none 0 0, .bool false] 27) := ⟨_, rfl⟩
  rw [← hV] at bA gA
  have bV := (Below.refl V.heap.size V).alloc (Nat.le_refl _) (.cells #[] 5)
  have hf := (hv.later bA).later bV
  have sV1 : V.heap.size = w.heap.size + 1 := by rw [hV]; simp
  have hmade : (V.alloc (.cells #[] 5)).ownsRow (w.heap.size + 1) 5 1 (.slice (some ⟨w.heap.size + 1, 0, none⟩) 0 0) 0 (bcs []) := by
    have := World.ownsRow_made (e := 5) (size := 1) (base := V.heap.size) V #[] 0 (Nat.le_refl _) (Nat.zero_le _) rfl
    rw [sV1] at this
    exact this
  rw [hV] at hf hmade
  clear hv
  go_enter Try.func7, Try.ntmps7
  go_wp2_with (first | (at_builtin; refine wpList_append_hb rfl (.tmp 9) (.tmp 10) 22 rfl (w.heap.size + 1) 5 Try.underlying22 i_u8 _ 0 (bcs []) rfl hmade _ _ _ b rfl hf ?qa ?qb ?_))
  case qa => omega
  try case qb => simp
  intro v1 w1 hown1 hgrow1
  rw [← hV] at hgrow1
  rw [← sV1] at hown1
  have hb1 : Below V.heap.size V w1 := bV.grown hgrow1 (by simp) (by intro k hk; cases hk; show _ ≤ w.heap.size + 1; omega)
  have hown1' : w1.ownsRow V.heap.size 5 1 v1 b.length (bcs b) := by simpa [bcs] using hown1
  have hlt := hown1'.lt
  obtain ⟨p1, d1, rfl⟩ := owns_shape hown1'
  have hh := HB.of_owns hown1'
  have hty := fun a n c (e : Value.slice p1 b.length d1 = .slice (some a) n c) => TY.of_owns hown1' e
  have bW := (Below.refl w1.heap.size w1).alloc (Nat.le_refl _) (.cells #[.slice p1 b.length d1, .int .i64 0] 47)
  have x2 : XR (w1.alloc (.cells #[.slice p1 b.length d1, .int .i64 0] 47)) w1.heap.size b 0 := ⟨p1, d1, heap_alloc_new w1 _, hh.later bW, fun a n c e => ⟨by have := (hlt a.block (by rw [e]; rfl)).2; omega, (hty a n c e).later bW⟩⟩
  have bw1 : Below w.heap.size w w1 := bA.trans (hb1.mono bA.size)
  have a1 : CB 27 w1 w.heap.size #[.int .i64 0, .int .i64 0, .bool false, .bool false, .slice none 0 0, .int .i64 0, .slice none 0 0, .slice none 0 0, .bool false] := gA.later hb1
  have bw2 : Below w.heap.size w _ := bw1.trans (bW.mono bw1.size)
  have a2 := a1.later bW
  have HU := xuint_all w1.heap.size b 0 2147483648 _ x2 (fun h => absurd rfl h) (by omega)
  rw [hu] at HU
  simp only at HU
  have hul : l1.length ≤ b.length := by have := (rdU_suf b 0 2147483648).length_le; rw [hu] at this; exact this
  have hfu : e0 ≠ 0 → l1 = [] := by have := rdU_fellX b 0 2147483648 (fun h => absurd rfl h); rw [hu] at this; exact this
  have hs1 : w.heap.size < w1.heap.size := a1.lt
  clear hu hgrow1 hown1 hown1' hh hty hmade hf bV hb1 hV gA bA bW hlt sV1
  go_wp2_with fail
  refine HU.mono ?_
  rintro x w2 ⟨rfl, hx2, ho2⟩
  obtain ⟨cs0, f0, hg0⟩ := x2.typed
  have t2 := TK.of_only ho2 hg0
  have A2 : CB 27 w2 w.heap.size #[.int .i64 0, .int .i64 0, .bool false, .bool false, .slice none 0 0, .int .i64 0, .slice none 0 0, .slice none 0 0, .bool false] := t2 _ _ _ _ a2 (by decide)
  have bw3 : Below w.heap.size w w2 := bw2.trans (ho2.below bw1.size)
  have hgl : w1.heap.size < w2.heap.size := by obtain ⟨cs1, f1, h1⟩ := hx2.typed; exact (Array.getElem?_eq_some_iff.1 h1).1
  have bC := (Below.refl w2.heap.size w2).alloc (Nat.le_refl _) (.cells #[.int .i64 0, .int .i64 0, .bool false, .bool false, .slice none 0 0, .int .i64 0, .slice none 0 0, .slice none 0 0, .bool false] 27)
  have C3 := CB.made 27 w2 #[.int .i64 0, .int .i64 0, .bool false, .bool false, .slice none 0 0, .int .i64 0, .slice none 0 0, .slice none 0 0, .bool false]
  have A3 := A2.later bC
  have x3 := hx2.later bC
  have B3 := bw3.trans (bC.mono bw3.size)
  have nR1 : ¬ w.heap.size = w1.heap.size := by omega
  have nR2 : ¬ w.heap.size = w2.heap.size := by omega
  have n12 : ¬ w1.heap.size = w2.heap.size := by omega
  have nR2' : ¬ w2.heap.size = w.heap.size := by omega
  have nR1' : ¬ w1.heap.size = w.heap.size := by omega
  have n12' : ¬ w2.heap.size = w1.heap.size := by omega
  obtain ⟨px2, cx2, hxd2, hxb2⟩ := hx2
  obtain ⟨k0, k1⟩ := hxd2.cells
  obtain ⟨a0, a1', a2', a3, a4, a5, a6, a7, a8⟩ := nine A2
  have fz := fun i => A2.free i
  have hRl : w.heap.size < w2.heap.size := A2.lt
  clear HU ho2 t2 hg0 a2 x2 bw2 a1 bw1 hxd2 bC
  obtain ⟨W3, hW3⟩ : ∃ x, x = w2.alloc (.cells #[.int .i64 0, .int .i64 0, .bool false, .bool false, .slice none 0 0, .int .i64 0, .slice none 0 0, .slice none 0 0, .bool false] 27) := ⟨_, rfl⟩
  rw [← hW3] at C3 A3 x3 B3
  have HW3 := hid_of hW3
  clear hW3
  rw [he.out] at k1 x3
  obtain ⟨cs3, f3, hg3⟩ := x3.typed
  have HC : Calls Try.prog 20 #[.pointer (some ⟨w1.heap.size, 0, none⟩), .agg #[.int .i64 0, .int .i64 0, .bool false, .bool false, .slice none 0 0, .int .i64 0, .slice none 0 0, .slice none 0 0, .bool false]] W3 _ := rdiff_any w1.heap.size l1 0 W3 x3 (fun h => absurd rfl h) (by omega)
  unfold ansC at HC
  have hkey : (rdD l1 0 AA0).2.2.key = [] := by rfl
  have hevs : (rdD l1 0 AA0).2.2.evs = [] := by rfl
  have HDK := hid_of (hD.out.trans (show rdK 10 l1 0 AA0 = ((rdD l1 0 AA0).1, (rdD l1 0 AA0).2.1, (rdD l1 0 AA0).2.2) from rfl))
  generalize (rdD l1 0 AA0).1 = e at *
  generalize (rdD l1 0 AA0).2.1 = l at *
  generalize (rdD l1 0 AA0).2.2 = a at *
  rw [HW3.out] at HC
  go_wp2_with fail
  refine HC.mono ?_
  clear HC k0 k1 a0 a1' a2' a3 a4 a5 a6 a7 a8 fz hxb2 A2 bw3 hfu
  rintro x w4 ⟨iv, rfl, hrow, h4, o4⟩
  obtain ⟨pq, cq, rfl⟩ := hrow.shape
  rw [← HW3.out] at o4 hrow
  have t4 : TK 47 W3 w4 := TK.of_only o4 hg3
  have A4 : CB 27 w4 w.heap.size #[.int .i64 0, .int .i64 0, .bool false, .bool false, .slice none 0 0, .int .i64 0, .slice none 0 0, .slice none 0 0, .bool false] := t4 _ _ _ _ A3 (by decide)
  have C4 : CB 27 w4 w2.heap.size #[.int .i64 0, .int .i64 0, .bool false, .bool false, .slice none 0 0, .int .i64 0, .slice none 0 0, .slice none 0 0, .bool false] := t4 _ _ _ _ C3 (by decide)
  have B4 : Below w.heap.size w w4 := B3.trans (o4.below (by omega))
  obtain ⟨px, cx, hxd9, hxb9⟩ := id h4
  obtain ⟨k0, k1⟩ := hxd9.cells
  obtain ⟨a0, a1, a2, a3, a4, a5, a6, a7, a8⟩ := nine A4
  obtain ⟨m0, m1, m2, m3, m4, m5, m6, m7, m8⟩ := nine C4
  have fz := fun i => A4.free i
  have fy := fun i => C4.free i
  have s5 := nine_tk (.int .i64 a.code) (.int .i64 a.ep) (.bool a.pr) (.bool a.sa) (.slice none 0 0) (.int .i64 a.si) (.slice pq a.its.length cq) (.slice none 0 0) (.bool a.mo) C4
  have h5 := hxb9.tk s5 (by decide)
  have A5 := nine_other (g := w2.heap.size) (.int .i64 a.code) (.int .i64 a.ep) (.bool a.pr) (.bool a.sa) (.slice none 0 0) (.int .i64 a.si) (.slice pq a.its.length cq) (.slice none 0 0) (.bool a.mo) A4 nR2
  have B5 := nine_below (.int .i64 a.code) (.int .i64 a.ep) (.bool a.pr) (.bool a.sa) (.slice none 0 0) (.int .i64 a.si) (.slice pq a.its.length cq) (.slice none 0 0) (.bool a.mo) B4 (show w.heap.size ≤ w2.heap.size by omega)
  have r5 := hrow.tk s5 (by decide) (by decide)
  by_cases hz : e = 0
  · have F := nine_tk (.int .i64 a.code) (.int .i64 a.ep) (.bool a.pr) (.bool a.sa) (.slice none 0 0) (.int .i64 a.si) (.slice pq a.its.length cq) (.slice none 0 0) (.bool a.mo) A5
    have bd := Below.drew (Below.refl (nineS (nineS w4 w2.heap.size (.int .i64 a.code) (.int .i64 a.ep) (.bool a.pr) (.bool a.sa) (.slice none 0 0) (.int .i64 a.si) (.slice pq a.its.length cq) (.slice none 0 0) (.bool a.mo)) w.heap.size (.int .i64 a.code) (.int .i64 a.ep) (.bool a.pr) (.bool a.sa) (.slice none 0 0) (.int .i64 a.si) (.slice pq a.its.length cq) (.slice none 0 0) (.bool a.mo)).heap.size (nineS (nineS w4 w2.heap.size (.int .i64 a.code) (.int .i64 a.ep) (.bool a.pr) (.bool a.sa) (.slice none 0 0) (.int .i64 a.si) (.slice pq a.its.length cq) (.slice none 0 0) (.bool a.mo)) w.heap.size (.int .i64 a.code) (.int .i64 a.ep) (.bool a.pr) (.bool a.sa) (.slice none 0 0) (.int .i64 a.si) (.slice pq a.its.length cq) (.slice none 0 0) (.bool a.mo)))
    have FR := (h5.tk F (by decide)).later bd
    have FB := Below.drew (nine_below (.int .i64 a.code) (.int .i64 a.ep) (.bool a.pr) (.bool a.sa) (.slice none 0 0) (.int .i64 a.si) (.slice pq a.its.length cq) (.slice none 0 0) (.bool a.mo) B5 (Nat.le_refl _))
    have HFIN := hid_of (show RdTold D w (.returned (.tuple #[.agg #[.int .i64 a.code, .int .i64 a.ep, .bool a.pr, .bool a.sa, .slice none 0 0, .int .i64 a.si, .slice pq a.its.length cq, .slice none 0 0, .bool a.mo], .slice px l.length cx, .int .i64 0])) (nineS (nineS w4 w2.heap.size (.int .i64 a.code) (.int .i64 a.ep) (.bool a.pr) (.bool a.sa) (.slice none 0 0) (.int .i64 a.si) (.slice pq a.its.length cq) (.slice none 0 0) (.bool a.mo)) w.heap.size (.int .i64 a.code) (.int .i64 a.ep) (.bool a.pr) (.bool a.sa) (.slice none 0 0) (.int .i64 a.si) (.slice pq a.its.length cq) (.slice none 0 0) (.bool a.mo)).drew from by rw [HDK.out, hz]; exact ⟨FB, fun _ => ⟨.slice none 0 0, .slice pq a.its.length cq, .slice none 0 0, _, rfl, ⟨(by rw [hkey]; exact HB.nil _), (r5.tk F (by decide) (by decide)).ia.later bd, (by rw [hevs]; exact EA.nil _)⟩, FR.1⟩, fun h => absurd rfl h⟩)
    unfold nineS at HFIN
    subst hz
    clear F bd FR FB hxd9 hxb9 HDK s5 h5 A5 B5 r5 hrow A4 C4 B4 h4 o4 t4 HW3 C3 A3 x3 B3 hD
    go_wp2
    go_region
    all_goals go_wp2
    all_goals
      refine bodyPost_ret (v := .tuple #[.agg #[.int .i64 a.code, .int .i64 a.ep, .bool a.pr, .bool a.sa, .slice none 0 0, .int .i64 a.si, .slice pq a.its.length cq, .slice none 0 0, .bool a.mo], .slice px l.length cx, .int .i64 0]) ?_ rfl HFIN.out
      simp only [results, Try.results7]
      go_simp
  · have FB := Below.drew (nine_below (.int .i64 0) (.int .i64 0) (.bool false) (.bool false) (.slice none 0 0) (.int .i64 0) (.slice none 0 0) (.slice none 0 0) (.bool false) B5 (Nat.le_refl _))
    have HBAD := hid_of (show RdTold D w (.returned (.tuple #[.agg zeroC, .slice none 0 0, .int .i64 e])) (nineS (nineS w4 w2.heap.size (.int .i64 a.code) (.int .i64 a.ep) (.bool a.pr) (.bool a.sa) (.slice none 0 0) (.int .i64 a.si) (.slice pq a.its.length cq) (.slice none 0 0) (.bool a.mo)) w.heap.size (.int .i64 0) (.int .i64 0) (.bool false) (.bool false) (.slice none 0 0) (.int .i64 0) (.slice none 0 0) (.slice none 0 0) (.bool false)).drew from by rw [HDK.out]; exact ⟨FB, fun h => absurd h hz, fun _ => rfl⟩)
    unfold nineS at HBAD
    have hne : (e != 0) = true := by simpa using hz
    clear FB HDK hz hxd9 hxb9 s5 h5 A5 B5 r5 hrow A4 C4 B4 h4 o4 t4 HW3 C3 A3 x3 B3 hD
    go_wp2
    go_region
    all_goals go_wp2
    all_goals
      refine bodyPost_ret (v := .tuple #[.agg zeroC, .slice none 0 0, .int .i64 e]) ?_ rfl HBAD.out
      simp only [results, Try.results7, zeroC]
      go_simp

set_option maxHeartbeats 600000 in
theorem rrk7 (v : Value) (b : List UInt8) (w : World) (hv : HB w v b) (hsz : b.length ≤ 140737488351232) (e0 : Int) (cd : Nat) (l1 : List UInt8) (hu : rdU b 0 2147483648 = (e0, cd, l1)) (D : Int × List UInt8 × AA) (he : Hid (e0 = 0)) (hcd : Hid (cd = 0)) (hD : Hid (D = rdK 7 l1 0 AA0)) :
    Calls Try.prog 7 #[.int .i64 7, v] w (RdTold D w) := by
  rw [hcd.out] at hu
  have bA := (Below.refl w.heap.size w).alloc (Nat.le_refl _) (.cells #[.int .i64 0, .int .i64 0, .bool false, .bool false, .slice none 0 0, .int .i64 0, .slice none 0 0, .slice none 0 0, .bool false] 27)
  have gA := CB.made 27 w #[.int .i64 0, .int .i64 0, .bool false, .bool false, .slice none 0 0, .int .i64 0, .slice none 0 0, .slice none 0 0, .bool false]
  obtain ⟨p, c, rfl⟩ := hv.shape
  obtain ⟨V, hV⟩ : ∃ V, V = w.alloc (.cells #[.int .i64 0, .int .i64 0, .bool false, .bool false, .slice none 0 0, .int .i64 0, .slice none 0 0, .slice none 0 0, .bool false] 27) := ⟨_, rfl⟩
  rw [← hV] at bA gA
  have bV := (Below.refl V.heap.size V).alloc (Nat.le_refl _) (.cells #[] 5)
  have hf := (hv.later bA).later bV
  have sV1 : V.heap.size = w.heap.size + 1 := by rw [hV]; simp
  have hmade : (V.alloc (.cells #[] 5)).ownsRow (w.heap.size + 1) 5 1 (.slice (some ⟨w.heap.size + 1, 0, none⟩) 0 0) 0 (bcs []) := by
    have := World.ownsRow_made (e := 5) (size := 1) (base := V.heap.size) V #[] 0 (Nat.le_refl _) (Nat.zero_le _) rfl
    rw [sV1] at this
    exact this
  rw [hV] at hf hmade
  clear hv
  go_enter Try.func7, Try.ntmps7
  go_wp2_with (first | (at_builtin; refine wpList_append_hb rfl (.tmp 9) (.tmp 10) 22 rfl (w.heap.size + 1) 5 Try.underlying22 i_u8 _ 0 (bcs []) rfl hmade _ _ _ b rfl hf ?qa ?qb ?_))
  case qa => omega
  try case qb => simp
  intro v1 w1 hown1 hgrow1
  rw [← hV] at hgrow1
  rw [← sV1] at hown1
  have hb1 : Below V.heap.size V w1 := bV.grown hgrow1 (by simp) (by intro k hk; cases hk; show _ ≤ w.heap.size + 1; omega)
  have hown1' : w1.ownsRow V.heap.size 5 1 v1 b.length (bcs b) := by simpa [bcs] using hown1
  have hlt := hown1'.lt
  obtain ⟨p1, d1, rfl⟩ := owns_shape hown1'
  have hh := HB.of_owns hown1'
  have hty := fun a n c (e : Value.slice p1 b.length d1 = .slice (some a) n c) => TY.of_owns hown1' e
  have bW := (Below.refl w1.heap.size w1).alloc (Nat.le_refl _) (.cells #[.slice p1 b.length d1, .int .i64 0] 47)
  have x2 : XR (w1.alloc (.cells #[.slice p1 b.length d1, .int .i64 0] 47)) w1.heap.size b 0 := ⟨p1, d1, heap_alloc_new w1 _, hh.later bW, fun a n c e => ⟨by have := (hlt a.block (by rw [e]; rfl)).2; omega, (hty a n c e).later bW⟩⟩
  have bw1 : Below w.heap.size w w1 := bA.trans (hb1.mono bA.size)
  have a1 : CB 27 w1 w.heap.size #[.int .i64 0, .int .i64 0, .bool false, .bool false, .slice none 0 0, .int .i64 0, .slice none 0 0, .slice none 0 0, .bool false] := gA.later hb1
  have bw2 : Below w.heap.size w _ := bw1.trans (bW.mono bw1.size)
  have a2 := a1.later bW
  have HU := xuint_all w1.heap.size b 0 2147483648 _ x2 (fun h => absurd rfl h) (by omega)
  rw [hu] at HU
  simp only at HU
  have hul : l1.length ≤ b.length := by have := (rdU_suf b 0 2147483648).length_le; rw [hu] at this; exact this
  have hfu : e0 ≠ 0 → l1 = [] := by have := rdU_fellX b 0 2147483648 (fun h => absurd rfl h); rw [hu] at this; exact this
  have hs1 : w.heap.size < w1.heap.size := a1.lt
  clear hu hgrow1 hown1 hown1' hh hty hmade hf bV hb1 hV gA bA bW hlt sV1
  go_wp2_with fail
  refine HU.mono ?_
  rintro x w2 ⟨rfl, hx2, ho2⟩
  obtain ⟨cs0, f0, hg0⟩ := x2.typed
  have t2 := TK.of_only ho2 hg0
  have A2 : CB 27 w2 w.heap.size #[.int .i64 0, .int .i64 0, .bool false, .bool false, .slice none 0 0, .int .i64 0, .slice none 0 0, .slice none 0 0, .bool false] := t2 _ _ _ _ a2 (by decide)
  have bw3 : Below w.heap.size w w2 := bw2.trans (ho2.below bw1.size)
  have hgl : w1.heap.size < w2.heap.size := by obtain ⟨cs1, f1, h1⟩ := hx2.typed; exact (Array.getElem?_eq_some_iff.1 h1).1
  have bC := (Below.refl w2.heap.size w2).alloc (Nat.le_refl _) (.cells #[.int .i64 0, .int .i64 0, .bool false, .bool false, .slice none 0 0, .int .i64 0, .slice none 0 0, .slice none 0 0, .bool false] 27)
  have C3 := CB.made 27 w2 #[.int .i64 0, .int .i64 0, .bool false, .bool false, .slice none 0 0, .int .i64 0, .slice none 0 0, .slice none 0 0, .bool false]
  have A3 := A2.later bC
  have x3 := hx2.later bC
  have B3 := bw3.trans (bC.mono bw3.size)
  have nR1 : ¬ w.heap.size = w1.heap.size := by omega
  have nR2 : ¬ w.heap.size = w2.heap.size := by omega
  have n12 : ¬ w1.heap.size = w2.heap.size := by omega
  have nR2' : ¬ w2.heap.size = w.heap.size := by omega
  have nR1' : ¬ w1.heap.size = w.heap.size := by omega
  have n12' : ¬ w2.heap.size = w1.heap.size := by omega
  obtain ⟨px2, cx2, hxd2, hxb2⟩ := hx2
  obtain ⟨k0, k1⟩ := hxd2.cells
  obtain ⟨a0, a1', a2', a3, a4, a5, a6, a7, a8⟩ := nine A2
  have fz := fun i => A2.free i
  have hRl : w.heap.size < w2.heap.size := A2.lt
  clear HU ho2 t2 hg0 a2 x2 bw2 a1 bw1 hxd2 bC
  obtain ⟨W3, hW3⟩ : ∃ x, x = w2.alloc (.cells #[.int .i64 0, .int .i64 0, .bool false, .bool false, .slice none 0 0, .int .i64 0, .slice none 0 0, .slice none 0 0, .bool false] 27) := ⟨_, rfl⟩
  rw [← hW3] at C3 A3 x3 B3
  have HW3 := hid_of hW3
  clear hW3
  rw [he.out] at k1 x3
  obtain ⟨cs3, f3, hg3⟩ := x3.typed
  have HC : Calls Try.prog 21 #[.pointer (some ⟨w1.heap.size, 0, none⟩), .agg #[.int .i64 0, .int .i64 0, .bool false, .bool false, .slice none 0 0, .int .i64 0, .slice none 0 0, .slice none 0 0, .bool false]] W3 _ := rfeed_any w1.heap.size l1 0 W3 x3 (fun h => absurd rfl h) (by omega)
  unfold ansC at HC
  have hkey : (rdFd l1 0 AA0).2.2.key = [] := by unfold rdFd; split <;> rfl
  have hits : (rdFd l1 0 AA0).2.2.its = [] := by unfold rdFd; split <;> rfl
  have HDK := hid_of (hD.out.trans (show rdK 7 l1 0 AA0 = ((rdFd l1 0 AA0).1, (rdFd l1 0 AA0).2.1, (rdFd l1 0 AA0).2.2) from rfl))
  generalize (rdFd l1 0 AA0).1 = e at *
  generalize (rdFd l1 0 AA0).2.1 = l at *
  generalize (rdFd l1 0 AA0).2.2 = a at *
  rw [HW3.out] at HC
  go_wp2_with fail
  refine HC.mono ?_
  clear HC k0 k1 a0 a1' a2' a3 a4 a5 a6 a7 a8 fz hxb2 A2 bw3 hfu
  rintro x w4 ⟨iv, rfl, hrow, h4, o4⟩
  obtain ⟨pq, cq, rfl⟩ := hrow.shape
  rw [← HW3.out] at o4 hrow
  have t4 : TK 47 W3 w4 := TK.of_only o4 hg3
  have A4 : CB 27 w4 w.heap.size #[.int .i64 0, .int .i64 0, .bool false, .bool false, .slice none 0 0, .int .i64 0, .slice none 0 0, .slice none 0 0, .bool false] := t4 _ _ _ _ A3 (by decide)
  have C4 : CB 27 w4 w2.heap.size #[.int .i64 0, .int .i64 0, .bool false, .bool false, .slice none 0 0, .int .i64 0, .slice none 0 0, .slice none 0 0, .bool false] := t4 _ _ _ _ C3 (by decide)
  have B4 : Below w.heap.size w w4 := B3.trans (o4.below (by omega))
  obtain ⟨px, cx, hxd9, hxb9⟩ := id h4
  obtain ⟨k0, k1⟩ := hxd9.cells
  obtain ⟨a0, a1, a2, a3, a4, a5, a6, a7, a8⟩ := nine A4
  obtain ⟨m0, m1, m2, m3, m4, m5, m6, m7, m8⟩ := nine C4
  have fz := fun i => A4.free i
  have fy := fun i => C4.free i
  have s5 := nine_tk (.int .i64 a.code) (.int .i64 a.ep) (.bool a.pr) (.bool a.sa) (.slice none 0 0) (.int .i64 a.si) (.slice none 0 0) (.slice pq a.evs.length cq) (.bool a.mo) C4
  have h5 := hxb9.tk s5 (by decide)
  have A5 := nine_other (g := w2.heap.size) (.int .i64 a.code) (.int .i64 a.ep) (.bool a.pr) (.bool a.sa) (.slice none 0 0) (.int .i64 a.si) (.slice none 0 0) (.slice pq a.evs.length cq) (.bool a.mo) A4 nR2
  have B5 := nine_below (.int .i64 a.code) (.int .i64 a.ep) (.bool a.pr) (.bool a.sa) (.slice none 0 0) (.int .i64 a.si) (.slice none 0 0) (.slice pq a.evs.length cq) (.bool a.mo) B4 (show w.heap.size ≤ w2.heap.size by omega)
  have r5 := hrow.tk s5 (by decide) (by decide)
  by_cases hz : e = 0
  · have F := nine_tk (.int .i64 a.code) (.int .i64 a.ep) (.bool a.pr) (.bool a.sa) (.slice none 0 0) (.int .i64 a.si) (.slice none 0 0) (.slice pq a.evs.length cq) (.bool a.mo) A5
    have bd := Below.drew (Below.refl (nineS (nineS w4 w2.heap.size (.int .i64 a.code) (.int .i64 a.ep) (.bool a.pr) (.bool a.sa) (.slice none 0 0) (.int .i64 a.si) (.slice none 0 0) (.slice pq a.evs.length cq) (.bool a.mo)) w.heap.size (.int .i64 a.code) (.int .i64 a.ep) (.bool a.pr) (.bool a.sa) (.slice none 0 0) (.int .i64 a.si) (.slice none 0 0) (.slice pq a.evs.length cq) (.bool a.mo)).heap.size (nineS (nineS w4 w2.heap.size (.int .i64 a.code) (.int .i64 a.ep) (.bool a.pr) (.bool a.sa) (.slice none 0 0) (.int .i64 a.si) (.slice none 0 0) (.slice pq a.evs.length cq) (.bool a.mo)) w.heap.size (.int .i64 a.code) (.int .i64 a.ep) (.bool a.pr) (.bool a.sa) (.slice none 0 0) (.int .i64 a.si) (.slice none 0 0) (.slice pq a.evs.length cq) (.bool a.mo)))
    have FR := (h5.tk F (by decide)).later bd
    have FB := Below.drew (nine_below (.int .i64 a.code) (.int .i64 a.ep) (.bool a.pr) (.bool a.sa) (.slice none 0 0) (.int .i64 a.si) (.slice none 0 0) (.slice pq a.evs.length cq) (.bool a.mo) B5 (Nat.le_refl _))
    have HFIN := hid_of (show RdTold D w (.returned (.tuple #[.agg #[.int .i64 a.code, .int .i64 a.ep, .bool a.pr, .bool a.sa, .slice none 0 0, .int .i64 a.si, .slice none 0 0, .slice pq a.evs.length cq, .bool a.mo], .slice px l.length cx, .int .i64 0])) (nineS (nineS w4 w2.heap.size (.int .i64 a.code) (.int .i64 a.ep) (.bool a.pr) (.bool a.sa) (.slice none 0 0) (.int .i64 a.si) (.slice none 0 0) (.slice pq a.evs.length cq) (.bool a.mo)) w.heap.size (.int .i64 a.code) (.int .i64 a.ep) (.bool a.pr) (.bool a.sa) (.slice none 0 0) (.int .i64 a.si) (.slice none 0 0) (.slice pq a.evs.length cq) (.bool a.mo)).drew from by rw [HDK.out, hz]; exact ⟨FB, fun _ => ⟨.slice none 0 0, .slice none 0 0, .slice pq a.evs.length cq, _, rfl, ⟨(by rw [hkey]; exact HB.nil _), (by rw [hits]; exact IA.nil _), (r5.tk F (by decide) (by decide)).ia.later bd⟩, FR.1⟩, fun h => absurd rfl h⟩)
    unfold nineS at HFIN
    subst hz
    clear F bd FR FB hxd9 hxb9 HDK s5 h5 A5 B5 r5 hrow A4 C4 B4 h4 o4 t4 HW3 C3 A3 x3 B3 hD
    go_wp2
    go_region
    all_goals go_wp2
    all_goals
      refine bodyPost_ret (v := .tuple #[.agg #[.int .i64 a.code, .int .i64 a.ep, .bool a.pr, .bool a.sa, .slice none 0 0, .int .i64 a.si, .slice none 0 0, .slice pq a.evs.length cq, .bool a.mo], .slice px l.length cx, .int .i64 0]) ?_ rfl HFIN.out
      simp only [results, Try.results7]
      go_simp
  · have FB := Below.drew (nine_below (.int .i64 0) (.int .i64 0) (.bool false) (.bool false) (.slice none 0 0) (.int .i64 0) (.slice none 0 0) (.slice none 0 0) (.bool false) B5 (Nat.le_refl _))
    have HBAD := hid_of (show RdTold D w (.returned (.tuple #[.agg zeroC, .slice none 0 0, .int .i64 e])) (nineS (nineS w4 w2.heap.size (.int .i64 a.code) (.int .i64 a.ep) (.bool a.pr) (.bool a.sa) (.slice none 0 0) (.int .i64 a.si) (.slice none 0 0) (.slice pq a.evs.length cq) (.bool a.mo)) w.heap.size (.int .i64 0) (.int .i64 0) (.bool false) (.bool false) (.slice none 0 0) (.int .i64 0) (.slice none 0 0) (.slice none 0 0) (.bool false)).drew from by rw [HDK.out]; exact ⟨FB, fun h => absurd h hz, fun _ => rfl⟩)
    unfold nineS at HBAD
    have hne : (e != 0) = true := by simpa using hz
    clear FB HDK hz hxd9 hxb9 s5 h5 A5 B5 r5 hrow A4 C4 B4 h4 o4 t4 HW3 C3 A3 x3 B3 hD
    go_wp2
    go_region
    all_goals go_wp2
    all_goals
      refine bodyPost_ret (v := .tuple #[.agg zeroC, .slice none 0 0, .int .i64 e]) ?_ rfl HBAD.out
      simp only [results, Try.results7, zeroC]
      go_simp

set_option maxHeartbeats 600000 in
theorem rrk4 (v : Value) (b : List UInt8) (w : World) (hv : HB w v b) (hsz : b.length ≤ 140737488351232) (e0 : Int) (cd : Nat) (l1 : List UInt8) (hu : rdU b 0 2147483648 = (e0, cd, l1)) (D : Int × List UInt8 × AA) (he : Hid (e0 = 0)) (hcd : Hid (cd = 0)) (hD : Hid (D = rdK 4 l1 0 AA0)) :
    Calls Try.prog 7 #[.int .i64 4, v] w (RdTold D w) := by
  rw [hcd.out] at hu
  have bA := (Below.refl w.heap.size w).alloc (Nat.le_refl _) (.cells #[.int .i64 0, .int .i64 0, .bool false, .bool false, .slice none 0 0, .int .i64 0, .slice none 0 0, .slice none 0 0, .bool false] 27)
  have gA := CB.made 27 w #[.int .i64 0, .int .i64 0, .bool false, .bool false, .slice none 0 0, .int .i64 0, .slice none 0 0, .slice none 0 0, .bool false]
  obtain ⟨p, c, rfl⟩ := hv.shape
  obtain ⟨V, hV⟩ : ∃ V, V = w.alloc (.cells #[.int .i64 0, .int .i64 0, .bool false, .bool false, .slice none 0 0, .int .i64 0, .slice none 0 0, .slice none 0 0, .bool false] 27) := ⟨_, rfl⟩
  rw [← hV] at bA gA
  have bV := (Below.refl V.heap.size V).alloc (Nat.le_refl _) (.cells #[] 5)
  have hf := (hv.later bA).later bV
  have sV1 : V.heap.size = w.heap.size + 1 := by rw [hV]; simp
  have hmade : (V.alloc (.cells #[] 5)).ownsRow (w.heap.size + 1) 5 1 (.slice (some ⟨w.heap.size + 1, 0, none⟩) 0 0) 0 (bcs []) := by
    have := World.ownsRow_made (e := 5) (size := 1) (base := V.heap.size) V #[] 0 (Nat.le_refl _) (Nat.zero_le _) rfl
    rw [sV1] at this
    exact this
  rw [hV] at hf hmade
  clear hv
  go_enter Try.func7, Try.ntmps7
  go_wp2_with (first | (at_builtin; refine wpList_append_hb rfl (.tmp 9) (.tmp 10) 22 rfl (w.heap.size + 1) 5 Try.underlying22 i_u8 _ 0 (bcs []) rfl hmade _ _ _ b rfl hf ?qa ?qb ?_))
  case qa => omega
  try case qb => simp
  intro v1 w1 hown1 hgrow1
  rw [← hV] at hgrow1
  rw [← sV1] at hown1
  have hb1 : Below V.heap.size V w1 := bV.grown hgrow1 (by simp) (by intro k hk; cases hk; show _ ≤ w.heap.size + 1; omega)
  have hown1' : w1.ownsRow V.heap.size 5 1 v1 b.length (bcs b) := by simpa [bcs] using hown1
  have hlt := hown1'.lt
  obtain ⟨p1, d1, rfl⟩ := owns_shape hown1'
  have hh := HB.of_owns hown1'
  have hty := fun a n c (e : Value.slice p1 b.length d1 = .slice (some a) n c) => TY.of_owns hown1' e
  have bW := (Below.refl w1.heap.size w1).alloc (Nat.le_refl _) (.cells #[.slice p1 b.length d1, .int .i64 0] 47)
  have x2 : XR (w1.alloc (.cells #[.slice p1 b.length d1, .int .i64 0] 47)) w1.heap.size b 0 := ⟨p1, d1, heap_alloc_new w1 _, hh.later bW, fun a n c e => ⟨by have := (hlt a.block (by rw [e]; rfl)).2; omega, (hty a n c e).later bW⟩⟩
  have bw1 : Below w.heap.size w w1 := bA.trans (hb1.mono bA.size)
  have a1 : CB 27 w1 w.heap.size #[.int .i64 0, .int .i64 0, .bool false, .bool false, .slice none 0 0, .int .i64 0, .slice none 0 0, .slice none 0 0, .bool false] := gA.later hb1
  have bw2 : Below w.heap.size w _ := bw1.trans (bW.mono bw1.size)
  have a2 := a1.later bW
  have HU := xuint_all w1.heap.size b 0 2147483648 _ x2 (fun h => absurd rfl h) (by omega)
  rw [hu] at HU
  simp only at HU
  have hul : l1.length ≤ b.length := by have := (rdU_suf b 0 2147483648).length_le; rw [hu] at this; exact this
  have hfu : e0 ≠ 0 → l1 = [] := by have := rdU_fellX b 0 2147483648 (fun h => absurd rfl h); rw [hu] at this; exact this
  have hs1 : w.heap.size < w1.heap.size := a1.lt
  clear hu hgrow1 hown1 hown1' hh hty hmade hf bV hb1 hV gA bA bW hlt sV1
  go_wp2_with fail
  refine HU.mono ?_
  rintro x w2 ⟨rfl, hx2, ho2⟩
  obtain ⟨cs0, f0, hg0⟩ := x2.typed
  have t2 := TK.of_only ho2 hg0
  have A2 : CB 27 w2 w.heap.size #[.int .i64 0, .int .i64 0, .bool false, .bool false, .slice none 0 0, .int .i64 0, .slice none 0 0, .slice none 0 0, .bool false] := t2 _ _ _ _ a2 (by decide)
  have bw3 : Below w.heap.size w w2 := bw2.trans (ho2.below bw1.size)
  have hgl : w1.heap.size < w2.heap.size := by obtain ⟨cs1, f1, h1⟩ := hx2.typed; exact (Array.getElem?_eq_some_iff.1 h1).1
  have bC := (Below.refl w2.heap.size w2).alloc (Nat.le_refl _) (.cells #[.int .i64 0, .int .i64 0, .bool false, .bool false, .slice none 0 0, .int .i64 0, .slice none 0 0, .slice none 0 0, .bool false] 27)
  have C3 := CB.made 27 w2 #[.int .i64 0, .int .i64 0, .bool false, .bool false, .slice none 0 0, .int .i64 0, .slice none 0 0, .slice none 0 0, .bool false]
  have A3 := A2.later bC
  have x3 := hx2.later bC
  have B3 := bw3.trans (bC.mono bw3.size)
  have nR1 : ¬ w.heap.size = w1.heap.size := by omega
  have nR2 : ¬ w.heap.size = w2.heap.size := by omega
  have n12 : ¬ w1.heap.size = w2.heap.size := by omega
  have nR2' : ¬ w2.heap.size = w.heap.size := by omega
  have nR1' : ¬ w1.heap.size = w.heap.size := by omega
  have n12' : ¬ w2.heap.size = w1.heap.size := by omega
  obtain ⟨px2, cx2, hxd2, hxb2⟩ := hx2
  obtain ⟨k0, k1⟩ := hxd2.cells
  obtain ⟨a0, a1', a2', a3, a4, a5, a6, a7, a8⟩ := nine A2
  have fz := fun i => A2.free i
  have hRl : w.heap.size < w2.heap.size := A2.lt
  clear HU ho2 t2 hg0 a2 x2 bw2 a1 bw1 hxd2 bC
  obtain ⟨W3, hW3⟩ : ∃ x, x = w2.alloc (.cells #[.int .i64 0, .int .i64 0, .bool false, .bool false, .slice none 0 0, .int .i64 0, .slice none 0 0, .slice none 0 0, .bool false] 27) := ⟨_, rfl⟩
  rw [← hW3] at C3 A3 x3 B3
  have HW3 := hid_of hW3
  clear hW3
  rw [he.out] at k1 x3
  obtain ⟨cs3, f3, hg3⟩ := x3.typed
  have HC := xuint_all w1.heap.size l1 0 2147483648 W3 x3 (fun h => absurd rfl h) (by omega)
  have hlq : (rdU l1 0 2147483648).2.2.length ≤ l1.length := (rdU_suf l1 0 _).length_le
  have hfq : (rdU l1 0 2147483648).1 ≠ 0 → (rdU l1 0 2147483648).2.2 = [] := rdU_fellX l1 0 2147483648 (fun h => absurd rfl h)
  have HDK0 := hid_of (hD.out.trans (show rdK 4 l1 0 AA0 = rdS (rdU l1 0 2147483648).2.2 (rdU l1 0 2147483648).1 { AA0 with ep := (rdU l1 0 2147483648).2.1 } from rfl))
  generalize (rdU l1 0 2147483648).1 = e1 at *
  generalize (rdU l1 0 2147483648).2.2 = l2 at *
  generalize (rdU l1 0 2147483648).2.1 = ep at *
  rw [HW3.out] at HC
  go_wp2_with fail
  refine HC.mono ?_
  clear HC k0 k1 a0 a1' a2' a3 a4 a5 a6 a7 a8 fz hxb2 A2 bw3 hfu
  rintro x w4 ⟨rfl, h4, o4⟩
  rw [← HW3.out] at o4
  have t4 : TK 47 W3 w4 := TK.of_only o4 hg3
  have A4 : CB 27 w4 w.heap.size #[.int .i64 0, .int .i64 0, .bool false, .bool false, .slice none 0 0, .int .i64 0, .slice none 0 0, .slice none 0 0, .bool false] := t4 _ _ _ _ A3 (by decide)
  have C4 : CB 27 w4 w2.heap.size #[.int .i64 0, .int .i64 0, .bool false, .bool false, .slice none 0 0, .int .i64 0, .slice none 0 0, .slice none 0 0, .bool false] := t4 _ _ _ _ C3 (by decide)
  have B4 : Below w.heap.size w w4 := B3.trans (o4.below (by omega))
  obtain ⟨m0, m1, m2, m3, m4, m5, m6, m7, m8⟩ := nine C4
  have fy := C4.free 1
  have s5 : TK 27 w4 (w4.setCell ⟨w2.heap.size, 1, none⟩ (.int .i64 (ep : Int))) := TK.of_only ((Only.refl w2.heap.size w4).setCell 1 _) C4
  have h5 := h4.tk s5 (by decide) (by decide)
  have A5 := A4.other ⟨w2.heap.size, 1, none⟩ (.int .i64 (ep : Int)) nR2
  have C5 := C4.set 1 (.int .i64 (ep : Int)) #[.int .i64 0, .int .i64 (ep : Int), .bool false, .bool false, .slice none 0 0, .int .i64 0, .slice none 0 0, .slice none 0 0, .bool false] rfl
  have B5 := B4.setCell (p := ⟨w2.heap.size, 1, none⟩) (by show w.heap.size ≤ w2.heap.size; omega) (.int .i64 (ep : Int))
  have HC : Calls Try.prog 18 #[.pointer (some ⟨w1.heap.size, 0, none⟩), .agg #[.int .i64 0, .int .i64 (ep : Int), .bool false, .bool false, .slice none 0 0, .int .i64 0, .slice none 0 0, .slice none 0 0, .bool false]] (w4.setCell ⟨w2.heap.size, 1, none⟩ (.int .i64 (ep : Int))) (OneT w1.heap.size l2 e1 { AA0 with ep := (ep : Int) } (.slice none 0 0) (.slice none 0 0) (w4.setCell ⟨w2.heap.size, 1, none⟩ (.int .i64 (ep : Int)))) := rone_any w1.heap.size l2 e1 { AA0 with ep := (ep : Int) } none 0 0 none 0 0 none 0 0 _ h5 hfq (by omega) (HBN.nil _ _)
  unfold OneT ansC at HC
  have hits : (rdS l2 e1 { AA0 with ep := (ep : Int) }).2.2.its = [] := by unfold rdS; split <;> rfl
  have hevs : (rdS l2 e1 { AA0 with ep := (ep : Int) }).2.2.evs = [] := by unfold rdS; split <;> rfl
  have HDK := hid_of (HDK0.out.trans (show rdS l2 e1 { AA0 with ep := (ep : Int) } = ((rdS l2 e1 { AA0 with ep := (ep : Int) }).1, (rdS l2 e1 { AA0 with ep := (ep : Int) }).2.1, (rdS l2 e1 { AA0 with ep := (ep : Int) }).2.2) from rfl))
  obtain ⟨cs5, f5, hg5⟩ := h5.typed
  clear HDK0 hfq s5 h5 A4 C4 B4 h4 o4 t4 HW3 C3 A3 x3 B3 hD
  generalize (rdS l2 e1 { AA0 with ep := (ep : Int) }).1 = e at *
  generalize (rdS l2 e1 { AA0 with ep := (ep : Int) }).2.1 = l at *
  generalize (rdS l2 e1 { AA0 with ep := (ep : Int) }).2.2 = a at *
  go_wp2_with fail
  refine HC.mono ?_
  clear HC m0 m1 m2 m3 m4 m5 m6 m7 m8 fy
  rintro x w6 ⟨kv, rfl, hrow, h6, o6⟩
  obtain ⟨pk, ck, rfl⟩ := hrow.1.shape
  have t6 : TK 47 _ w6 := TK.of_only o6 hg5
  have A6 : CB 27 w6 w.heap.size #[.int .i64 0, .int .i64 0, .bool false, .bool false, .slice none 0 0, .int .i64 0, .slice none 0 0, .slice none 0 0, .bool false] := t6 _ _ _ _ A5 (by decide)
  have C6 : CB 27 w6 w2.heap.size #[.int .i64 0, .int .i64 (ep : Int), .bool false, .bool false, .slice none 0 0, .int .i64 0, .slice none 0 0, .slice none 0 0, .bool false] := t6 _ _ _ _ C5 (by decide)
  have B6 : Below w.heap.size w w6 := B5.trans (o6.below (by omega))
  clear A5 C5 B5
  obtain ⟨px, cx, hxd9, hxb9⟩ := id h6
  obtain ⟨k0, k1⟩ := hxd9.cells
  obtain ⟨a0, a1, a2, a3, a4, a5, a6, a7, a8⟩ := nine A6
  obtain ⟨m0, m1, m2, m3, m4, m5, m6, m7, m8⟩ := nine C6
  have fz := fun i => A6.free i
  have fy := fun i => C6.free i
  have s5 := nine_tk (.int .i64 a.code) (.int .i64 a.ep) (.bool a.pr) (.bool a.sa) (.slice pk a.key.length ck) (.int .i64 a.si) (.slice none 0 0) (.slice none 0 0) (.bool a.mo) C6
  have h5 := hxb9.tk s5 (by decide)
  have A5 := nine_other (g := w2.heap.size) (.int .i64 a.code) (.int .i64 a.ep) (.bool a.pr) (.bool a.sa) (.slice pk a.key.length ck) (.int .i64 a.si) (.slice none 0 0) (.slice none 0 0) (.bool a.mo) A6 nR2
  have B5 := nine_below (.int .i64 a.code) (.int .i64 a.ep) (.bool a.pr) (.bool a.sa) (.slice pk a.key.length ck) (.int .i64 a.si) (.slice none 0 0) (.slice none 0 0) (.bool a.mo) B6 (show w.heap.size ≤ w2.heap.size by omega)
  have r5 := hrow.tk s5 (by decide)
  by_cases hz : e = 0
  · have F := nine_tk (.int .i64 a.code) (.int .i64 a.ep) (.bool a.pr) (.bool a.sa) (.slice pk a.key.length ck) (.int .i64 a.si) (.slice none 0 0) (.slice none 0 0) (.bool a.mo) A5
    have bd := Below.drew (Below.refl (nineS (nineS w6 w2.heap.size (.int .i64 a.code) (.int .i64 a.ep) (.bool a.pr) (.bool a.sa) (.slice pk a.key.length ck) (.int .i64 a.si) (.slice none 0 0) (.slice none 0 0) (.bool a.mo)) w.heap.size (.int .i64 a.code) (.int .i64 a.ep) (.bool a.pr) (.bool a.sa) (.slice pk a.key.length ck) (.int .i64 a.si) (.slice none 0 0) (.slice none 0 0) (.bool a.mo)).heap.size (nineS (nineS w6 w2.heap.size (.int .i64 a.code) (.int .i64 a.ep) (.bool a.pr) (.bool a.sa) (.slice pk a.key.length ck) (.int .i64 a.si) (.slice none 0 0) (.slice none 0 0) (.bool a.mo)) w.heap.size (.int .i64 a.code) (.int .i64 a.ep) (.bool a.pr) (.bool a.sa) (.slice pk a.key.length ck) (.int .i64 a.si) (.slice none 0 0) (.slice none 0 0) (.bool a.mo)))
    have FR := (h5.tk F (by decide)).later bd
    have FB := Below.drew (nine_below (.int .i64 a.code) (.int .i64 a.ep) (.bool a.pr) (.bool a.sa) (.slice pk a.key.length ck) (.int .i64 a.si) (.slice none 0 0) (.slice none 0 0) (.bool a.mo) B5 (Nat.le_refl _))
    have HFIN := hid_of (show RdTold D w (.returned (.tuple #[.agg #[.int .i64 a.code, .int .i64 a.ep, .bool a.pr, .bool a.sa, .slice pk a.key.length ck, .int .i64 a.si, .slice none 0 0, .slice none 0 0, .bool a.mo], .slice px l.length cx, .int .i64 0])) (nineS (nineS w6 w2.heap.size (.int .i64 a.code) (.int .i64 a.ep) (.bool a.pr) (.bool a.sa) (.slice pk a.key.length ck) (.int .i64 a.si) (.slice none 0 0) (.slice none 0 0) (.bool a.mo)) w.heap.size (.int .i64 a.code) (.int .i64 a.ep) (.bool a.pr) (.bool a.sa) (.slice pk a.key.length ck) (.int .i64 a.si) (.slice none 0 0) (.slice none 0 0) (.bool a.mo)).drew from by rw [HDK.out, hz]; exact ⟨FB, fun _ => ⟨.slice pk a.key.length ck, .slice none 0 0, .slice none 0 0, _, rfl, ⟨((r5.tk F (by decide)).later bd).1, (by rw [hits]; exact IA.nil _), (by rw [hevs]; exact EA.nil _)⟩, FR.1⟩, fun h => absurd rfl h⟩)
    unfold nineS at HFIN
    subst hz
    clear F bd FR FB hxd9 hxb9 HDK s5 h5 A5 B5 r5 hrow A6 C6 B6 h6 o6 t6 hg5
    go_wp2
    go_region
    all_goals go_wp2
    all_goals
      refine bodyPost_ret (v := .tuple #[.agg #[.int .i64 a.code, .int .i64 a.ep, .bool a.pr, .bool a.sa, .slice pk a.key.length ck, .int .i64 a.si, .slice none 0 0, .slice none 0 0, .bool a.mo], .slice px l.length cx, .int .i64 0]) ?_ rfl HFIN.out
      simp only [results, Try.results7]
      go_simp
  · have FB := Below.drew (nine_below (.int .i64 0) (.int .i64 0) (.bool false) (.bool false) (.slice none 0 0) (.int .i64 0) (.slice none 0 0) (.slice none 0 0) (.bool false) B5 (Nat.le_refl _))
    have HBAD := hid_of (show RdTold D w (.returned (.tuple #[.agg zeroC, .slice none 0 0, .int .i64 e])) (nineS (nineS w6 w2.heap.size (.int .i64 a.code) (.int .i64 a.ep) (.bool a.pr) (.bool a.sa) (.slice pk a.key.length ck) (.int .i64 a.si) (.slice none 0 0) (.slice none 0 0) (.bool a.mo)) w.heap.size (.int .i64 0) (.int .i64 0) (.bool false) (.bool false) (.slice none 0 0) (.int .i64 0) (.slice none 0 0) (.slice none 0 0) (.bool false)).drew from by rw [HDK.out]; exact ⟨FB, fun h => absurd h hz, fun _ => rfl⟩)
    unfold nineS at HBAD
    have hne : (e != 0) = true := by simpa using hz
    clear FB HDK hz hxd9 hxb9 s5 h5 A5 B5 r5 hrow A6 C6 B6 h6 o6 t6 hg5
    go_wp2
    go_region
    all_goals go_wp2
    all_goals
      refine bodyPost_ret (v := .tuple #[.agg zeroC, .slice none 0 0, .int .i64 e]) ?_ rfl HBAD.out
      simp only [results, Try.results7, zeroC]
      go_simp

set_option maxHeartbeats 600000 in
theorem rrk5 (v : Value) (b : List UInt8) (w : World) (hv : HB w v b) (hsz : b.length ≤ 140737488351232) (e0 : Int) (cd : Nat) (l1 : List UInt8) (hu : rdU b 0 2147483648 = (e0, cd, l1)) (D : Int × List UInt8 × AA) (he : Hid (e0 = 0)) (hcd : Hid (cd = 0)) (hD : Hid (D = rdK 5 l1 0 AA0)) :
    Calls Try.prog 7 #[.int .i64 5, v] w (RdTold D w) := by
  rw [hcd.out] at hu
  have bA := (Below.refl w.heap.size w).alloc (Nat.le_refl _) (.cells #[.int .i64 0, .int .i64 0, .bool false, .bool false, .slice none 0 0, .int .i64 0, .slice none 0 0, .slice none 0 0, .bool false] 27)
  have gA := CB.made 27 w #[.int .i64 0, .int .i64 0, .bool false, .bool false, .slice none 0 0, .int .i64 0, .slice none 0 0, .slice none 0 0, .bool false]
  obtain ⟨p, c, rfl⟩ := hv.shape
  obtain ⟨V, hV⟩ : ∃ V, V = w.alloc (.cells #[.int .i64 0, .int .i64 0, .bool false, .bool false, .slice none 0 0, .int .i64 0, .slice none 0 0, .slice none 0 0, .bool false] 27) := ⟨_, rfl⟩
  rw [← hV] at bA gA
  have bV := (Below.refl V.heap.size V).alloc (Nat.le_refl _) (.cells #[] 5)
  have hf := (hv.later bA).later bV
  have sV1 : V.heap.size = w.heap.size + 1 := by rw [hV]; simp
  have hmade : (V.alloc (.cells #[] 5)).ownsRow (w.heap.size + 1) 5 1 (.slice (some ⟨w.heap.size + 1, 0, none⟩) 0 0) 0 (bcs []) := by
    have := World.ownsRow_made (e := 5) (size := 1) (base := V.heap.size) V #[] 0 (Nat.le_refl _) (Nat.zero_le _) rfl
    rw [sV1] at this
    exact this
  rw [hV] at hf hmade
  clear hv
  go_enter Try.func7, Try.ntmps7
  go_wp2_with (first | (at_builtin; refine wpList_append_hb rfl (.tmp 9) (.tmp 10) 22 rfl (w.heap.size + 1) 5 Try.underlying22 i_u8 _ 0 (bcs []) rfl hmade _ _ _ b rfl hf ?qa ?qb ?_))
  case qa => omega
  try case qb => simp
  intro v1 w1 hown1 hgrow1
  rw [← hV] at hgrow1
  rw [← sV1] at hown1
  have hb1 : Below V.heap.size V w1 := bV.grown hgrow1 (by simp) (by intro k hk; cases hk; show _ ≤ w.heap.size + 1; omega)
  have hown1' : w1.ownsRow V.heap.size 5 1 v1 b.length (bcs b) := by simpa [bcs] using hown1
  have hlt := hown1'.lt
  obtain ⟨p1, d1, rfl⟩ := owns_shape hown1'
  have hh := HB.of_owns hown1'
  have hty := fun a n c (e : Value.slice p1 b.length d1 = .slice (some a) n c) => TY.of_owns hown1' e
  have bW := (Below.refl w1.heap.size w1).alloc (Nat.le_refl _) (.cells #[.slice p1 b.length d1, .int .i64 0] 47)
  have x2 : XR (w1.alloc (.cells #[.slice p1 b.length d1, .int .i64 0] 47)) w1.heap.size b 0 := ⟨p1, d1, heap_alloc_new w1 _, hh.later bW, fun a n c e => ⟨by have := (hlt a.block (by rw [e]; rfl)).2; omega, (hty a n c e).later bW⟩⟩
  have bw1 : Below w.heap.size w w1 := bA.trans (hb1.mono bA.size)
  have a1 : CB 27 w1 w.heap.size #[.int .i64 0, .int .i64 0, .bool false, .bool false, .slice none 0 0, .int .i64 0, .slice none 0 0, .slice none 0 0, .bool false] := gA.later hb1
  have bw2 : Below w.heap.size w _ := bw1.trans (bW.mono bw1.size)
  have a2 := a1.later bW
  have HU := xuint_all w1.heap.size b 0 2147483648 _ x2 (fun h => absurd rfl h) (by omega)
  rw [hu] at HU
  simp only at HU
  have hul : l1.length ≤ b.length := by have := (rdU_suf b 0 2147483648).length_le; rw [hu] at this; exact this
  have hfu : e0 ≠ 0 → l1 = [] := by have := rdU_fellX b 0 2147483648 (fun h => absurd rfl h); rw [hu] at this; exact this
  have hs1 : w.heap.size < w1.heap.size := a1.lt
  clear hu hgrow1 hown1 hown1' hh hty hmade hf bV hb1 hV gA bA bW hlt sV1
  go_wp2_with fail
  refine HU.mono ?_
  rintro x w2 ⟨rfl, hx2, ho2⟩
  obtain ⟨cs0, f0, hg0⟩ := x2.typed
  have t2 := TK.of_only ho2 hg0
  have A2 : CB 27 w2 w.heap.size #[.int .i64 0, .int .i64 0, .bool false, .bool false, .slice none 0 0, .int .i64 0, .slice none 0 0, .slice none 0 0, .bool false] := t2 _ _ _ _ a2 (by decide)
  have bw3 : Below w.heap.size w w2 := bw2.trans (ho2.below bw1.size)
  have hgl : w1.heap.size < w2.heap.size := by obtain ⟨cs1, f1, h1⟩ := hx2.typed; exact (Array.getElem?_eq_some_iff.1 h1).1
  have bC := (Below.refl w2.heap.size w2).alloc (Nat.le_refl _) (.cells #[.int .i64 0, .int .i64 0, .bool false, .bool false, .slice none 0 0, .int .i64 0, .slice none 0 0, .slice none 0 0, .bool false] 27)
  have C3 := CB.made 27 w2 #[.int .i64 0, .int .i64 0, .bool false, .bool false, .slice none 0 0, .int .i64 0, .slice none 0 0, .slice none 0 0, .bool false]
  have A3 := A2.later bC
  have x3 := hx2.later bC
  have B3 := bw3.trans (bC.mono bw3.size)
  have nR1 : ¬ w.heap.size = w1.heap.size := by omega
  have nR2 : ¬ w.heap.size = w2.heap.size := by omega
  have n12 : ¬ w1.heap.size = w2.heap.size := by omega
  have nR2' : ¬ w2.heap.size = w.heap.size := by omega
  have nR1' : ¬ w1.heap.size = w.heap.size := by omega
  have n12' : ¬ w2.heap.size = w1.heap.size := by omega
  obtain ⟨px2, cx2, hxd2, hxb2⟩ := hx2
  obtain ⟨k0, k1⟩ := hxd2.cells
  obtain ⟨a0, a1', a2', a3, a4, a5, a6, a7, a8⟩ := nine A2
  have fz := fun i => A2.free i
  have hRl : w.heap.size < w2.heap.size := A2.lt
  clear HU ho2 t2 hg0 a2 x2 bw2 a1 bw1 hxd2 bC
  obtain ⟨W3, hW3⟩ : ∃ x, x = w2.alloc (.cells #[.int .i64 0, .int .i64 0, .bool false, .bool false, .slice none 0 0, .int .i64 0, .slice none 0 0, .slice none 0 0, .bool false] 27) := ⟨_, rfl⟩
  rw [← hW3] at C3 A3 x3 B3
  have HW3 := hid_of hW3
  clear hW3
  rw [he.out] at k1 x3
  obtain ⟨cs3, f3, hg3⟩ := x3.typed
  have HC := xflag_all w1.heap.size l1 0 W3 x3 (fun h => absurd rfl h) (by omega)
  have hlq : (rdG l1 0).2.2.length ≤ l1.length := (rdG_suf l1 0).length_le
  have hfq : (rdG l1 0).1 ≠ 0 → (rdG l1 0).2.2 = [] := rdG_fell l1 0 (fun h => absurd rfl h)
  have HDK0 := hid_of (hD.out.trans (show rdK 5 l1 0 AA0 = rdS (rdG l1 0).2.2 (rdG l1 0).1 { AA0 with sa := (rdG l1 0).2.1 } from rfl))
  generalize (rdG l1 0).1 = e1 at *
  generalize (rdG l1 0).2.2 = l2 at *
  generalize (rdG l1 0).2.1 = ep at *
  rw [HW3.out] at HC
  go_wp2_with fail
  refine HC.mono ?_
  clear HC k0 k1 a0 a1' a2' a3 a4 a5 a6 a7 a8 fz hxb2 A2 bw3 hfu
  rintro x w4 ⟨rfl, h4, o4⟩
  rw [← HW3.out] at o4
  have t4 : TK 47 W3 w4 := TK.of_only o4 hg3
  have A4 : CB 27 w4 w.heap.size #[.int .i64 0, .int .i64 0, .bool false, .bool false, .slice none 0 0, .int .i64 0, .slice none 0 0, .slice none 0 0, .bool false] := t4 _ _ _ _ A3 (by decide)
  have C4 : CB 27 w4 w2.heap.size #[.int .i64 0, .int .i64 0, .bool false, .bool false, .slice none 0 0, .int .i64 0, .slice none 0 0, .slice none 0 0, .bool false] := t4 _ _ _ _ C3 (by decide)
  have B4 : Below w.heap.size w w4 := B3.trans (o4.below (by omega))
  obtain ⟨m0, m1, m2, m3, m4, m5, m6, m7, m8⟩ := nine C4
  have fy := C4.free 3
  have s5 : TK 27 w4 (w4.setCell ⟨w2.heap.size, 3, none⟩ (.bool ep)) := TK.of_only ((Only.refl w2.heap.size w4).setCell 3 _) C4
  have h5 := h4.tk s5 (by decide) (by decide)
  have A5 := A4.other ⟨w2.heap.size, 3, none⟩ (.bool ep) nR2
  have C5 := C4.set 3 (.bool ep) #[.int .i64 0, .int .i64 0, .bool false, .bool ep, .slice none 0 0, .int .i64 0, .slice none 0 0, .slice none 0 0, .bool false] rfl
  have B5 := B4.setCell (p := ⟨w2.heap.size, 3, none⟩) (by show w.heap.size ≤ w2.heap.size; omega) (.bool ep)
  have HC : Calls Try.prog 18 #[.pointer (some ⟨w1.heap.size, 0, none⟩), .agg #[.int .i64 0, .int .i64 0, .bool false, .bool ep, .slice none 0 0, .int .i64 0, .slice none 0 0, .slice none 0 0, .bool false]] (w4.setCell ⟨w2.heap.size, 3, none⟩ (.bool ep)) (OneT w1.heap.size l2 e1 { AA0 with sa := ep } (.slice none 0 0) (.slice none 0 0) (w4.setCell ⟨w2.heap.size, 3, none⟩ (.bool ep))) := rone_any w1.heap.size l2 e1 { AA0 with sa := ep } none 0 0 none 0 0 none 0 0 _ h5 hfq (by omega) (HBN.nil _ _)
  unfold OneT ansC at HC
  have hits : (rdS l2 e1 { AA0 with sa := ep }).2.2.its = [] := by unfold rdS; split <;> rfl
  have hevs : (rdS l2 e1 { AA0 with sa := ep }).2.2.evs = [] := by unfold rdS; split <;> rfl
  have HDK := hid_of (HDK0.out.trans (show rdS l2 e1 { AA0 with sa := ep } = ((rdS l2 e1 { AA0 with sa := ep }).1, (rdS l2 e1 { AA0 with sa := ep }).2.1, (rdS l2 e1 { AA0 with sa := ep }).2.2) from rfl))
  obtain ⟨cs5, f5, hg5⟩ := h5.typed
  clear HDK0 hfq s5 h5 A4 C4 B4 h4 o4 t4 HW3 C3 A3 x3 B3 hD
  generalize (rdS l2 e1 { AA0 with sa := ep }).1 = e at *
  generalize (rdS l2 e1 { AA0 with sa := ep }).2.1 = l at *
  generalize (rdS l2 e1 { AA0 with sa := ep }).2.2 = a at *
  go_wp2_with fail
  refine HC.mono ?_
  clear HC m0 m1 m2 m3 m4 m5 m6 m7 m8 fy
  rintro x w6 ⟨kv, rfl, hrow, h6, o6⟩
  obtain ⟨pk, ck, rfl⟩ := hrow.1.shape
  have t6 : TK 47 _ w6 := TK.of_only o6 hg5
  have A6 : CB 27 w6 w.heap.size #[.int .i64 0, .int .i64 0, .bool false, .bool false, .slice none 0 0, .int .i64 0, .slice none 0 0, .slice none 0 0, .bool false] := t6 _ _ _ _ A5 (by decide)
  have C6 : CB 27 w6 w2.heap.size #[.int .i64 0, .int .i64 0, .bool false, .bool ep, .slice none 0 0, .int .i64 0, .slice none 0 0, .slice none 0 0, .bool false] := t6 _ _ _ _ C5 (by decide)
  have B6 : Below w.heap.size w w6 := B5.trans (o6.below (by omega))
  clear A5 C5 B5
  obtain ⟨px, cx, hxd9, hxb9⟩ := id h6
  obtain ⟨k0, k1⟩ := hxd9.cells
  obtain ⟨a0, a1, a2, a3, a4, a5, a6, a7, a8⟩ := nine A6
  obtain ⟨m0, m1, m2, m3, m4, m5, m6, m7, m8⟩ := nine C6
  have fz := fun i => A6.free i
  have fy := fun i => C6.free i
  have s5 := nine_tk (.int .i64 a.code) (.int .i64 a.ep) (.bool a.pr) (.bool a.sa) (.slice pk a.key.length ck) (.int .i64 a.si) (.slice none 0 0) (.slice none 0 0) (.bool a.mo) C6
  have h5 := hxb9.tk s5 (by decide)
  have A5 := nine_other (g := w2.heap.size) (.int .i64 a.code) (.int .i64 a.ep) (.bool a.pr) (.bool a.sa) (.slice pk a.key.length ck) (.int .i64 a.si) (.slice none 0 0) (.slice none 0 0) (.bool a.mo) A6 nR2
  have B5 := nine_below (.int .i64 a.code) (.int .i64 a.ep) (.bool a.pr) (.bool a.sa) (.slice pk a.key.length ck) (.int .i64 a.si) (.slice none 0 0) (.slice none 0 0) (.bool a.mo) B6 (show w.heap.size ≤ w2.heap.size by omega)
  have r5 := hrow.tk s5 (by decide)
  by_cases hz : e = 0
  · have F := nine_tk (.int .i64 a.code) (.int .i64 a.ep) (.bool a.pr) (.bool a.sa) (.slice pk a.key.length ck) (.int .i64 a.si) (.slice none 0 0) (.slice none 0 0) (.bool a.mo) A5
    have bd := Below.drew (Below.refl (nineS (nineS w6 w2.heap.size (.int .i64 a.code) (.int .i64 a.ep) (.bool a.pr) (.bool a.sa) (.slice pk a.key.length ck) (.int .i64 a.si) (.slice none 0 0) (.slice none 0 0) (.bool a.mo)) w.heap.size (.int .i64 a.code) (.int .i64 a.ep) (.bool a.pr) (.bool a.sa) (.slice pk a.key.length ck) (.int .i64 a.si) (.slice none 0 0) (.slice none 0 0) (.bool a.mo)).heap.size (nineS (nineS w6 w2.heap.size (.int .i64 a.code) (.int .i64 a.ep) (.bool a.pr) (.bool a.sa) (.slice pk a.key.length ck) (.int .i64 a.si) (.slice none 0 0) (.slice none 0 0) (.bool a.mo)) w.heap.size (.int .i64 a.code) (.int .i64 a.ep) (.bool a.pr) (.bool a.sa) (.slice pk a.key.length ck) (.int .i64 a.si) (.slice none 0 0) (.slice none 0 0) (.bool a.mo)))
    have FR := (h5.tk F (by decide)).later bd
    have FB := Below.drew (nine_below (.int .i64 a.code) (.int .i64 a.ep) (.bool a.pr) (.bool a.sa) (.slice pk a.key.length ck) (.int .i64 a.si) (.slice none 0 0) (.slice none 0 0) (.bool a.mo) B5 (Nat.le_refl _))
    have HFIN := hid_of (show RdTold D w (.returned (.tuple #[.agg #[.int .i64 a.code, .int .i64 a.ep, .bool a.pr, .bool a.sa, .slice pk a.key.length ck, .int .i64 a.si, .slice none 0 0, .slice none 0 0, .bool a.mo], .slice px l.length cx, .int .i64 0])) (nineS (nineS w6 w2.heap.size (.int .i64 a.code) (.int .i64 a.ep) (.bool a.pr) (.bool a.sa) (.slice pk a.key.length ck) (.int .i64 a.si) (.slice none 0 0) (.slice none 0 0) (.bool a.mo)) w.heap.size (.int .i64 a.code) (.int .i64 a.ep) (.bool a.pr) (.bool a.sa) (.slice pk a.key.length ck) (.int .i64 a.si) (.slice none 0 0) (.slice none 0 0) (.bool a.mo)).drew from by rw [HDK.out, hz]; exact ⟨FB, fun _ => ⟨.slice pk a.key.length ck, .slice none 0 0, .slice none 0 0, _, rfl, ⟨((r5.tk F (by decide)).later bd).1, (by rw [hits]; exact IA.nil _), (by rw [hevs]; exact EA.nil _)⟩, FR.1⟩, fun h => absurd rfl h⟩)
    unfold nineS at HFIN
    subst hz
    clear F bd FR FB hxd9 hxb9 HDK s5 h5 A5 B5 r5 hrow A6 C6 B6 h6 o6 t6 hg5
    go_wp2
    go_region
    all_goals go_wp2
    all_goals
      refine bodyPost_ret (v := .tuple #[.agg #[.int .i64 a.code, .int .i64 a.ep, .bool a.pr, .bool a.sa, .slice pk a.key.length ck, .int .i64 a.si, .slice none 0 0, .slice none 0 0, .bool a.mo], .slice px l.length cx, .int .i64 0]) ?_ rfl HFIN.out
      simp only [results, Try.results7]
      go_simp
  · have FB := Below.drew (nine_below (.int .i64 0) (.int .i64 0) (.bool false) (.bool false) (.slice none 0 0) (.int .i64 0) (.slice none 0 0) (.slice none 0 0) (.bool false) B5 (Nat.le_refl _))
    have HBAD := hid_of (show RdTold D w (.returned (.tuple #[.agg zeroC, .slice none 0 0, .int .i64 e])) (nineS (nineS w6 w2.heap.size (.int .i64 a.code) (.int .i64 a.ep) (.bool a.pr) (.bool a.sa) (.slice pk a.key.length ck) (.int .i64 a.si) (.slice none 0 0) (.slice none 0 0) (.bool a.mo)) w.heap.size (.int .i64 0) (.int .i64 0) (.bool false) (.bool false) (.slice none 0 0) (.int .i64 0) (.slice none 0 0) (.slice none 0 0) (.bool false)).drew from by rw [HDK.out]; exact ⟨FB, fun h => absurd h hz, fun _ => rfl⟩)
    unfold nineS at HBAD
    have hne : (e != 0) = true := by simpa using hz
    clear FB HDK hz hxd9 hxb9 s5 h5 A5 B5 r5 hrow A6 C6 B6 h6 o6 t6 hg5
    go_wp2
    go_region
    all_goals go_wp2
    all_goals
      refine bodyPost_ret (v := .tuple #[.agg zeroC, .slice none 0 0, .int .i64 e]) ?_ rfl HBAD.out
      simp only [results, Try.results7, zeroC]
      go_simp

end Go.Proofs.Ytldmbfemoepfkaa

namespace Go.Proofs.Ytldmbfemoepfkaa
open Go.RowKit

theorem rreadA_any (k : Int) (v : Value) (b : List UInt8) (w : World) (hv : HB w v b) (hsz : b.length ≤ 140737488351232) :
    Calls Try.prog 7 #[.int .i64 k, v] w (RdTold (rdA k b) w) := by
  obtain ⟨e0, cd, l1, hu⟩ : ∃ e0 cd l1, rdU b 0 2147483648 = (e0, cd, l1) := ⟨_, _, _, rfl⟩
  have hA : rdA k b = if e0 = 0 ∧ cd = 0 then rdK k l1 0 AA0 else (e0, l1, { AA0 with code := cd }) := by unfold rdA; rw [hu]
  by_cases he : e0 = 0
  · by_cases hc : cd = 0
    · rw [if_pos ⟨he, hc⟩] at hA
      by_cases k1 : k = 1
      · subst k1; exact rrk1 v b w hv hsz e0 cd l1 hu _ he hc hA
      by_cases k3 : k = 3
      · subst k3; exact rrk3 v b w hv hsz e0 cd l1 hu _ he hc hA
      by_cases k4 : k = 4
      · subst k4; exact rrk4 v b w hv hsz e0 cd l1 hu _ he hc hA
      by_cases k5 : k = 5
      · subst k5; exact rrk5 v b w hv hsz e0 cd l1 hu _ he hc hA
      by_cases k6 : k = 6
      · subst k6; exact rrk6 v b w hv hsz e0 cd l1 hu _ he hc hA
      by_cases k7 : k = 7
      · subst k7; exact rrk7 v b w hv hsz e0 cd l1 hu _ he hc hA
      by_cases k10 : k = 10
      · subst k10; exact rrk10 v b w hv hsz e0 cd l1 hu _ he hc hA
      refine rrd0 k v b w hv hsz e0 cd l1 hu _ he hc (by omega) (hA.trans ?_)
      unfold rdK
      rw [if_neg k1, if_neg k3, if_neg k4, if_neg k5, if_neg (by omega), if_neg k7]
    · rw [if_neg (fun h => hc h.2), he] at hA
      exact rrd_told k v b w hv hsz e0 cd l1 hu _ he (by omega) hA
  · rw [if_neg (fun h => he h.1)] at hA
    exact rrd_code k v b w hv hsz e0 cd l1 hu _ he hA

end Go.Proofs.Ytldmbfemoepfkaa
