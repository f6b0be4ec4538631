/- What this text proves: the walk of annalsref25.Decode over this program, where the kind's number is none. What this text proves: the walk of annalsref25.Decode over this program, where there is no such kind. What this text proves: the walk of annalsref25.Decode over this program, where the kind has fields and no batch, and what is read is bad. What this text proves: the walk of annalsref25.Decode over this program, where the kind has fields and no batch, and what is read is good. What this text proves: the walk of annalsref12.Read over this program, telling where what is read lies. (By program: mkcrreadk.py.) What this text proves: the walk of annalsref25.Decode over this program, where the kind is publish. What this text proves: the walk of annalsref25.Decode over this program, whatever the bytes. -/
import Derived.Test.YthkgbgkijdeaoaaJG1
import Derived.Test.YthkgbgkijdeaoaaJAkOwn
import Derived.Test.YthkgbgkijdeaoaaJCRRead
import Derived.Test.YthkgbgkijdeaoaaJA7
namespace Go.Proofs.Ythkgbgkijdeaoaa
open Go.RowKit

set_option maxRecDepth 100000 in
set_option maxHeartbeats 400000 in
theorem rdec_bad (v : Value) (b : List UInt8) (w : World) (hv : HB w v b) (hsz : b.length ≤ 140737488351232) (ue : Int) (un : Nat) (ul : List UInt8) (hu : uintF b 2147483648 = (ue, un, ul)) (h1 : ue ≠ 0) :
    Calls Try.prog 11 #[v] w fun x w' => x = .returned (.tuple #[.agg #[.int .i64 0, .slice none 0 0, .int .i64 0, .int .i64 0, .int .i64 0, .bool false, .int .i64 0, .int .i64 0, .int .i64 0, .slice none 0 0], .int .i64 ue]) ∧ Below w.heap.size w w' := by
  have bA := (Below.refl w.heap.size w).alloc (Nat.le_refl _) (.cells #[.int .i64 0, .slice none 0 0, .int .i64 0, .int .i64 0, .int .i64 0, .bool false, .int .i64 0, .int .i64 0, .int .i64 0, .slice none 0 0] 25)
  have gA : AB (w.alloc (.cells #[.int .i64 0, .slice none 0 0, .int .i64 0, .int .i64 0, .int .i64 0, .bool false, .int .i64 0, .int .i64 0, .int .i64 0, .slice none 0 0] 25)) w.heap.size zeroA := heap_alloc_new w _
  obtain ⟨p, c, rfl⟩ := hv.shape
  obtain ⟨V, hV⟩ : ∃ V, V = w.alloc (.cells #[.int .i64 0, .slice none 0 0, .int .i64 0, .int .i64 0, .int .i64 0, .bool false, .int .i64 0, .int .i64 0, .int .i64 0, .slice none 0 0] 25) := ⟨_, rfl⟩
  rw [← hV] at bA gA
  have bV := (Below.refl V.heap.size V).alloc (Nat.le_refl _) (.cells #[] 5)
  have hf := (hv.later bA).later bV
  have sV1 : V.heap.size = w.heap.size + 1 := by rw [hV]; simp
  have hmade : (V.alloc (.cells #[] 5)).ownsRow (w.heap.size + 1) 5 1 (.slice (some ⟨w.heap.size + 1, 0, none⟩) 0 0) 0 (bcs []) := by
    have := World.ownsRow_made (e := 5) (size := 1) (base := V.heap.size) V #[] 0 (Nat.le_refl _) (Nat.zero_le _) rfl
    rw [sV1] at this
    exact this
  rw [hV] at hf hmade
  clear hv
  go_enter Try.func11, Try.ntmps11
  go_wp2_with (first | (at_builtin; refine wpList_append_hb rfl (.tmp 11) (.tmp 12) 22 rfl (w.heap.size + 1) 5 Try.underlying22 i_u8 _ 0 (bcs []) rfl hmade _ _ _ b rfl hf ?qa ?qb ?_))
  case qa => omega
  case qb => simp
  intro v1 w1 hown1 hgrow1
  rw [← hV] at hgrow1
  rw [← sV1] at hown1
  have hb1 : Below V.heap.size V w1 := bV.grown hgrow1 (by simp) (by intro k hk; cases hk; show _ ≤ w.heap.size + 1; omega)
  have hown1' : w1.ownsRow V.heap.size 5 1 v1 b.length (bcs b) := by simpa [bcs] using hown1
  have hlt := hown1'.lt
  obtain ⟨p1, d1, rfl⟩ := owns_shape hown1'
  have hh := HB.of_owns hown1'
  have hty := fun a n c (e : Value.slice p1 b.length d1 = .slice (some a) n c) => TY.of_owns hown1' e
  have bW := (Below.refl w1.heap.size w1).alloc (Nat.le_refl _) (.cells #[.slice p1 b.length d1, .int .i64 0] 68)
  have x2 : XR (w1.alloc (.cells #[.slice p1 b.length d1, .int .i64 0] 68)) w1.heap.size b 0 := ⟨p1, d1, heap_alloc_new w1 _, hh.later bW, fun a n c e => ⟨by have := (hlt a.block (by rw [e]; rfl)).2; omega, (hty a n c e).later bW⟩⟩
  have bw1 : Below w.heap.size w w1 := bA.trans (hb1.mono bA.size)
  have a1 : AB w1 w.heap.size zeroA := gA.later hb1
  have bw2 : Below w.heap.size w _ := bw1.trans (bW.mono bw1.size)
  have a2 := a1.later bW
  have HU := xuint_all w1.heap.size b 0 2147483648 _ x2 (fun h => absurd rfl h) (by omega)
  rw [rdZ.1, hu] at HU
  simp only at HU
  clear hu
  clear hgrow1 hown1 hown1' hh hty hmade hf bV hb1 hV
  go_wp2_with fail
  refine HU.mono ?_
  rintro x w2 ⟨rfl, hx2, ho2⟩
  have bw3 : Below w.heap.size w w2 := bw2.trans (ho2.below bw1.size)
  obtain ⟨cs0, f0, hg0⟩ := x2.typed
  have a3 : AB w2 w.heap.size zeroA := (TK.of_only ho2 hg0) _ _ _ _ a2 (by decide)
  have hne : w.heap.size ≠ w1.heap.size := by have := (Array.getElem?_eq_some_iff.1 a1).1; omega
  have hne2 := hne.symm
  clear hg0 HU ho2 a2 x2 bw2 bW a1 bw1
  obtain ⟨px, cx, hxd, _⟩ := hx2
  obtain ⟨k0, k1⟩ := hxd.cells
  clear hxd
  obtain ⟨x0, x1, x2, x3, x4, x5, x6, x7, x8, x9⟩ := ask_cells a3
  have fz := fun i => a3.free i
  clear a3
  go_wp2
  go_region
  all_goals go_wp2
  all_goals
    refine bodyPost_ret (v := .tuple #[.agg #[.int .i64 0, .slice none 0 0, .int .i64 0, .int .i64 0, .int .i64 0, .bool false, .int .i64 0, .int .i64 0, .int .i64 0, .slice none 0 0], .int .i64 ue]) ?_ rfl ⟨rfl, ?_⟩
    · simp only [results, Try.results11]
      go_simp
    · refine Below.drew ?_
      exact ((((((((((Below.setCell (p := ⟨w.heap.size, 0, none⟩) bw3 (Nat.le_refl _) _).setCell (p := ⟨w.heap.size, 1, none⟩) (Nat.le_refl _) _).setCell (p := ⟨w.heap.size, 2, none⟩) (Nat.le_refl _) _).setCell (p := ⟨w.heap.size, 3, none⟩) (Nat.le_refl _) _).setCell (p := ⟨w.heap.size, 4, none⟩) (Nat.le_refl _) _).setCell (p := ⟨w.heap.size, 5, none⟩) (Nat.le_refl _) _).setCell (p := ⟨w.heap.size, 6, none⟩) (Nat.le_refl _) _).setCell (p := ⟨w.heap.size, 7, none⟩) (Nat.le_refl _) _).setCell (p := ⟨w.heap.size, 8, none⟩) (Nat.le_refl _) _).setCell (p := ⟨w.heap.size, 9, none⟩) (Nat.le_refl _) _)

end Go.Proofs.Ythkgbgkijdeaoaa

namespace Go.Proofs.Ythkgbgkijdeaoaa
open Go.RowKit

set_option maxRecDepth 100000 in
set_option maxHeartbeats 400000 in
theorem rdec_unknown (v : Value) (b : List UInt8) (w : World) (hv : HB w v b) (hsz : b.length ≤ 140737488351232) (un : Nat) (ul : List UInt8) (hu : uintF b 2147483648 = (0, un, ul)) (h1 : ¬ ((un : Int) ≤ 10 ∧ 1 ≤ (un : Int))) :
    Calls Try.prog 11 #[v] w fun x w' => x = .returned (.tuple #[.agg #[.int .i64 0, .slice none 0 0, .int .i64 0, .int .i64 0, .int .i64 0, .bool false, .int .i64 0, .int .i64 0, .int .i64 0, .slice none 0 0], .int .i64 87]) ∧ Below w.heap.size w w' := by
  have bA := (Below.refl w.heap.size w).alloc (Nat.le_refl _) (.cells #[.int .i64 0, .slice none 0 0, .int .i64 0, .int .i64 0, .int .i64 0, .bool false, .int .i64 0, .int .i64 0, .int .i64 0, .slice none 0 0] 25)
  have gA : AB (w.alloc (.cells #[.int .i64 0, .slice none 0 0, .int .i64 0, .int .i64 0, .int .i64 0, .bool false, .int .i64 0, .int .i64 0, .int .i64 0, .slice none 0 0] 25)) w.heap.size zeroA := heap_alloc_new w _
  obtain ⟨p, c, rfl⟩ := hv.shape
  obtain ⟨V, hV⟩ : ∃ V, V = w.alloc (.cells #[.int .i64 0, .slice none 0 0, .int .i64 0, .int .i64 0, .int .i64 0, .bool false, .int .i64 0, .int .i64 0, .int .i64 0, .slice none 0 0] 25) := ⟨_, rfl⟩
  rw [← hV] at bA gA
  have bV := (Below.refl V.heap.size V).alloc (Nat.le_refl _) (.cells #[] 5)
  have hf := (hv.later bA).later bV
  have sV1 : V.heap.size = w.heap.size + 1 := by rw [hV]; simp
  have hmade : (V.alloc (.cells #[] 5)).ownsRow (w.heap.size + 1) 5 1 (.slice (some ⟨w.heap.size + 1, 0, none⟩) 0 0) 0 (bcs []) := by
    have := World.ownsRow_made (e := 5) (size := 1) (base := V.heap.size) V #[] 0 (Nat.le_refl _) (Nat.zero_le _) rfl
    rw [sV1] at this
    exact this
  rw [hV] at hf hmade
  clear hv
  go_enter Try.func11, Try.ntmps11
  go_wp2_with (first | (at_builtin; refine wpList_append_hb rfl (.tmp 11) (.tmp 12) 22 rfl (w.heap.size + 1) 5 Try.underlying22 i_u8 _ 0 (bcs []) rfl hmade _ _ _ b rfl hf ?qa ?qb ?_))
  case qa => omega
  case qb => simp
  intro v1 w1 hown1 hgrow1
  rw [← hV] at hgrow1
  rw [← sV1] at hown1
  have hb1 : Below V.heap.size V w1 := bV.grown hgrow1 (by simp) (by intro k hk; cases hk; show _ ≤ w.heap.size + 1; omega)
  have hown1' : w1.ownsRow V.heap.size 5 1 v1 b.length (bcs b) := by simpa [bcs] using hown1
  have hlt := hown1'.lt
  obtain ⟨p1, d1, rfl⟩ := owns_shape hown1'
  have hh := HB.of_owns hown1'
  have hty := fun a n c (e : Value.slice p1 b.length d1 = .slice (some a) n c) => TY.of_owns hown1' e
  have bW := (Below.refl w1.heap.size w1).alloc (Nat.le_refl _) (.cells #[.slice p1 b.length d1, .int .i64 0] 68)
  have x2 : XR (w1.alloc (.cells #[.slice p1 b.length d1, .int .i64 0] 68)) w1.heap.size b 0 := ⟨p1, d1, heap_alloc_new w1 _, hh.later bW, fun a n c e => ⟨by have := (hlt a.block (by rw [e]; rfl)).2; omega, (hty a n c e).later bW⟩⟩
  have bw1 : Below w.heap.size w w1 := bA.trans (hb1.mono bA.size)
  have a1 : AB w1 w.heap.size zeroA := gA.later hb1
  have bw2 : Below w.heap.size w _ := bw1.trans (bW.mono bw1.size)
  have a2 := a1.later bW
  have HU := xuint_all w1.heap.size b 0 2147483648 _ x2 (fun h => absurd rfl h) (by omega)
  rw [rdZ.1, hu] at HU
  simp only at HU
  clear hu
  clear hgrow1 hown1 hown1' hh hty hmade hf bV hb1 hV
  go_wp2_with fail
  refine HU.mono ?_
  rintro x w2 ⟨rfl, hx2, ho2⟩
  have bw3 : Below w.heap.size w w2 := bw2.trans (ho2.below bw1.size)
  obtain ⟨cs0, f0, hg0⟩ := x2.typed
  have a3 : AB w2 w.heap.size zeroA := (TK.of_only ho2 hg0) _ _ _ _ a2 (by decide)
  have hne : w.heap.size ≠ w1.heap.size := by have := (Array.getElem?_eq_some_iff.1 a1).1; omega
  have hne2 := hne.symm
  have HK := known_any (un : Int) w2
  rw [show decide ((un : Int) ≤ 10 ∧ 1 ≤ (un : Int)) = false by simp only [h1, decide_false]] at HK
  clear hg0 HU ho2 a2 x2 bw2 bW a1 bw1
  obtain ⟨px, cx, hxd, _⟩ := hx2
  obtain ⟨k0, k1⟩ := hxd.cells
  clear hxd
  obtain ⟨x0, x1, x2, x3, x4, x5, x6, x7, x8, x9⟩ := ask_cells a3
  have fz := fun i => a3.free i
  clear a3
  go_wp2_with fail
  refine HK.mono ?_
  rintro e w3 ⟨rfl, rfl⟩
  clear HK h1
  go_wp2
  all_goals
    refine bodyPost_ret (v := .tuple #[.agg #[.int .i64 0, .slice none 0 0, .int .i64 0, .int .i64 0, .int .i64 0, .bool false, .int .i64 0, .int .i64 0, .int .i64 0, .slice none 0 0], .int .i64 87]) ?_ rfl ⟨rfl, ?_⟩
    · simp only [results, Try.results11]
      go_simp
    · exact ((((((((((Below.setCell (p := ⟨w.heap.size, 0, none⟩) bw3 (Nat.le_refl _) _).setCell (p := ⟨w.heap.size, 1, none⟩) (Nat.le_refl _) _).setCell (p := ⟨w.heap.size, 2, none⟩) (Nat.le_refl _) _).setCell (p := ⟨w.heap.size, 3, none⟩) (Nat.le_refl _) _).setCell (p := ⟨w.heap.size, 4, none⟩) (Nat.le_refl _) _).setCell (p := ⟨w.heap.size, 5, none⟩) (Nat.le_refl _) _).setCell (p := ⟨w.heap.size, 6, none⟩) (Nat.le_refl _) _).setCell (p := ⟨w.heap.size, 7, none⟩) (Nat.le_refl _) _).setCell (p := ⟨w.heap.size, 8, none⟩) (Nat.le_refl _) _).setCell (p := ⟨w.heap.size, 9, none⟩) (Nat.le_refl _) _)

end Go.Proofs.Ythkgbgkijdeaoaa

namespace Go.Proofs.Ythkgbgkijdeaoaa
open Go.RowKit

set_option maxRecDepth 100000 in
set_option maxHeartbeats 400000 in
theorem rdec_fields_bad (v : Value) (b : List UInt8) (w : World) (hv : HB w v b) (hsz : b.length ≤ 140737488351232) (un : Nat) (ul : List UInt8) (hu : uintF b 2147483648 = (0, un, ul)) (h1 : 2 ≤ un ∧ un ≤ 10) (hbad : ∀ rest ap, ((decB un ul).1 = 0 → (rest, ap) = (decB un ul).2) → endF rest.length (decB un ul).1 ≠ 0) :
    Calls Try.prog 11 #[v] w fun x w' => ∃ ee, ee ≠ 0 ∧ (∃ rest ap, ((decB un ul).1 = 0 → (rest, ap) = (decB un ul).2) ∧ ee = endF rest.length (decB un ul).1) ∧ x = .returned (.tuple #[.agg #[.int .i64 0, .slice none 0 0, .int .i64 0, .int .i64 0, .int .i64 0, .bool false, .int .i64 0, .int .i64 0, .int .i64 0, .slice none 0 0], .int .i64 ee]) ∧ Below w.heap.size w w' := by
  have bA := (Below.refl w.heap.size w).alloc (Nat.le_refl _) (.cells #[.int .i64 0, .slice none 0 0, .int .i64 0, .int .i64 0, .int .i64 0, .bool false, .int .i64 0, .int .i64 0, .int .i64 0, .slice none 0 0] 25)
  have gA : AB (w.alloc (.cells #[.int .i64 0, .slice none 0 0, .int .i64 0, .int .i64 0, .int .i64 0, .bool false, .int .i64 0, .int .i64 0, .int .i64 0, .slice none 0 0] 25)) w.heap.size zeroA := heap_alloc_new w _
  obtain ⟨p, c, rfl⟩ := hv.shape
  obtain ⟨V, hV⟩ : ∃ V, V = w.alloc (.cells #[.int .i64 0, .slice none 0 0, .int .i64 0, .int .i64 0, .int .i64 0, .bool false, .int .i64 0, .int .i64 0, .int .i64 0, .slice none 0 0] 25) := ⟨_, rfl⟩
  rw [← hV] at bA gA
  have bV := (Below.refl V.heap.size V).alloc (Nat.le_refl _) (.cells #[] 5)
  have hf := (hv.later bA).later bV
  have sV1 : V.heap.size = w.heap.size + 1 := by rw [hV]; simp
  have hmade : (V.alloc (.cells #[] 5)).ownsRow (w.heap.size + 1) 5 1 (.slice (some ⟨w.heap.size + 1, 0, none⟩) 0 0) 0 (bcs []) := by
    have := World.ownsRow_made (e := 5) (size := 1) (base := V.heap.size) V #[] 0 (Nat.le_refl _) (Nat.zero_le _) rfl
    rw [sV1] at this
    exact this
  rw [hV] at hf hmade
  clear hv
  go_enter Try.func11, Try.ntmps11
  go_wp2_with (first | (at_builtin; refine wpList_append_hb rfl (.tmp 11) (.tmp 12) 22 rfl (w.heap.size + 1) 5 Try.underlying22 i_u8 _ 0 (bcs []) rfl hmade _ _ _ b rfl hf ?qa ?qb ?_))
  case qa => omega
  case qb => simp
  intro v1 w1 hown1 hgrow1
  rw [← hV] at hgrow1
  rw [← sV1] at hown1
  have hb1 : Below V.heap.size V w1 := bV.grown hgrow1 (by simp) (by intro k hk; cases hk; show _ ≤ w.heap.size + 1; omega)
  have hown1' : w1.ownsRow V.heap.size 5 1 v1 b.length (bcs b) := by simpa [bcs] using hown1
  have hlt := hown1'.lt
  obtain ⟨p1, d1, rfl⟩ := owns_shape hown1'
  have hh := HB.of_owns hown1'
  have hty := fun a n c (e : Value.slice p1 b.length d1 = .slice (some a) n c) => TY.of_owns hown1' e
  have bW := (Below.refl w1.heap.size w1).alloc (Nat.le_refl _) (.cells #[.slice p1 b.length d1, .int .i64 0] 68)
  have x2 : XR (w1.alloc (.cells #[.slice p1 b.length d1, .int .i64 0] 68)) w1.heap.size b 0 := ⟨p1, d1, heap_alloc_new w1 _, hh.later bW, fun a n c e => ⟨by have := (hlt a.block (by rw [e]; rfl)).2; omega, (hty a n c e).later bW⟩⟩
  have bw1 : Below w.heap.size w w1 := bA.trans (hb1.mono bA.size)
  have a1 : AB w1 w.heap.size zeroA := gA.later hb1
  have bw2 : Below w.heap.size w _ := bw1.trans (bW.mono bw1.size)
  have a2 := a1.later bW
  have HU := xuint_all w1.heap.size b 0 2147483648 _ x2 (fun h => absurd rfl h) (by omega)
  rw [rdZ.1, hu] at HU
  simp only at HU
  have hule : ul.length ≤ b.length := by have := uintF_le b 2147483648; rw [hu] at this; exact this
  clear hu
  clear hgrow1 hown1 hown1' hh hty hmade hf bV hb1 hV
  go_wp2_with fail
  refine HU.mono ?_
  rintro x w2 ⟨rfl, hx2, ho2⟩
  have bw3 : Below w.heap.size w w2 := bw2.trans (ho2.below bw1.size)
  obtain ⟨cs0, f0, hg0⟩ := x2.typed
  have a3 : AB w2 w.heap.size zeroA := (TK.of_only ho2 hg0) _ _ _ _ a2 (by decide)
  have hne : w.heap.size ≠ w1.heap.size := by have := (Array.getElem?_eq_some_iff.1 a1).1; omega
  have hne2 := hne.symm
  have hle0 : w.heap.size ≤ w1.heap.size := bw1.size
  have HK := known_any (un : Int) w2
  rw [show decide ((un : Int) ≤ 10 ∧ 1 ≤ (un : Int)) = true by simp only [decide_eq_true_eq]; omega] at HK
  clear hg0 HU ho2 a2 x2 bw2 bW a1 bw1
  have bC := (Below.refl w2.heap.size w2).alloc (Nat.le_refl _) (.cells #[.int .i64 (un : Int), .slice none 0 0, .int .i64 0, .int .i64 0, .int .i64 0, .bool false, .int .i64 0, .int .i64 0, .int .i64 0, .slice none 0 0] 25)
  have a4 := a3.later bC
  have aC : AB (w2.alloc (.cells #[.int .i64 (un : Int), .slice none 0 0, .int .i64 0, .int .i64 0, .int .i64 0, .bool false, .int .i64 0, .int .i64 0, .int .i64 0, .slice none 0 0] 25)) w2.heap.size #[.int .i64 (un : Int), .slice none 0 0, .int .i64 0, .int .i64 0, .int .i64 0, .bool false, .int .i64 0, .int .i64 0, .int .i64 0, .slice none 0 0] := heap_alloc_new w2 _
  have hx4 := hx2.later bC
  have bw4 := bw3.trans (bC.mono bw3.size)
  have HFd := fields_any un h1 w1.heap.size ul _ hx4 (by omega)
  have hn1 : ¬ ((un : Int) = 1) := by omega
  have HGL : w1.heap.size < w2.heap.size := by obtain ⟨cs1, f1, h1⟩ := hx2.typed; exact (Array.getElem?_eq_some_iff.1 h1).1
  obtain ⟨px, cx, hxd, _⟩ := hx2
  obtain ⟨k0, k1⟩ := hxd.cells
  clear hxd
  have hgl0 : w1.heap.size < w2.heap.size := HGL
  go_wp2_with fail
  refine HK.mono ?_
  rintro e w3 ⟨rfl, rfl⟩
  clear HK
  go_wp2_with fail
  refine HFd.mono ?_
  rintro x w5 ⟨idv, e5, rest, ap, rfl, hi5, hx5, ho5, he5, hr5⟩
  obtain ⟨pi, ci, rfl⟩ := hi5.1.shape
  have a5 : AB w5 w.heap.size zeroA := (TK.of_only ho5 hx4.typed.choose_spec.choose_spec) _ _ _ _ a4 (by decide)
  have aC5 : AB w5 w3.heap.size #[.int .i64 (un : Int), .slice none 0 0, .int .i64 0, .int .i64 0, .int .i64 0, .bool false, .int .i64 0, .int .i64 0, .int .i64 0, .slice none 0 0] := (TK.of_only ho5 hx4.typed.choose_spec.choose_spec) _ _ _ _ aC (by decide)
  have hgl : w1.heap.size < w3.heap.size := hgl0
  have fin := filled (w0 := w3) (r := w3.heap.size) (.int .i64 (un : Int)) (.slice pi ap.id.length ci) (.int .i64 (ap.fr : Int)) (.int .i64 (ap.to : Int)) (.int .i64 (ap.ti : Int)) (.bool ap.so) (.int .i64 (ap.ep : Int)) (.int .i64 (ap.ix : Int)) (.int .i64 (ap.li : Int)) (.slice none 0 0) hx5 aC5 ((Only.of_below bC (Nat.le_of_lt hgl)).trans ho5) (HBN.nil w5 w1.heap.size) (Nat.le_of_lt hgl) (Nat.le_refl _)
  have HE := xend_any w1.heap.size rest e5 _ fin.1
  have y5 := ask_cells aC5
  obtain ⟨y0, y1, y2, y3, y4, y5, y6, y7, y8, y9⟩ := y5
  have fy := fun i => aC5.free i
  go_wp2_with fail
  refine HE.mono ?_
  rintro x w6 ⟨rfl, nd, hw6⟩
  have hlz : w.heap.size < w3.heap.size := (Array.getElem?_eq_some_iff.1 a3).1
  have a6 : AB w6 w.heap.size zeroA := by
    rw [hw6]
    refine AB.later ?_ (below_drewN (Below.refl _ _) nd)
    iterate 10 refine AB.other ?_ _ _ (by show w.heap.size ≠ w3.heap.size; omega)
    exact a5
  have b5 : Below w.heap.size w w5 := bw4.trans (ho5.below (by omega))
  have b6 : Below w.heap.size w w6 := by
    rw [hw6]
    refine below_drewN ?_ nd
    iterate 10 refine Below.setCell ?_ (by show w.heap.size ≤ w3.heap.size; omega) _
    exact b5
  have hee : endF rest.length e5 ≠ 0 := by rw [he5]; exact hbad rest ap hr5
  generalize hEE : endF rest.length e5 = ee at *
  clear hw6 HE fin y0 y1 y2 y3 y4 y5 y6 y7 y8 y9 fy a5 aC5 b5 hx5 ho5 hi5 aC a4 bC hx4 a3 bw3 bw4 k0 k1
  obtain ⟨x0, x1, x2, x3, x4, x5, x6, x7, x8, x9⟩ := ask_cells a6
  have fz := fun i => a6.free i
  go_wp2
  refine bodyPost_ret (v := .tuple #[.agg #[.int .i64 0, .slice none 0 0, .int .i64 0, .int .i64 0, .int .i64 0, .bool false, .int .i64 0, .int .i64 0, .int .i64 0, .slice none 0 0], .int .i64 ee]) ?_ rfl ⟨ee, hee, ⟨rest, ap, hr5, by rw [← he5]; exact hEE.symm⟩, rfl, ?_⟩
  · simp only [results, Try.results11]
    go_simp
  · exact ((((((((((Below.setCell (p := ⟨w.heap.size, 0, none⟩) b6 (Nat.le_refl _) _).setCell (p := ⟨w.heap.size, 1, none⟩) (Nat.le_refl _) _).setCell (p := ⟨w.heap.size, 2, none⟩) (Nat.le_refl _) _).setCell (p := ⟨w.heap.size, 3, none⟩) (Nat.le_refl _) _).setCell (p := ⟨w.heap.size, 4, none⟩) (Nat.le_refl _) _).setCell (p := ⟨w.heap.size, 5, none⟩) (Nat.le_refl _) _).setCell (p := ⟨w.heap.size, 6, none⟩) (Nat.le_refl _) _).setCell (p := ⟨w.heap.size, 7, none⟩) (Nat.le_refl _) _).setCell (p := ⟨w.heap.size, 8, none⟩) (Nat.le_refl _) _).setCell (p := ⟨w.heap.size, 9, none⟩) (Nat.le_refl _) _)

end Go.Proofs.Ythkgbgkijdeaoaa

namespace Go.Proofs.Ythkgbgkijdeaoaa
open Go.RowKit

theorem filledA {w : World} {r : Nat} {c0 c1 c2 c3 c4 c5 c6 c7 c8 c9 : Value} (n0 n1 n2 n3 n4 n5 n6 n7 n8 n9 : Value) (h : AB w r #[c0, c1, c2, c3, c4, c5, c6, c7, c8, c9]) : AB ((((((((((w.setCell ⟨r, 0, none⟩ n0).setCell ⟨r, 1, none⟩ n1).setCell ⟨r, 2, none⟩ n2).setCell ⟨r, 3, none⟩ n3).setCell ⟨r, 4, none⟩ n4).setCell ⟨r, 5, none⟩ n5).setCell ⟨r, 6, none⟩ n6).setCell ⟨r, 7, none⟩ n7).setCell ⟨r, 8, none⟩ n8).setCell ⟨r, 9, none⟩ n9) r #[n0, n1, n2, n3, n4, n5, n6, n7, n8, n9] := by
  have h0 := h.set 0 n0 #[n0, c1, c2, c3, c4, c5, c6, c7, c8, c9] rfl
  have h1 := h0.set 1 n1 #[n0, n1, c2, c3, c4, c5, c6, c7, c8, c9] rfl
  have h2 := h1.set 2 n2 #[n0, n1, n2, c3, c4, c5, c6, c7, c8, c9] rfl
  have h3 := h2.set 3 n3 #[n0, n1, n2, n3, c4, c5, c6, c7, c8, c9] rfl
  have h4 := h3.set 4 n4 #[n0, n1, n2, n3, n4, c5, c6, c7, c8, c9] rfl
  have h5 := h4.set 5 n5 #[n0, n1, n2, n3, n4, n5, c6, c7, c8, c9] rfl
  have h6 := h5.set 6 n6 #[n0, n1, n2, n3, n4, n5, n6, c7, c8, c9] rfl
  have h7 := h6.set 7 n7 #[n0, n1, n2, n3, n4, n5, n6, n7, c8, c9] rfl
  have h8 := h7.set 8 n8 #[n0, n1, n2, n3, n4, n5, n6, n7, n8, c9] rfl
  have h9 := h8.set 9 n9 #[n0, n1, n2, n3, n4, n5, n6, n7, n8, n9] rfl
  exact h9

theorem filledT {w : World} {r : Nat} {cs : Array Value} (n0 n1 n2 n3 n4 n5 n6 n7 n8 n9 : Value) (h : AB w r cs) : TK 25 w ((((((((((w.setCell ⟨r, 0, none⟩ n0).setCell ⟨r, 1, none⟩ n1).setCell ⟨r, 2, none⟩ n2).setCell ⟨r, 3, none⟩ n3).setCell ⟨r, 4, none⟩ n4).setCell ⟨r, 5, none⟩ n5).setCell ⟨r, 6, none⟩ n6).setCell ⟨r, 7, none⟩ n7).setCell ⟨r, 8, none⟩ n8).setCell ⟨r, 9, none⟩ n9) :=
  TK.of_only (((((((((((Only.refl r w).setCell 0 n0).setCell 1 n1).setCell 2 n2).setCell 3 n3).setCell 4 n4).setCell 5 n5).setCell 6 n6).setCell 7 n7).setCell 8 n8).setCell 9 n9) h

theorem filledB {w0 w : World} {r : Nat} (n0 n1 n2 n3 n4 n5 n6 n7 n8 n9 : Value) (h : Below w0.heap.size w0 w) (hr : w0.heap.size ≤ r) : Below w0.heap.size w0 ((((((((((w.setCell ⟨r, 0, none⟩ n0).setCell ⟨r, 1, none⟩ n1).setCell ⟨r, 2, none⟩ n2).setCell ⟨r, 3, none⟩ n3).setCell ⟨r, 4, none⟩ n4).setCell ⟨r, 5, none⟩ n5).setCell ⟨r, 6, none⟩ n6).setCell ⟨r, 7, none⟩ n7).setCell ⟨r, 8, none⟩ n8).setCell ⟨r, 9, none⟩ n9) :=
  (((((((((h.setCell (p := ⟨r, 0, none⟩) hr _).setCell (p := ⟨r, 1, none⟩) hr _).setCell (p := ⟨r, 2, none⟩) hr _).setCell (p := ⟨r, 3, none⟩) hr _).setCell (p := ⟨r, 4, none⟩) hr _).setCell (p := ⟨r, 5, none⟩) hr _).setCell (p := ⟨r, 6, none⟩) hr _).setCell (p := ⟨r, 7, none⟩) hr _).setCell (p := ⟨r, 8, none⟩) hr _).setCell (p := ⟨r, 9, none⟩) hr _

set_option maxRecDepth 100000 in
set_option maxHeartbeats 400000 in
theorem rdec_fields_good (v : Value) (b : List UInt8) (w : World) (hv : HB w v b) (hsz : b.length ≤ 140737488351232) (un : Nat) (ul : List UInt8) (hu : uintF b 2147483648 = (0, un, ul)) (h1 : 2 ≤ un ∧ un ≤ 10) (hz : (decB un ul).1 = 0) (hl : (decB un ul).2.1 = []) (DA : AP) (hDA : (decB un ul).2.2 = DA) :
    Calls Try.prog 11 #[v] w fun x w' => ∃ idv, x = .returned (.tuple #[.agg #[.int .i64 (un : Int), idv, .int .i64 (DA.fr : Int), .int .i64 (DA.to : Int), .int .i64 (DA.ti : Int), .bool DA.so, .int .i64 (DA.ep : Int), .int .i64 (DA.ix : Int), .int .i64 (DA.li : Int), .slice none 0 0], .int .i64 0]) ∧ HB w' idv DA.id ∧ Below w.heap.size w w' := by
  have bA := (Below.refl w.heap.size w).alloc (Nat.le_refl _) (.cells #[.int .i64 0, .slice none 0 0, .int .i64 0, .int .i64 0, .int .i64 0, .bool false, .int .i64 0, .int .i64 0, .int .i64 0, .slice none 0 0] 25)
  have gA : AB (w.alloc (.cells #[.int .i64 0, .slice none 0 0, .int .i64 0, .int .i64 0, .int .i64 0, .bool false, .int .i64 0, .int .i64 0, .int .i64 0, .slice none 0 0] 25)) w.heap.size zeroA := heap_alloc_new w _
  obtain ⟨p, c, rfl⟩ := hv.shape
  obtain ⟨V, hV⟩ : ∃ V, V = w.alloc (.cells #[.int .i64 0, .slice none 0 0, .int .i64 0, .int .i64 0, .int .i64 0, .bool false, .int .i64 0, .int .i64 0, .int .i64 0, .slice none 0 0] 25) := ⟨_, rfl⟩
  rw [← hV] at bA gA
  have bV := (Below.refl V.heap.size V).alloc (Nat.le_refl _) (.cells #[] 5)
  have hf := (hv.later bA).later bV
  have sV1 : V.heap.size = w.heap.size + 1 := by rw [hV]; simp
  have hmade : (V.alloc (.cells #[] 5)).ownsRow (w.heap.size + 1) 5 1 (.slice (some ⟨w.heap.size + 1, 0, none⟩) 0 0) 0 (bcs []) := by
    have := World.ownsRow_made (e := 5) (size := 1) (base := V.heap.size) V #[] 0 (Nat.le_refl _) (Nat.zero_le _) rfl
    rw [sV1] at this
    exact this
  rw [hV] at hf hmade
  clear hv
  go_enter Try.func11, Try.ntmps11
  go_wp2_with (first | (at_builtin; refine wpList_append_hb rfl (.tmp 11) (.tmp 12) 22 rfl (w.heap.size + 1) 5 Try.underlying22 i_u8 _ 0 (bcs []) rfl hmade _ _ _ b rfl hf ?qa ?qb ?_))
  case qa => omega
  case qb => simp
  intro v1 w1 hown1 hgrow1
  rw [← hV] at hgrow1
  rw [← sV1] at hown1
  have hb1 : Below V.heap.size V w1 := bV.grown hgrow1 (by simp) (by intro k hk; cases hk; show _ ≤ w.heap.size + 1; omega)
  have hown1' : w1.ownsRow V.heap.size 5 1 v1 b.length (bcs b) := by simpa [bcs] using hown1
  have hlt := hown1'.lt
  obtain ⟨p1, d1, rfl⟩ := owns_shape hown1'
  have hh := HB.of_owns hown1'
  have hty := fun a n c (e : Value.slice p1 b.length d1 = .slice (some a) n c) => TY.of_owns hown1' e
  have bW := (Below.refl w1.heap.size w1).alloc (Nat.le_refl _) (.cells #[.slice p1 b.length d1, .int .i64 0] 68)
  have x2 : XR (w1.alloc (.cells #[.slice p1 b.length d1, .int .i64 0] 68)) w1.heap.size b 0 := ⟨p1, d1, heap_alloc_new w1 _, hh.later bW, fun a n c e => ⟨by have := (hlt a.block (by rw [e]; rfl)).2; omega, (hty a n c e).later bW⟩⟩
  have bw1 : Below w.heap.size w w1 := bA.trans (hb1.mono bA.size)
  have a1 : AB w1 w.heap.size zeroA := gA.later hb1
  have bw2 : Below w.heap.size w _ := bw1.trans (bW.mono bw1.size)
  have a2 := a1.later bW
  have HU := xuint_all w1.heap.size b 0 2147483648 _ x2 (fun h => absurd rfl h) (by omega)
  rw [rdZ.1, hu] at HU
  simp only at HU
  have hule : ul.length ≤ b.length := by have := uintF_le b 2147483648; rw [hu] at this; exact this
  clear hu
  clear hgrow1 hown1 hown1' hh hty hmade hf bV hb1 hV
  go_wp2_with fail
  refine HU.mono ?_
  rintro x w2 ⟨rfl, hx2, ho2⟩
  have bw3 : Below w.heap.size w w2 := bw2.trans (ho2.below bw1.size)
  obtain ⟨cs0, f0, hg0⟩ := x2.typed
  have a3 : AB w2 w.heap.size zeroA := (TK.of_only ho2 hg0) _ _ _ _ a2 (by decide)
  have hne : w.heap.size ≠ w1.heap.size := by have := (Array.getElem?_eq_some_iff.1 a1).1; omega
  have hne2 := hne.symm
  have hle0 : w.heap.size ≤ w1.heap.size := bw1.size
  have HK := known_any (un : Int) w2
  rw [show decide ((un : Int) ≤ 10 ∧ 1 ≤ (un : Int)) = true by simp only [decide_eq_true_eq]; omega] at HK
  clear hg0 HU ho2 a2 x2 bw2 bW a1 bw1
  have bC := (Below.refl w2.heap.size w2).alloc (Nat.le_refl _) (.cells #[.int .i64 (un : Int), .slice none 0 0, .int .i64 0, .int .i64 0, .int .i64 0, .bool false, .int .i64 0, .int .i64 0, .int .i64 0, .slice none 0 0] 25)
  have a4 := a3.later bC
  have aC : AB (w2.alloc (.cells #[.int .i64 (un : Int), .slice none 0 0, .int .i64 0, .int .i64 0, .int .i64 0, .bool false, .int .i64 0, .int .i64 0, .int .i64 0, .slice none 0 0] 25)) w2.heap.size #[.int .i64 (un : Int), .slice none 0 0, .int .i64 0, .int .i64 0, .int .i64 0, .bool false, .int .i64 0, .int .i64 0, .int .i64 0, .slice none 0 0] := heap_alloc_new w2 _
  have hx4 := hx2.later bC
  have bw4 := bw3.trans (bC.mono bw3.size)
  have HFd := fields_any un h1 w1.heap.size ul _ hx4 (by omega)
  have hn1 : ¬ ((un : Int) = 1) := by omega
  have HGL : w1.heap.size < w2.heap.size := by obtain ⟨cs1, f1, h1⟩ := hx2.typed; exact (Array.getElem?_eq_some_iff.1 h1).1
  obtain ⟨px, cx, hxd, _⟩ := hx2
  obtain ⟨k0, k1⟩ := hxd.cells
  clear hxd
  have hgl0 : w1.heap.size < w2.heap.size := HGL
  go_wp2_with fail
  refine HK.mono ?_
  rintro e w3 ⟨rfl, rfl⟩
  clear HK
  go_wp2_with fail
  refine HFd.mono ?_
  rintro x w5 ⟨idv, e5, rest, ap, rfl, hi5, hx5, ho5, he5, hr5⟩
  have hr5 := hr5 hz
  rw [hz] at he5
  have hl5 : rest = [] := by rw [← hl, ← hr5]
  have hp5 : ap = DA := by rw [← hDA, ← hr5]
  clear hr5 hz hl hDA
  subst hp5
  subst he5 hl5
  obtain ⟨pi, ci, rfl⟩ := hi5.1.shape
  have a5 : AB w5 w.heap.size zeroA := (TK.of_only ho5 hx4.typed.choose_spec.choose_spec) _ _ _ _ a4 (by decide)
  have aC5 : AB w5 w3.heap.size #[.int .i64 (un : Int), .slice none 0 0, .int .i64 0, .int .i64 0, .int .i64 0, .bool false, .int .i64 0, .int .i64 0, .int .i64 0, .slice none 0 0] := (TK.of_only ho5 hx4.typed.choose_spec.choose_spec) _ _ _ _ aC (by decide)
  have hgl : w1.heap.size < w3.heap.size := hgl0
  have fin := filled (w0 := w3) (r := w3.heap.size) (.int .i64 (un : Int)) (.slice pi ap.id.length ci) (.int .i64 (ap.fr : Int)) (.int .i64 (ap.to : Int)) (.int .i64 (ap.ti : Int)) (.bool ap.so) (.int .i64 (ap.ep : Int)) (.int .i64 (ap.ix : Int)) (.int .i64 (ap.li : Int)) (.slice none 0 0) hx5 aC5 ((Only.of_below bC (Nat.le_of_lt hgl)).trans ho5) hi5 (Nat.le_of_lt hgl) (Nat.le_refl _)
  have HE := xend_any w1.heap.size [] 0 _ fin.1
  have y5 := ask_cells aC5
  obtain ⟨y0, y1, y2, y3, y4, y5, y6, y7, y8, y9⟩ := y5
  have fy := fun i => aC5.free i
  have aD := filledA (.int .i64 (un : Int)) (.slice pi ap.id.length ci) (.int .i64 (ap.fr : Int)) (.int .i64 (ap.to : Int)) (.int .i64 (ap.ti : Int)) (.bool ap.so) (.int .i64 (ap.ep : Int)) (.int .i64 (ap.ix : Int)) (.int .i64 (ap.li : Int)) (.slice none 0 0) aC5
  go_wp2_with fail
  refine HE.mono ?_
  rintro x w6 ⟨rfl, nd, hw6⟩
  rw [show endF ([] : List UInt8).length 0 = 0 from rfl]
  have hlz : w.heap.size < w3.heap.size := (Array.getElem?_eq_some_iff.1 a3).1
  have a6 : AB w6 w.heap.size zeroA := by
    rw [hw6]
    refine AB.later ?_ (below_drewN (Below.refl _ _) nd)
    iterate 10 refine AB.other ?_ _ _ (by show w.heap.size ≠ w3.heap.size; omega)
    exact a5
  have aD6 : AB w6 w3.heap.size #[.int .i64 (un : Int), .slice pi ap.id.length ci, .int .i64 (ap.fr : Int), .int .i64 (ap.to : Int), .int .i64 (ap.ti : Int), .bool ap.so, .int .i64 (ap.ep : Int), .int .i64 (ap.ix : Int), .int .i64 (ap.li : Int), .slice none 0 0] := by rw [hw6]; exact aD.later (below_drewN (Below.refl _ _) nd)
  have hi6 : HBN w6 w1.heap.size (.slice pi ap.id.length ci) ap.id := by rw [hw6]; exact fin.2.2.later (below_drewN (Below.refl _ _) nd)
  have b5 : Below w.heap.size w w5 := bw4.trans (ho5.below (by omega))
  have b6 : Below w.heap.size w w6 := by
    rw [hw6]
    refine below_drewN ?_ nd
    exact filledB _ _ _ _ _ _ _ _ _ _ b5 (by omega)
  clear hw6 HE fin y0 y1 y2 y3 y4 y5 y6 y7 y8 y9 fy a5 aC5 b5 hx5 ho5 hi5 aC a4 bC hx4 a3 bw3 bw4 k0 k1 aD
  obtain ⟨x0, x1, x2, x3, x4, x5, x6, x7, x8, x9⟩ := ask_cells a6
  obtain ⟨y0, y1, y2, y3, y4, y5, y6, y7, y8, y9⟩ := ask_cells aD6
  have fz := fun i => a6.free i
  go_wp2
  refine bodyPost_ret (v := .tuple #[.agg #[.int .i64 (un : Int), .slice pi ap.id.length ci, .int .i64 (ap.fr : Int), .int .i64 (ap.to : Int), .int .i64 (ap.ti : Int), .bool ap.so, .int .i64 (ap.ep : Int), .int .i64 (ap.ix : Int), .int .i64 (ap.li : Int), .slice none 0 0], .int .i64 0]) ?_ rfl ⟨_, rfl, ?_, ?_⟩
  · simp only [results, Try.results11]
    go_simp
  · exact (hi6.tk (filledT _ _ _ _ _ _ _ _ _ _ a6) (by decide)).1
  · exact filledB _ _ _ _ _ _ _ _ _ _ b6 (Nat.le_refl _)

end Go.Proofs.Ythkgbgkijdeaoaa

namespace Go.Proofs.Ythkgbgkijdeaoaa
open Go.RowKit

/-- What Read tells: the batch, the rest; where they lie. -/
def RdToldX (er : Int) (bs : List (List UInt8 × List UInt8)) (rest : List UInt8) (w : World) (x : Ending) (w' : World) : Prop :=
  ∃ u v, x = .returned (.tuple #[u, v, .int .i64 er]) ∧ (er = 0 → ∃ g, RBx w' w.heap.size g u bs ∧ HBN w' g v rest) ∧ Below w.heap.size w w'

set_option maxRecDepth 100000 in
set_option maxHeartbeats 8000000 in
theorem crreadK_core (pa pb mi mk pc pd pe pf : Int) (v : Value) (b : List UInt8) (w : World) (hv : HB w v b) (hsz : b.length ≤ 140737488351232)
    (e1 : Int) (n : Nat) (r1 : List UInt8) (S : Nat → List (List UInt8 × List UInt8)) (Sl Ml : Nat → List UInt8) (Se Me : Nat → Int) (So Sp : Nat → List UInt8)
    (hU1 : ∀ g w, XR w g b 0 → Calls Try.prog 31 #[.pointer (some ⟨g, 0, none⟩), .int .i64 32] w fun x w' => x = .returned (.int .i64 (n : Int)) ∧ XR w' g r1 e1 ∧ Only g w w')
    (hBi : Hid (∀ k g w, XR w g (Sl k) (Se k) → Calls Try.prog 50 #[.pointer (some ⟨g, 0, none⟩), .int .i64 mi] w fun x w' => ∃ v, x = .returned v ∧ ∃ p c, v = .slice p (So k).length c ∧ HBN w' g (.slice p (So k).length c) (So k) ∧ XR w' g (Ml k) (Me k) ∧ Only g w w'))
    (hBk : Hid (∀ k g w, XR w g (Ml k) (Me k) → Calls Try.prog 50 #[.pointer (some ⟨g, 0, none⟩), .int .i64 mk] w fun x w' => ∃ v, x = .returned v ∧ ∃ p c, v = .slice p (Sp k).length c ∧ HBN w' g (.slice p (Sp k).length c) (Sp k) ∧ XR w' g (Sl (k + 1)) (Se (k + 1)) ∧ Only g w w'))
    (hS0 : Hid (S 0 = [] ∧ Sl 0 = r1 ∧ Se 0 = e1)) (hSk : Hid (∀ k, S (k + 1) = S k ++ [(So k, Sp k)])) (hSl : Hid (∀ k, (S k).length = k)) (hn : n ≤ 32) :
    Calls Try.prog 32 #[.agg #[.int .i64 pa, .int .i64 pb, .int .i64 mi, .int .i64 mk, .int .i64 pc, .int .i64 pd, .int .i64 pe, .int .i64 pf], v] w (RdToldX (Se n) (S n) (Sl n) w) := by
  obtain ⟨P8, hP8⟩ : ∃ P8 : Array Value, P8 = #[.int .i64 pa, .int .i64 pb, .int .i64 mi, .int .i64 mk, .int .i64 pc, .int .i64 pd, .int .i64 pe, .int .i64 pf] := ⟨_, rfl⟩
  have bA := (Below.refl w.heap.size w).alloc (Nat.le_refl _) (.cells P8 73)
  have gA := heap_alloc_new w (.cells P8 73)
  obtain ⟨p, c, rfl⟩ := hv.shape
  obtain ⟨i0, hi, hz0, hz1, hz2⟩ := info_parts i_bind
  obtain ⟨V, hV⟩ : ∃ V, V = w.alloc (.cells P8 73) := ⟨_, rfl⟩
  rw [← hV] at bA gA
  have sV : w.heap.size < V.heap.size := (Array.getElem?_eq_some_iff.1 gA).1
  have sV1 : V.heap.size = w.heap.size + 1 := by rw [hV]; simp
  have bV := (Below.refl V.heap.size V).alloc (Nat.le_refl _) (.cells #[] 5)
  have hf := (hv.later bA).later bV
  have hmade : (V.alloc (.cells #[] 5)).ownsRow (w.heap.size + 1) 5 1 (.slice (some ⟨w.heap.size + 1, 0, none⟩) 0 0) 0 (bcs []) := by
    have := World.ownsRow_made (e := 5) (size := 1) (base := V.heap.size) V #[] 0 (Nat.le_refl _) (Nat.zero_le _) rfl
    rw [sV1] at this
    exact this
  rw [hV] at hf hmade
  rw [hP8] at hf hmade hV
  clear hv
  go_enter Try.func32, Try.ntmps32
  go_wp2_with (first | (at_builtin; refine wpList_append_hb rfl (.tmp 10) (.tmp 11) 22 rfl (w.heap.size + 1) 5 Try.underlying22 i_u8 _ 0 (bcs []) rfl hmade _ _ _ b rfl hf ?qa ?qb ?_))
  case qa => omega
  case qb => simp
  intro v1 w1 hown1 hgrow1
  rw [← hV] at hgrow1
  rw [← sV1] at hown1
  have hb1 : Below V.heap.size V w1 := bV.grown hgrow1 (by simp) (by intro k hk; cases hk; show _ ≤ w.heap.size + 1; omega)
  have hown1' : w1.ownsRow V.heap.size 5 1 v1 b.length (bcs b) := by simpa [bcs] using hown1
  have hlt := hown1'.lt
  obtain ⟨p1, d1, rfl⟩ := owns_shape hown1'
  have hh := HB.of_owns hown1'
  have hty := fun a n c (e : Value.slice p1 b.length d1 = .slice (some a) n c) => TY.of_owns hown1' e
  have bW := (Below.refl w1.heap.size w1).alloc (Nat.le_refl _) (.cells #[.slice p1 b.length d1, .int .i64 0] 68)
  have hgw : w.heap.size ≤ w1.heap.size := by have := hb1.size; omega
  have c2 : CX w w.heap.size w1.heap.size P8 b 0 (w1.alloc (.cells #[.slice p1 b.length d1, .int .i64 0] 68)) :=
    ⟨((hb1.trans (bW.mono hb1.size)).block _ sV).trans gA, ⟨p1, d1, heap_alloc_new w1 _, hh.later bW, fun a n c e => ⟨by have := (hlt a.block (by rw [e]; rfl)).2; omega, (hty a n c e).later bW⟩⟩, bA.trans ((hb1.trans (bW.mono hb1.size)).mono bA.size), hgw⟩
  clear hgrow1 hown1 hown1' hlt hf hh hty bA gA bV hmade sV1 bW hb1 hV
  have hU := hU1 _ _ c2.2.1
  clear hU1
  go_wp2_with fail
  refine hU.mono ?_
  rintro x w3 ⟨rfl, r3, o3⟩
  obtain ⟨c3, _⟩ := c2.only o3 r3
  generalize w1.heap.size = g at *
  clear hU c2 r3 o3
  go_wp2
  go_loopw [8, 17] (fun y i wr => ∃ k : Nat, k ≤ n ∧ i = .int .i64 (k : Int) ∧ CX w w.heap.size g P8 (Sl k) (Se k) wr ∧ RBx wr w.heap.size g y (S k)) (fun _ i _ => n - (intOf i).toNat)
  case atStart =>
    obtain ⟨s1, s2, s3⟩ := hS0.out
    exact ⟨0, Nat.zero_le _, rfl, by rw [s2, s3]; exact c3, by rw [s1]; exact RBx.nil _ _ _⟩
  case round =>
    clear c3
    obtain ⟨k, hk, rfl, cr, br⟩ := hrel
    by_cases hlt : k < n
    · have hlt2 : (k : Int) < (n : Int) := by omega
      have hsm := hSl.out k
      have HSk : Hid (S (k + 1) = S k ++ [(So k, Sp k)]) := hSk.out k
      have hB1 := hBi.out k g wr cr.2.1
      have hB2 := fun w h => hBk.out k g w h
      have m2 : wr.cell? ⟨w.heap.size, 2, none⟩ = some (.int .i64 mi) := by rw [cell_of_row _ _ _ _ _ _ cr.1, hP8]; rfl
      clear hBi hBk hS0 hSk hSl
      go_wp2_with fail
      refine hB1.mono ?_
      rintro x w5 ⟨v5, rfl, p5, c5, rfl, h5, r5, o5⟩
      obtain ⟨cr5, t5⟩ := cr.only o5 r5
      have br5 := br.tk t5 (by decide) (by decide)
      have hB3 := hB2 _ cr5.2.1
      have m3 : w5.cell? ⟨w.heap.size, 3, none⟩ = some (.int .i64 mk) := by rw [cell_of_row _ _ _ _ _ _ cr5.1, hP8]; rfl
      clear hB1 m2 cr br r5 o5 t5 hB2
      go_wp2_with fail
      refine hB3.mono ?_
      rintro x w7 ⟨v7, rfl, p7, c7, rfl, h7, r7, o7⟩
      obtain ⟨cr7, t7⟩ := cr5.only o7 r7
      obtain ⟨vs, ow7, br7⟩ := br5.tk t7 (by decide) (by decide)
      have h57 := h5.tk t7 (by decide)
      clear hB3 m3 cr5 br5 r7 o7 t7 h5
      have bB := (Below.refl w7.heap.size w7).alloc (Nat.le_refl _) (.cells #[.slice p5 (So k).length c5, .slice p7 (Sp k).length c7] 92)
      have owB := owns2_tk ow7 (TK.of_below (T := 68) bB) (by decide)
      have cr8 := cr7.later bB
      have hws : w.heap.size ≤ w7.heap.size := cr7.2.2.1.size
      rw [hsm] at owB
      go_wp2_with (first | (at_builtin; refine wpList_append_own _ rfl (.tmp 23) (.tmp 30) 23 rfl w.heap.size 92 i0 _ 2 48 Try.underlying23 hi hz0 hz1 hz2 rfl (by decide) _ _ _ rfl owB ⟨w7.heap.size, 0, none⟩ 1 1 [.slice p5 (So k).length c5, .slice p7 (Sp k).length c7] rfl rfl ?ra ?rb ?rc ?rd ?re ?_))
      case ra => exact cell_two_new _ _ _ _
      case rb => intro u hu; simp at hu; rcases hu with rfl | rfl <;> rfl
      case rc => unfold maxLen; omega
      case rd => omega
      case re => simp; omega
      intro y9 w9 ow9 gr9 _
      have cr9 := cr8.grown owB (Nat.le_refl _) gr9
      have br9 := RBx.snoc (w := w7) (ps := S k) (by rw [hsm]; exact owB) br7 h57 h7 bB gr9 (by rw [hsm]; exact ow9)
      rw [← HSk.out] at br9
      clear ow7 br7 h57 h7 bB owB cr8 cr7 ow9 gr9
      go_wp2
      go_roundw
      case rel => first | exact ⟨k + 1, by omega, by go_num, cr9, br9⟩ | ((repeat apply Exists.intro); exact ⟨⟨k + 1, by omega, by go_num, cr9, br9⟩, rfl⟩)
      case measure => simp [intOf]; omega
    · obtain rfl : k = n := by omega
      have hbw := cr.2.2.1
      have hBA := br.ba
      have hnk : ¬ (k : Int) < (k : Int) := by omega
      obtain ⟨qx, dx, xd, xb⟩ := cr.2.1
      have ce := xd.cells.2
      have cb := xd.cells.1
      obtain ⟨py, cy, rfl⟩ := hBA.shape
      clear hBi hBk hS0 hSk hSl
      generalize hEN : Se k = EN at *
      clear hEN
      by_cases he : EN = 0
      · subst he
        have bD : Below wr.heap.size wr wr.drew := (Below.refl _ wr).drew
        have cbD := cell_later bD cb
        have brD := br.tk (T := 68) (fun _ _ _ _ h _ => h : TK 68 wr wr.drew) (by decide) (by decide)
        have hxD := xb.later bD
        have bF := hbw.trans (bD.mono hbw.size)
        clear hBA xb xd br cr
        go_wp2
        go_region
        all_goals
          go_wp2
          go_ret3
          exact ⟨_, _, rfl, fun _ => ⟨_, brD, hxD⟩, bF⟩
      · have hne : (EN != 0) = true := by simpa using he
        have bD : Below wr.heap.size wr wr.drew := (Below.refl _ wr).drew
        have ceD := cell_later bD ce
        have bF := hbw.trans (bD.mono hbw.size)
        clear hBA xb xd br cr
        go_wp2
        go_region
        all_goals
          go_wp2
          go_ret3
          exact ⟨_, _, rfl, fun h => absurd h he, bF⟩

theorem crreadK_any (pa pb mi mk pc pd pe pf : Int) (v : Value) (b : List UInt8) (w : World) (hv : HB w v b) (hsz : b.length ≤ 140737488351232) :
    Calls Try.prog 32 #[.agg #[.int .i64 pa, .int .i64 pb, .int .i64 mi, .int .i64 mk, .int .i64 pc, .int .i64 pd, .int .i64 pe, .int .i64 pf], v] w (RdToldX (crS mi mk b).2.2 (crS mi mk b).1 (crS mi mk b).2.1 w) := by
  have l1 : (crU b).2.2.length ≤ b.length := rdU_le b 0 32
  have m1 : ((crU b).2.1 : Int) ≤ 32 := rdU_most b 0 32 (by omega)
  have ls := fun k => bdS_le mi mk (crU b).2.2 (crU b).1 k
  have f1 : (crU b).1 ≠ 0 → (crU b).2.2 = [] := rdU_fellX b 0 32 (fun h => absurd rfl h)
  have fk := fun k => bdS_fell mi mk (crU b).2.2 (crU b).1 f1 k
  exact crreadK_core pa pb mi mk pc pd pe pf v b w hv hsz (crU b).1 (crU b).2.1 (crU b).2.2
    (fun k => (bdS mi mk (crU b).2.2 (crU b).1 k).1) (fun k => (bdS mi mk (crU b).2.2 (crU b).1 k).2.1) (fun k => (rdB (bdS mi mk (crU b).2.2 (crU b).1 k).2.1 (bdS mi mk (crU b).2.2 (crU b).1 k).2.2 mi).2.2)
    (fun k => (bdS mi mk (crU b).2.2 (crU b).1 k).2.2) (fun k => (rdB (bdS mi mk (crU b).2.2 (crU b).1 k).2.1 (bdS mi mk (crU b).2.2 (crU b).1 k).2.2 mi).1)
    (fun k => (rdB (bdS mi mk (crU b).2.2 (crU b).1 k).2.1 (bdS mi mk (crU b).2.2 (crU b).1 k).2.2 mi).2.1)
    (fun k => (rdB (rdB (bdS mi mk (crU b).2.2 (crU b).1 k).2.1 (bdS mi mk (crU b).2.2 (crU b).1 k).2.2 mi).2.2 (rdB (bdS mi mk (crU b).2.2 (crU b).1 k).2.1 (bdS mi mk (crU b).2.2 (crU b).1 k).2.2 mi).1 mk).2.1)
    (fun g w h => xuint_all g b 0 32 w h (fun h => absurd rfl h) (by omega))
    (fun k g w h => xbytes_all g _ _ _ w h (fk k) (by have := ls k; omega))
    (fun k g w h => xbytes_all g _ _ _ w h (rdB_fell _ _ _ (fk k)) (by have := ls k; have := rdB_le (bdS mi mk (crU b).2.2 (crU b).1 k).2.1 (bdS mi mk (crU b).2.2 (crU b).1 k).2.2 mi; omega))
    ⟨rfl, rfl, rfl⟩ (fun _ => rfl) (fun k => bdS_len mi mk _ _ k) (by omega)

end Go.Proofs.Ythkgbgkijdeaoaa

namespace Go.Proofs.Ythkgbgkijdeaoaa
open Go.RowKit

set_option maxRecDepth 100000 in
set_option maxHeartbeats 400000 in
theorem rbounds_any (w : World) : Calls Try.prog 33 #[] w fun x w' => x = .returned (.agg #[.int .i64 0, .int .i64 0, .int .i64 24, .int .i64 48, .int .i64 0, .int .i64 0, .int .i64 0, .int .i64 0]) ∧ Below w.heap.size w w' := by
  have bA := (Below.refl w.heap.size w).alloc (Nat.le_refl _) (.cells #[.int .i64 0, .int .i64 0, .int .i64 24, .int .i64 48, .int .i64 0, .int .i64 0, .int .i64 0, .int .i64 0] 73)
  have aA := par_cellsA (heap_alloc_new w (.cells #[.int .i64 0, .int .i64 0, .int .i64 24, .int .i64 48, .int .i64 0, .int .i64 0, .int .i64 0, .int .i64 0] 73))
  obtain ⟨s0, s1, s2, s3, s4, s5, s6, s7⟩ := aA
  go_enter Try.func33, Try.ntmps33
  go_wp2
  refine bodyPost_ret (v := .agg #[.int .i64 0, .int .i64 0, .int .i64 24, .int .i64 48, .int .i64 0, .int .i64 0, .int .i64 0, .int .i64 0]) ?_ rfl ⟨rfl, bA⟩
  simp only [results, Try.results33]
  go_simp

theorem HBN.swap {w : World} {g g' : Nat} {v : Value} {l : List UInt8} {cs : Array Value} {T : TypeId} {f : Nat × Nat} (h : HBN w g v l) (hg : w.heap[g']? = some (.cells cs T f)) (hT : 5 ≠ T) : HBN w g' v l := by
  refine ⟨h.1, fun a n c e => ⟨fun hb => ?_, (h.2 a n c e).2⟩⟩
  obtain ⟨cur, fr, ht⟩ := (h.2 a n c e).2
  rw [hb, hg] at ht
  cases ht
  exact hT rfl

theorem decK1_bad {l : List UInt8} (h : (crS 24 48 l).2.2 ≠ 0) : decK 1 l = ((crS 24 48 l).2.2, 0, AP0) := if_neg h
theorem decK1_rest {l : List UInt8} (h : (crS 24 48 l).2.2 = 0) (h2 : (crS 24 48 l).2.1 ≠ []) : decK 1 l = (5, 0, AP0) := (if_pos h).trans (if_neg h2)
theorem decK1_ok {l : List UInt8} (h : (crS 24 48 l).2.2 = 0) (h2 : (crS 24 48 l).2.1 = []) : decK 1 l = (0, 1, { AP0 with bs := (crS 24 48 l).1 }) := (if_pos h).trans (if_pos h2)

set_option maxRecDepth 100000 in
set_option maxHeartbeats 3000000 in
theorem rdec_batch (v : Value) (b : List UInt8) (w : World) (hv : HB w v b) (hsz : b.length ≤ 140737488351232) (un : Nat) (ul : List UInt8) (hu : uintF b 2147483648 = (0, un, ul)) (hun : Hid (un = 1)) (D : Int × Nat × AP) (hD : Hid (D = decK 1 ul)) :
    Calls Try.prog 11 #[v] w (DecTold D w) := by
  have h1 : (un : Int) = 1 := by rw [hun.out]; rfl
  have bA := (Below.refl w.heap.size w).alloc (Nat.le_refl _) (.cells #[.int .i64 0, .slice none 0 0, .int .i64 0, .int .i64 0, .int .i64 0, .bool false, .int .i64 0, .int .i64 0, .int .i64 0, .slice none 0 0] 25)
  have gA : AB (w.alloc (.cells #[.int .i64 0, .slice none 0 0, .int .i64 0, .int .i64 0, .int .i64 0, .bool false, .int .i64 0, .int .i64 0, .int .i64 0, .slice none 0 0] 25)) w.heap.size zeroA := heap_alloc_new w _
  obtain ⟨p, c, rfl⟩ := hv.shape
  obtain ⟨V, hV⟩ : ∃ V, V = w.alloc (.cells #[.int .i64 0, .slice none 0 0, .int .i64 0, .int .i64 0, .int .i64 0, .bool false, .int .i64 0, .int .i64 0, .int .i64 0, .slice none 0 0] 25) := ⟨_, rfl⟩
  rw [← hV] at bA gA
  have bV := (Below.refl V.heap.size V).alloc (Nat.le_refl _) (.cells #[] 5)
  have hf := (hv.later bA).later bV
  have sV1 : V.heap.size = w.heap.size + 1 := by rw [hV]; simp
  have hmade : (V.alloc (.cells #[] 5)).ownsRow (w.heap.size + 1) 5 1 (.slice (some ⟨w.heap.size + 1, 0, none⟩) 0 0) 0 (bcs []) := by
    have := World.ownsRow_made (e := 5) (size := 1) (base := V.heap.size) V #[] 0 (Nat.le_refl _) (Nat.zero_le _) rfl
    rw [sV1] at this
    exact this
  rw [hV] at hf hmade
  clear hv
  go_enter Try.func11, Try.ntmps11
  go_wp2_with (first | (at_builtin; refine wpList_append_hb rfl (.tmp 11) (.tmp 12) 22 rfl (w.heap.size + 1) 5 Try.underlying22 i_u8 _ 0 (bcs []) rfl hmade _ _ _ b rfl hf ?qa ?qb ?_))
  case qa => omega
  case qb => simp
  intro v1 w1 hown1 hgrow1
  rw [← hV] at hgrow1
  rw [← sV1] at hown1
  have hb1 : Below V.heap.size V w1 := bV.grown hgrow1 (by simp) (by intro k hk; cases hk; show _ ≤ w.heap.size + 1; omega)
  have hown1' : w1.ownsRow V.heap.size 5 1 v1 b.length (bcs b) := by simpa [bcs] using hown1
  have hlt := hown1'.lt
  obtain ⟨p1, d1, rfl⟩ := owns_shape hown1'
  have hh := HB.of_owns hown1'
  have hty := fun a n c (e : Value.slice p1 b.length d1 = .slice (some a) n c) => TY.of_owns hown1' e
  have bW := (Below.refl w1.heap.size w1).alloc (Nat.le_refl _) (.cells #[.slice p1 b.length d1, .int .i64 0] 68)
  have x2 : XR (w1.alloc (.cells #[.slice p1 b.length d1, .int .i64 0] 68)) w1.heap.size b 0 := ⟨p1, d1, heap_alloc_new w1 _, hh.later bW, fun a n c e => ⟨by have := (hlt a.block (by rw [e]; rfl)).2; omega, (hty a n c e).later bW⟩⟩
  have bw1 : Below w.heap.size w w1 := bA.trans (hb1.mono bA.size)
  have a1 : AB w1 w.heap.size zeroA := gA.later hb1
  have bw2 : Below w.heap.size w _ := bw1.trans (bW.mono bw1.size)
  have a2 := a1.later bW
  have HU := xuint_all w1.heap.size b 0 2147483648 _ x2 (fun h => absurd rfl h) (by omega)
  rw [rdZ.1, hu] at HU
  simp only at HU
  have hule : ul.length ≤ b.length := by have := uintF_le b 2147483648; rw [hu] at this; exact this
  clear hu
  clear hgrow1 hown1 hown1' hh hty hmade hf bV hb1 hV
  go_wp2_with fail
  refine HU.mono ?_
  rintro x w2 ⟨rfl, hx2, ho2⟩
  have bw3 : Below w.heap.size w w2 := bw2.trans (ho2.below bw1.size)
  obtain ⟨cs0, f0, hg0⟩ := x2.typed
  have a3 : AB w2 w.heap.size zeroA := (TK.of_only ho2 hg0) _ _ _ _ a2 (by decide)
  have hne : w.heap.size ≠ w1.heap.size := by have := (Array.getElem?_eq_some_iff.1 a1).1; omega
  have hne2 := hne.symm
  have hle0 : w.heap.size ≤ w1.heap.size := bw1.size
  have HK := known_any 1 w2
  rw [show decide ((1 : Int) ≤ 10 ∧ 1 ≤ (1 : Int)) = true from rfl] at HK
  clear hg0 HU ho2 a2 x2 bw2 bW a1 bw1
  have bC := (Below.refl w2.heap.size w2).alloc (Nat.le_refl _) (.cells #[.int .i64 1, .slice none 0 0, .int .i64 0, .int .i64 0, .int .i64 0, .bool false, .int .i64 0, .int .i64 0, .int .i64 0, .slice none 0 0] 25)
  have a4 := a3.later bC
  have aC : AB (w2.alloc (.cells #[.int .i64 1, .slice none 0 0, .int .i64 0, .int .i64 0, .int .i64 0, .bool false, .int .i64 0, .int .i64 0, .int .i64 0, .slice none 0 0] 25)) w2.heap.size #[.int .i64 1, .slice none 0 0, .int .i64 0, .int .i64 0, .int .i64 0, .bool false, .int .i64 0, .int .i64 0, .int .i64 0, .slice none 0 0] := heap_alloc_new w2 _
  have hx4 := hx2.later bC
  have bw4 := bw3.trans (bC.mono bw3.size)
  have HGL : w1.heap.size < w2.heap.size := by obtain ⟨cs1, f1, h1⟩ := hx2.typed; exact (Array.getElem?_eq_some_iff.1 h1).1
  have k1 : w2.cell? ⟨w1.heap.size, 1, none⟩ = some (.int .i64 0) := hx2.xd
  obtain ⟨px, cx, hxd4, hxb4⟩ := hx4
  obtain ⟨W9, hW9⟩ : ∃ x, x = w2.alloc (.cells #[.int .i64 1, .slice none 0 0, .int .i64 0, .int .i64 0, .int .i64 0, .bool false, .int .i64 0, .int .i64 0, .int .i64 0, .slice none 0 0] 25) := ⟨_, rfl⟩
  have HW : Hid (W9 = w2.alloc (.cells #[.int .i64 1, .slice none 0 0, .int .i64 0, .int .i64 0, .int .i64 0, .bool false, .int .i64 0, .int .i64 0, .int .i64 0, .slice none 0 0] 25)) := hW9
  rw [← hW9] at bC a4 aC bw4 hxd4 hxb4
  have hsul : ul.length ≤ 140737488351232 := by omega
  have hS : W9.cell? ⟨w1.heap.size, 0, none⟩ = some (.slice px ul.length cx) := hxd4.cells.1
  have hSd : W9.drew.cell? ⟨w1.heap.size, 0, none⟩ = some (.slice px ul.length cx) := hxd4.cells.1
  have hBo := rbounds_any W9.drew
  rw [hW9] at hS hSd hBo
  have hCr := fun W hW => crreadK_any 0 0 24 48 0 0 0 0 (.slice px ul.length cx) ul W hW hsul
  have hW9s : w2.heap.size < W9.heap.size := (Array.getElem?_eq_some_iff.1 aC).1
  clear hx2 hule hsul
  have KB : Hid ((crS 24 48 ul).2.2 ≠ 0 → decK 1 ul = ((crS 24 48 ul).2.2, 0, AP0)) := decK1_bad
  have KR : Hid ((crS 24 48 ul).2.2 = 0 → (crS 24 48 ul).2.1 ≠ [] → decK 1 ul = (5, 0, AP0)) := decK1_rest
  have KO : Hid ((crS 24 48 ul).2.2 = 0 → (crS 24 48 ul).2.1 = [] → decK 1 ul = (0, 1, { AP0 with bs := (crS 24 48 ul).1 })) := decK1_ok
  clear hW9
  go_wp2_with fail
  refine HK.mono ?_
  rintro e w3 ⟨rfl, rfl⟩
  clear HK
  go_wp2
  go_region_held3 (fun w' => w'.cell? ⟨w1.heap.size, 0, none⟩ = some (.slice px ul.length cx)) (first | with_reducible exact hS | with_reducible exact hSd | with_reducible exact hS1 | with_reducible exact hS2) (first
    | (go_at_call 33; refine hBo.mono ?_; rintro e w4 ⟨rfl, hb4⟩; rw [← HW.out] at hb4; have hb4' := (Below.drew (Below.refl W9.heap.size W9)).trans hb4; have hxd5 := hxd4.later hb4'; have hxb5 := hxb4.later hb4'; have hS1 := hxd5.cells.1; have hC := hCr w4 hxb5.1)
    | (go_at_call 32; refine hC.mono ?_; rintro e w5 ⟨u, vr, rfl, hx5, hb5⟩; have hxd6 := hxd5.later hb5; have hS2 := hxd6.cells.1))
  have hb59 : Below W9.heap.size W9 w5 := hb4'.trans (hb5.mono hb4'.size)
  have b5 : Below w.heap.size w w5 := bw4.trans (hb59.mono bw4.size)
  have aC5 : AB w5 w3.heap.size #[.int .i64 1, .slice none 0 0, .int .i64 0, .int .i64 0, .int .i64 0, .bool false, .int .i64 0, .int .i64 0, .int .i64 0, .slice none 0 0] := aC.later hb59
  have a5 : AB w5 w.heap.size zeroA := a4.later hb59
  have hlz : w.heap.size < w3.heap.size := (Array.getElem?_eq_some_iff.1 a3).1
  have hgl : w1.heap.size < w3.heap.size := HGL
  clear hb4 hb4' hb5 hS hSd hS1 hS2 hC hBo hCr HW bC aC a4 hxb4 hxd4 hxb5 hxd5 hb59 bw3 bw4 a3 HGL k1 hW9s
  generalize (crS 24 48 ul).2.2 = er at *
  generalize (crS 24 48 ul).2.1 = rest at *
  generalize (crS 24 48 ul).1 = bs at *
  by_cases he : er = 0
  · subst he
    obtain ⟨g, br, hr⟩ := hx5 rfl
    clear hx5 KB
    obtain ⟨pr, cr, rfl⟩ := hr.1.shape
    obtain ⟨pu, cu, rfl⟩ := br.ba.shape
    have hr6 : HBN w5 w1.heap.size (.slice pr rest.length cr) rest := hr.swap hxd6 (by decide)
    have t6 : TK 25 w5 (w5.setCell ⟨w3.heap.size, 9, none⟩ (.slice pu bs.length cu)) := TK.of_only ((Only.refl w3.heap.size w5).setCell 9 _) aC5
    have hxd7 : XD (w5.setCell ⟨w3.heap.size, 9, none⟩ (.slice pu bs.length cu)) w1.heap.size (.slice px ul.length cx) 0 := t6 _ _ _ _ hxd6 (by decide)
    have t8 : TK 68 (w5.setCell ⟨w3.heap.size, 9, none⟩ (.slice pu bs.length cu)) ((w5.setCell ⟨w3.heap.size, 9, none⟩ (.slice pu bs.length cu)).setCell ⟨w1.heap.size, 0, none⟩ (.slice pr rest.length cr)) := TK.of_only ((Only.refl w1.heap.size _).setCell 0 _) hxd7
    have hx8 : XR ((w5.setCell ⟨w3.heap.size, 9, none⟩ (.slice pu bs.length cu)).setCell ⟨w1.heap.size, 0, none⟩ (.slice pr rest.length cr)) w1.heap.size rest 0 := ⟨pr, cr, hxd7.put0 _, (hr6.tk t6 (by decide)).only ((Only.refl w1.heap.size _).setCell 0 _)⟩
    have HE := xend_any w1.heap.size rest 0 _ hx8
    have aC7 : AB (w5.setCell ⟨w3.heap.size, 9, none⟩ (.slice pu bs.length cu)) w3.heap.size #[.int .i64 1, .slice none 0 0, .int .i64 0, .int .i64 0, .int .i64 0, .bool false, .int .i64 0, .int .i64 0, .int .i64 0, .slice pu bs.length cu] := aC5.set 9 _ _ rfl
    have aC8 : AB ((w5.setCell ⟨w3.heap.size, 9, none⟩ (.slice pu bs.length cu)).setCell ⟨w1.heap.size, 0, none⟩ (.slice pr rest.length cr)) w3.heap.size #[.int .i64 1, .slice none 0 0, .int .i64 0, .int .i64 0, .int .i64 0, .bool false, .int .i64 0, .int .i64 0, .int .i64 0, .slice pu bs.length cu] := t8 _ _ _ _ aC7 (by decide)
    have a8 : AB ((w5.setCell ⟨w3.heap.size, 9, none⟩ (.slice pu bs.length cu)).setCell ⟨w1.heap.size, 0, none⟩ (.slice pr rest.length cr)) w.heap.size zeroA := t8 _ _ _ _ (AB.other a5 _ _ (by show w.heap.size ≠ w3.heap.size; omega)) (by decide)
    have br8 := (br.tk t6 (by decide) (by decide)).tk t8 (by decide) (by decide)
    have b8 : Below w.heap.size w ((w5.setCell ⟨w3.heap.size, 9, none⟩ (.slice pu bs.length cu)).setCell ⟨w1.heap.size, 0, none⟩ (.slice pr rest.length cr)) := (b5.setCell (p := ⟨w3.heap.size, 9, none⟩) (by show w.heap.size ≤ w3.heap.size; omega) _).setCell (p := ⟨w1.heap.size, 0, none⟩) hle0 _
    have c9 : w5.cell? ⟨w3.heap.size, 9, none⟩ = some (.slice none 0 0) := aC5.cell rfl
    have f9 := aC5.free 9
    have c0 : (w5.setCell ⟨w3.heap.size, 9, none⟩ (.slice pu bs.length cu)).cell? ⟨w1.heap.size, 0, none⟩ = some (.slice px ul.length cx) := hxd7.cells.1
    have g0 : (w5.setCell ⟨w3.heap.size, 9, none⟩ (.slice pu bs.length cu)).frozen? ⟨w1.heap.size, 0, none⟩ = false := hxd7.free 0
    clear hr br hr6 t6 t8 hxd6 hxd7 hx8 aC7 aC5 a5 b5
    go_wp2_with fail
    refine HE.mono ?_
    rintro x w6 ⟨rfl, nd, hw6⟩
    have a6 : AB w6 w.heap.size zeroA := by rw [hw6]; exact a8.later (below_drewN (Below.refl _ _) nd)
    have aD6 : AB w6 w3.heap.size #[.int .i64 1, .slice none 0 0, .int .i64 0, .int .i64 0, .int .i64 0, .bool false, .int .i64 0, .int .i64 0, .int .i64 0, .slice pu bs.length cu] := by rw [hw6]; exact aC8.later (below_drewN (Below.refl _ _) nd)
    have br6 : RBx w6 w4.heap.size g (.slice pu bs.length cu) bs := by rw [hw6]; exact br8.tk (TK.of_below (T := 25) (below_drewN (Below.refl _ _) nd)) (by decide) (by decide)
    have b6 : Below w.heap.size w w6 := by rw [hw6]; exact below_drewN b8 nd
    clear hw6 HE aC8 a8 br8 b8 c9 f9 c0 g0
    obtain ⟨x0, x1, x2, x3, x4, x5, x6, x7, x8, x9⟩ := ask_cells a6
    obtain ⟨y0, y1, y2, y3, y4, y5, y6, y7, y8, y9⟩ := ask_cells aD6
    have fz := fun i => a6.free i
    by_cases hl : rest = []
    · have hE0 : endF rest.length 0 = 0 := by rw [hl]; rfl
      have KO2 : Hid (D = (0, 1, { AP0 with bs := bs })) := hD.out.trans (KO.out trivial hl)
      rw [hE0]
      clear KO KR hD hE0 hl
      go_wp2
      refine bodyPost_ret (v := .tuple #[.agg #[.int .i64 1, .slice none 0 0, .int .i64 0, .int .i64 0, .int .i64 0, .bool false, .int .i64 0, .int .i64 0, .int .i64 0, .slice pu bs.length cu], .int .i64 0]) ?_ rfl ?_
      · simp only [results, Try.results11]
        go_simp
      · rw [KO2.out]
        exact ⟨filledB _ _ _ _ _ _ _ _ _ _ b6 (Nat.le_refl _), fun _ => ⟨_, _, rfl, HB.nil _, (br6.tk (filledT _ _ _ _ _ _ _ _ _ _ a6) (by decide) (by decide)).ba⟩, fun h => absurd rfl h⟩
    · have hE5 : endF rest.length 0 = 5 := if_pos ⟨rfl, List.length_pos_iff.2 hl⟩
      have KR2 : Hid (D = (5, 0, AP0)) := hD.out.trans (KR.out trivial hl)
      rw [hE5]
      clear KO KR hD hE5 hl y0 y1 y2 y3 y4 y5 y6 y7 y8 y9
      go_wp2
      refine bodyPost_ret (v := .tuple #[.agg #[.int .i64 0, .slice none 0 0, .int .i64 0, .int .i64 0, .int .i64 0, .bool false, .int .i64 0, .int .i64 0, .int .i64 0, .slice none 0 0], .int .i64 5]) ?_ rfl ?_
      · simp only [results, Try.results11]
        go_simp
      · rw [KR2.out]
        exact ⟨filledB _ _ _ _ _ _ _ _ _ _ b6 (Nat.le_refl _), fun h => absurd h (by decide), fun _ => rfl⟩
  · have KB2 : Hid (D = (er, 0, AP0)) := hD.out.trans (KB.out he)
    have hne : (er != 0) = true := by simpa using he
    clear KB KR KO hD hx5 hxd6
    obtain ⟨x0, x1, x2, x3, x4, x5, x6, x7, x8, x9⟩ := ask_cells a5
    have fz := fun i => a5.free i
    go_wp2
    refine bodyPost_ret (v := .tuple #[.agg #[.int .i64 0, .slice none 0 0, .int .i64 0, .int .i64 0, .int .i64 0, .bool false, .int .i64 0, .int .i64 0, .int .i64 0, .slice none 0 0], .int .i64 er]) ?_ rfl ?_
    · simp only [results, Try.results11]
      go_simp
    · rw [KB2.out]
      exact ⟨filledB _ _ _ _ _ _ _ _ _ _ b5 (Nat.le_refl _), fun h => absurd h he, fun _ => rfl⟩

end Go.Proofs.Ythkgbgkijdeaoaa

namespace Go.Proofs.Ythkgbgkijdeaoaa
open Go.RowKit

theorem endF_bad {n : Nat} {e : Int} (h : e ≠ 0) : endF n e = e := if_neg fun k => h k.1
theorem endF_rest {n : Nat} (h : 0 < n) : endF n 0 = 5 := if_pos ⟨rfl, h⟩

theorem decB_nobatch (k : Nat) (l : List UInt8) (h : k ≠ 1) : (decB k l).2.2.bs = [] := by
  unfold decB
  rw [if_neg h]
  split; · rfl
  split; · rfl
  split; · rfl
  split; · rfl
  split
  · unfold dec6
    split <;> rfl
  split; · rfl
  split; · rfl
  split <;> rfl

theorem rdecode_any (v : Value) (b : List UInt8) (w : World) (hv : HB w v b) (hsz : b.length ≤ 140737488351232) :
    Calls Try.prog 11 #[v] w (DecTold (decF b) w) := by
  obtain ⟨ue, un, ul, hu⟩ : ∃ ue un ul, uintF b 2147483648 = (ue, un, ul) := ⟨_, _, _, rfl⟩
  by_cases h0 : ue = 0
  · subst h0
    have eF : decF b = decK un ul := by unfold decF; rw [hu]; exact if_pos rfl
    rw [eF]
    by_cases hk : un ≤ 10 ∧ 1 ≤ un
    · by_cases h1 : un = 1
      · exact rdec_batch v b w hv hsz un ul hu h1 (decK un ul) (by rw [h1]; exact rfl)
      · by_cases hz : (decB un ul).1 = 0
        · by_cases hl : (decB un ul).2.1 = []
          · have e : decK un ul = (0, un, (decB un ul).2.2) := (if_pos hz).trans (if_pos hl)
            rw [e]
            refine (rdec_fields_good v b w hv hsz un ul hu (by omega) hz hl (decB un ul).2.2 rfl).mono ?_
            rintro x w' ⟨idv, rfl, hi, hb⟩
            refine ⟨hb, fun _ => ⟨idv, _, rfl, hi, ?_⟩, fun h => absurd rfl h⟩
            show BA w' _ (decB un ul).2.2.bs
            rw [decB_nobatch un ul (by omega)]
            exact BA.nil _
          · have e : decK un ul = (5, 0, AP0) := (if_pos hz).trans (if_neg hl)
            rw [e]
            have h5 : ∀ rest : List UInt8, rest = (decB un ul).2.1 → endF rest.length (decB un ul).1 = 5 := by
              intro rest hr
              rw [hz]
              refine endF_rest ?_
              rw [hr]
              exact List.length_pos_iff.2 hl
            refine (rdec_fields_bad v b w hv hsz un ul hu (by omega) ?_).mono ?_
            · intro rest ap hr
              have hr := congrArg Prod.fst (hr hz)
              rw [h5 rest hr]
              decide
            · rintro x w' ⟨ee, _, ⟨rest, ap, hr, he⟩, rfl, hb⟩
              have hr := congrArg Prod.fst (hr hz)
              obtain rfl : ee = 5 := by rw [he, h5 rest hr]
              exact ⟨hb, fun h => absurd h (by decide), fun _ => rfl⟩
        · have e : decK un ul = ((decB un ul).1, 0, AP0) := if_neg hz
          rw [e]
          refine (rdec_fields_bad v b w hv hsz un ul hu (by omega) ?_).mono ?_
          · intro rest ap _
            rw [endF_bad hz]
            exact hz
          · rintro x w' ⟨ee, _, ⟨rest, ap, _, he⟩, rfl, hb⟩
            obtain rfl : ee = (decB un ul).1 := by rw [he, endF_bad hz]
            exact ⟨hb, fun h => absurd h hz, fun _ => rfl⟩
    · have e : decK un ul = (87, 0, AP0) := by
        unfold decK
        rw [decB_out un ul hk]
        exact if_neg (show ¬ (87 : Int) = 0 by decide)
      rw [e]
      refine (rdec_unknown v b w hv hsz un ul hu (by omega)).mono ?_
      rintro x w' ⟨rfl, hb⟩
      exact ⟨hb, fun h => absurd h (by decide), fun _ => rfl⟩
  · have eF : decF b = (ue, 0, AP0) := by unfold decF; rw [hu]; exact if_neg h0
    rw [eF]
    refine (rdec_bad v b w hv hsz ue un ul hu h0).mono ?_
    rintro x w' ⟨rfl, hb⟩
    exact ⟨hb, fun h => absurd h h0, fun _ => rfl⟩

end Go.Proofs.Ythkgbgkijdeaoaa
