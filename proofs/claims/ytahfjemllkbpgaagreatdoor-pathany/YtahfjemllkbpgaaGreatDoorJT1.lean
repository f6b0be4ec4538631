/- What this text proves: the walks of annalslaw17.tree at one identity that is put in, of parts.Of at a leaf, of path.Prove where the root is a leaf, and of annalslaw17.awake, over this program. What this text proves: the walks of parts.Of at a leaf, of path.Prove where the root is a leaf, and of annalslaw17.awake, over this program. (By program: mkpaawake.py.) What this text proves: the walk of annalslaw17.awake over this program: it answers true. -/
import Derived.Test.YtahfjemllkbpgaaGreatDoorJPaTexts
import Derived.Test.YtahfjemllkbpgaaGreatDoorJA3
import Derived.Test.YtahfjemllkbpgaaGreatDoorJA4
import Derived.Test.YtahfjemllkbpgaaGreatDoorJA5
import Derived.Test.YtahfjemllkbpgaaGreatDoorRegHeld
import Derived.Lib.SlBytesConst
namespace Go.Proofs.YtahfjemllkbpgaaGreatDoor
open Go.RowKit

theorem owns_only {w w' : World} {base n s : Nat} {e t : TypeId} {v : Value} {xs : List Value} {x : Nat} {cs : Array Value} {fr : Nat × Nat} (h : w.ownsRow base e s v n xs) (hx : w.heap[x]? = some (.cells cs t fr)) (hne : e ≠ t) (ho : Only x w w') : w'.ownsRow base e s v n xs := by
  obtain ⟨h1, h2⟩ := h
  refine ⟨h1, ?_⟩
  rcases h2 with ⟨rfl, h0⟩ | ⟨g, cap, cur, rfl, hb, hg, hl, hm, hs, ht⟩
  · exact Or.inl ⟨rfl, h0⟩
  · have hgx : g ≠ x := by
      rintro rfl
      rw [hx] at hg
      simp only [Option.some.injEq, Obj.cells.injEq] at hg
      exact hne hg.2.1.symm
    have e := ho.block g hgx (Array.getElem?_eq_some_iff.1 hg).1
    exact Or.inr ⟨g, cap, cur, rfl, hb, e.trans hg, hl, hm, hs, ht⟩

theorem TB.only {w w' : World} {v : Value} {x : Nat} {cs : Array Value} {t : TypeId} {fr : Nat × Nat} (h : TB w v) (hx : w.heap[x]? = some (.cells cs t fr)) (hne : t ≠ 5) (ho : Only x w w') : TB w' v := by
  intro b o n c e
  obtain ⟨cur, fr', hc⟩ := h b o n c e
  have hbx : b ≠ x := by
    rintro rfl
    rw [hx] at hc
    simp only [Option.some.injEq, Obj.cells.injEq] at hc
    exact hne hc.2.1
  exact ⟨cur, fr', (ho.block b hbx (Array.getElem?_eq_some_iff.1 hc).1).trans hc⟩

theorem NB.only17 {w w' : World} {b : Nat} {n : NodeS} {x : Nat} {cs : Array Value} {t : TypeId} {fr : Nat × Nat} (h : NB w b n) (hx : w.heap[x]? = some (.cells cs t fr)) (hne : t ≠ 5) (hnn : t ≠ 75) (ho : Only x w w') : NB w' b n := by
  have hl := h.lt
  obtain ⟨vi, vk, vp, vh, h0, h1, h2, h3, h4⟩ := h
  have hbx : b ≠ x := by
    rintro rfl
    rw [hx] at h0
    simp only [Option.some.injEq, Obj.cells.injEq] at h0
    exact hnn h0.2.1
  have hh : ∀ v l, HT w v l → HT w' v l := fun v l q => ⟨q.1.aside q.2 hx hne ho, q.2.only hx hne ho⟩
  exact ⟨vi, vk, vp, vh, (ho.block b hbx hl).trans h0, hh _ _ h1, hh _ _ h2, hh _ _ h3, hh _ _ h4⟩

set_option maxRecDepth 100000 in
set_option maxHeartbeats 4000000 in
theorem tree1_any (b o : Nat) (since : Int) (vi : Value) (w : World) (h0 : 0 ≤ since) (h1 : since ≤ 255) (hc0 : w.cell? ⟨b, o, none⟩ = some vi) (hc1 : w.cell? ⟨b, o + 1, none⟩ = some (.slice none 0 0)) (hc2 : w.cell? ⟨b, o + 2, none⟩ = some (.int .i64 since)) (hi : HB w vi [97]) (hT : Tabs w) :
    Calls Tryz.prog 16 #[.slice (some ⟨b, o, none⟩) 1 1] w fun e w' => ∃ x p' c' nb, e = .returned (.tuple #[.pointer (some ⟨w.heap.size, 0, none⟩), .pointer (some ⟨x, 0, none⟩), .int .i64 0, .bool true]) ∧ AG w' w.heap.size 4 16384 p' 1 c' ∧ w'.ownsRow w.heap.size 119 1 (.slice p' 1 c') 1 [.pointer (some ⟨nb, 0, none⟩)] ∧ NB w' nb (leafS 4 [97] [] since) ∧ Below w.heap.size w w' := by
  obtain ⟨pi, ci, rfl⟩ := hi.shape
  have hN := anew_ok 4 16384 w (by decide) (by decide) (by decide) (by decide)
  have hRN := fun W => ranew_ok 4 16384 W (by decide) (by decide) (by decide) (by decide)
  have hlen := hi.len
  have hu : IntKind.u64.wrap since = since := by rw [IntKind.wrap_u64]; omega
  have hm : since.tmod 256 = since := by rw [Int.tmod_eq_emod_of_nonneg h0]; omega
  have hw : IntKind.i64.wrap since = since := by rw [IntKind.wrap_i64]; omega
  have hu2 : IntKind.u64.wrap (since.tmod 256) = since := by rw [hm, hu]
  go_enter Tryz.func16, Tryz.ntmps16
  go_wp2_with fail
  refine hN.mono ?_
  rintro e w1 ⟨rfl, a1, hb1⟩
  go_wp2_with fail
  refine (hRN _).mono ?_
  rintro e w2 ⟨rfl, x2, hb2⟩
  have a2 := a1.later hb2
  have hb02 := hb1.trans (hb2.mono hb1.size)
  have hlt1 := a1.lt
  have k0 := cell_later hb02 hc0
  have k1 := cell_later hb02 hc1
  have k2 := cell_later hb02 hc2
  have ki := hi.later hb02
  have kT := hT.later hb02
  have hlt2 := x2.lt
  clear hN hRN hb1 hb2 a1 hc0 hc1 hc2 hT
  have hgx : w.heap.size < w1.heap.size := hlt1
  generalize w1.heap.size = X at *
  clear hlt1
  go_wp2
  go_loopw [10, 11, 37] (fun r s i wr => (r = .int .i64 (-1) ∧ s = .bool true ∧ i = .int .i64 0 ∧ wr = w2) ∨ (r = .int .i64 0 ∧ s = .bool true ∧ i = .int .i64 1 ∧ ∃ p' c' nb, AG wr w.heap.size 4 16384 p' 1 c' ∧ wr.ownsRow w.heap.size 119 1 (.slice p' 1 c') 1 [.pointer (some ⟨nb, 0, none⟩)] ∧ NB wr nb (leafS 4 [97] [] since) ∧ Below w.heap.size w wr)) (fun _ _ i _ => 1 - (intOf i).toNat)
  case atStart => exact Or.inl ⟨rfl, rfl, rfl, rfl⟩
  case round =>
    rcases hrel with ⟨rfl, rfl, rfl, hwr⟩ | ⟨rfl, rfl, rfl, p', c', nb, q1, q2, q3, q4⟩
    · subst hwr
      have bU : Below wr.heap.size wr (wr.alloc (.cells #[.slice pi 1 ci, .slice none 0 0, .int .i64 since] 48)) := (Below.refl _ wr).alloc (Nat.le_refl _) _
      have gU := heap_alloc_new wr (.cells #[.slice pi 1 ci, .slice none 0 0, .int .i64 since] 48)
      obtain ⟨U, hU⟩ : ∃ U, wr.alloc (.cells #[.slice pi 1 ci, .slice none 0 0, .int .i64 since] 48) = U := ⟨_, rfl⟩
      rw [hU] at bU gU
      have u0 : U.cell? ⟨wr.heap.size, 0, none⟩ = some (.slice pi 1 ci) := by rw [cell_of_row _ _ _ _ _ _ gU]; rfl
      have u1 : U.cell? ⟨wr.heap.size, 1, none⟩ = some (.slice none 0 0) := by rw [cell_of_row _ _ _ _ _ _ gU]; rfl
      have u2 : U.cell? ⟨wr.heap.size, 2, none⟩ = some (.int .i64 since) := by rw [cell_of_row _ _ _ _ _ _ gU]; rfl
      have b0U := hb02.trans (bU.mono hb02.size)
      have aU := a2.later bU
      have xU := x2.later bU
      have kU := (ki.later bU)
      have TU := kT.later bU
      clear a2 x2 ki kT gU
      have hc1 : 1 ≤ ci := hlen.2.1
      have e1 : min (1 : Int) 24 = 1 := by omega
      have e2 : min (0 : Int) 48 = 0 := by omega
      have z1 := fun w => run_upto (P := Tryz.prog) Tryz.underlying22 s_u8 pi 1 ci 1 (1 : Int) rfl hc1 w
      have z2 := fun w => run_upto (P := Tryz.prog) Tryz.underlying22 s_u8 none 0 0 0 (0 : Int) rfl (Nat.le_refl _) w
      go_wp2
      have hHeld : U.drew.cell? ⟨wr.heap.size, 0, none⟩ = some (.slice pi 1 ci) ∧ U.drew.cell? ⟨wr.heap.size, 1, none⟩ = some (.slice none 0 0) ∧ U.drew.cell? ⟨wr.heap.size, 2, none⟩ = some (.int .i64 since) := ⟨u0, u1, u2⟩
      refine wp_region_heldN (by kernel_rfl) (fun W => W.cell? ⟨wr.heap.size, 0, none⟩ = some (.slice pi 1 ci) ∧ W.cell? ⟨wr.heap.size, 1, none⟩ = some (.slice none 0 0) ∧ W.cell? ⟨wr.heap.size, 2, none⟩ = some (.int .i64 since)) 22 rfl ?_
      refine tkY 0 ⟨some 44, .fieldAddr 48 (.tmp 13) 0, 0, "law.go:33", #[], none⟩ ?v0z1 hHeld ?y0z1 ?r0z1
      case y0z1 => (intro w hSw; (try dsimp only at hSw); go_simp) <;> with_reducible rfl
      try simp only [Act.put, List.setIfInBounds_toArray, List.set_cons_zero, List.set_cons_succ]
      refine tkY 1 ⟨some 45, .load 22 (.tmp 44), 22, "law.go:33", #[⟨0, .data⟩], none⟩ ?v1z2 hHeld ?y1z2 ?r1z2
      case y1z2 => (intro w hSw; (try dsimp only at hSw); go_simp) <;> with_reducible rfl
      try simp only [Act.put, List.setIfInBounds_toArray, List.set_cons_zero, List.set_cons_succ]
      refine tkY 2 ⟨some 46, .fieldAddr 48 (.tmp 13) 0, 0, "law.go:33", #[], none⟩ ?v2z3 hHeld ?y2z3 ?r2z3
      case y2z3 => (intro w hSw; (try dsimp only at hSw); go_simp) <;> with_reducible rfl
      try simp only [Act.put, List.setIfInBounds_toArray, List.set_cons_zero, List.set_cons_succ]
      refine tkY 3 ⟨some 47, .load 22 (.tmp 46), 22, "law.go:33", #[⟨2, .data⟩], none⟩ ?v3z4 hHeld ?y3z4 ?r3z4
      case y3z4 => (intro w hSw; (try dsimp only at hSw); go_simp) <;> with_reducible rfl
      try simp only [Act.put, List.setIfInBounds_toArray, List.set_cons_zero, List.set_cons_succ]
      refine tkY 4 ⟨some 48, .call { callee := .builtin .len, args := #[.tmp 47], argTypes := #[22] }, 3, "law.go:33", #[⟨3, .data⟩], none⟩ ?v4z5 hHeld ?y4z5 ?r4z5
      case y4z5 => (intro w hSw; (try dsimp only at hSw); go_simp) <;> with_reducible rfl
      try simp only [Act.put, List.setIfInBounds_toArray, List.set_cons_zero, List.set_cons_succ]
      refine tkY 5 ⟨some 49, .call { callee := .builtin .min, args := #[.tmp 48, .const (.int .i64 24)], argTypes := #[3, 3] }, 3, "law.go:33", #[⟨4, .data⟩], none⟩ ?v5z6 hHeld ?y5z6 ?r5z6
      case y5z6 => (intro w hSw; (try dsimp only at hSw); go_simp) <;> with_reducible rfl
      try simp only [Act.put, List.setIfInBounds_toArray, List.set_cons_zero, List.set_cons_succ]
      refine tkY 6 ⟨some 50, .slice 22 (.tmp 45) none (some (.tmp 49)) none, 22, "law.go:33", #[⟨1, .data⟩, ⟨5, .data⟩], none⟩ ?v6z7 hHeld ?y6z7 ?r6z7
      case y6z7 => (intro w hSw; (try dsimp only at hSw); go_simp) <;> with_reducible rfl
      try simp only [Act.put, List.setIfInBounds_toArray, List.set_cons_zero, List.set_cons_succ]
      refine tkY 7 ⟨some 51, .fieldAddr 48 (.tmp 13) 1, 0, "law.go:33", #[], none⟩ ?v7z8 hHeld ?y7z8 ?r7z8
      case y7z8 => (intro w hSw; (try dsimp only at hSw); go_simp) <;> with_reducible rfl
      try simp only [Act.put, List.setIfInBounds_toArray, List.set_cons_zero, List.set_cons_succ]
      refine tkY 8 ⟨some 52, .load 22 (.tmp 51), 22, "law.go:33", #[⟨7, .data⟩], none⟩ ?v8z9 hHeld ?y8z9 ?r8z9
      case y8z9 => (intro w hSw; (try dsimp only at hSw); go_simp) <;> with_reducible rfl
      try simp only [Act.put, List.setIfInBounds_toArray, List.set_cons_zero, List.set_cons_succ]
      refine tkY 9 ⟨some 53, .fieldAddr 48 (.tmp 13) 1, 0, "law.go:33", #[], none⟩ ?v9z10 hHeld ?y9z10 ?r9z10
      case y9z10 => (intro w hSw; (try dsimp only at hSw); go_simp) <;> with_reducible rfl
      try simp only [Act.put, List.setIfInBounds_toArray, List.set_cons_zero, List.set_cons_succ]
      refine tkY 10 ⟨some 54, .load 22 (.tmp 53), 22, "law.go:33", #[⟨9, .data⟩], none⟩ ?v10z11 hHeld ?y10z11 ?r10z11
      case y10z11 => (intro w hSw; (try dsimp only at hSw); go_simp) <;> with_reducible rfl
      try simp only [Act.put, List.setIfInBounds_toArray, List.set_cons_zero, List.set_cons_succ]
      refine tkY 11 ⟨some 55, .call { callee := .builtin .len, args := #[.tmp 54], argTypes := #[22] }, 3, "law.go:33", #[⟨10, .data⟩], none⟩ ?v11z12 hHeld ?y11z12 ?r11z12
      case y11z12 => (intro w hSw; (try dsimp only at hSw); go_simp) <;> with_reducible rfl
      try simp only [Act.put, List.setIfInBounds_toArray, List.set_cons_zero, List.set_cons_succ]
      refine tkY 12 ⟨some 56, .call { callee := .builtin .min, args := #[.tmp 55, .const (.int .i64 48)], argTypes := #[3, 3] }, 3, "law.go:33", #[⟨11, .data⟩], none⟩ ?v12z13 hHeld ?y12z13 ?r12z13
      case y12z13 => (intro w hSw; (try dsimp only at hSw); go_simp) <;> with_reducible rfl
      try simp only [Act.put, List.setIfInBounds_toArray, List.set_cons_zero, List.set_cons_succ]
      refine tkY 13 ⟨some 57, .slice 22 (.tmp 52) none (some (.tmp 56)) none, 22, "law.go:33", #[⟨8, .data⟩, ⟨12, .data⟩], none⟩ ?v13z14 hHeld ?y13z14 ?r13z14
      case y13z14 => (intro w hSw; (try dsimp only at hSw); go_simp) <;> with_reducible rfl
      try simp only [Act.put, List.setIfInBounds_toArray, List.set_cons_zero, List.set_cons_succ]
      refine tkY 14 ⟨some 58, .fieldAddr 48 (.tmp 13) 2, 0, "law.go:33", #[{ on := 20, ground := .gcOnly .lateStores }], none⟩ ?v14z15 hHeld ?y14z15 ?r14z15
      case y14z15 => (intro w hSw; (try dsimp only at hSw); go_simp) <;> with_reducible rfl
      try simp only [Act.put, List.setIfInBounds_toArray, List.set_cons_zero, List.set_cons_succ]
      refine tkY 15 ⟨some 59, .load 3 (.tmp 58), 3, "law.go:33", #[⟨14, .data⟩, { on := 20, ground := .gcOnly .lateStores }], none⟩ ?v15z16 hHeld ?y15z16 ?r15z16
      case y15z16 => (intro w hSw; (try dsimp only at hSw); go_simp) <;> with_reducible rfl
      try simp only [Act.put, List.setIfInBounds_toArray, List.set_cons_zero, List.set_cons_succ]
      refine tkY 16 ⟨some 60, .convert 3 70 (.tmp 59), 70, "law.go:33", #[⟨15, .data⟩, { on := 20, ground := .gcOnly .lateStores }], none⟩ ?v16z17 hHeld ?y16z17 ?r16z17
      case y16z17 => (intro w hSw; (try dsimp only at hSw); go_simp) <;> with_reducible rfl
      try simp only [Act.put, List.setIfInBounds_toArray, List.set_cons_zero, List.set_cons_succ]
      refine tkY 17 ⟨some 61, .binOp .rem 70 (.tmp 60) (.const (.int .u64 256)) 70, 70, "law.go:33", #[⟨16, .data⟩, { on := 20, ground := .gcOnly .lateStores }], none⟩ ?v17z18 hHeld ?y17z18 ?r17z18
      case y17z18 => (intro w hSw; (try dsimp only at hSw); go_simp) <;> with_reducible rfl
      try simp only [Act.put, List.setIfInBounds_toArray, List.set_cons_zero, List.set_cons_succ]
      refine tkY 18 ⟨some 62, .convert 70 3 (.tmp 61), 3, "law.go:33", #[⟨17, .data⟩, { on := 20, ground := .gcOnly .lateStores }], none⟩ ?v18z19 hHeld ?y18z19 ?r18z19
      case y18z19 => (intro w hSw; (try dsimp only at hSw); go_simp) <;> with_reducible rfl
      try simp only [Act.put, List.setIfInBounds_toArray, List.set_cons_zero, List.set_cons_succ]
      refine tkY 19 ⟨some 14, .assign (.tmp 50), 22, "law.go:33", #[⟨6, .data⟩, ⟨0, .phase⟩, ⟨1, .phase⟩, ⟨2, .phase⟩, ⟨3, .phase⟩, ⟨4, .phase⟩, ⟨5, .phase⟩, ⟨6, .phase⟩, { on := 7, ground := .textOnly .lateStores }, { on := 8, ground := .textOnly .lateStores }, { on := 9, ground := .textOnly .lateStores }, { on := 10, ground := .textOnly .lateStores }, { on := 11, ground := .textOnly .lateStoresUnsure }, { on := 12, ground := .textOnly .lateStoresUnsure }, { on := 13, ground := .textOnly .lateStoresUnsure }, { on := 14, ground := .textOnly .lateStores }, { on := 15, ground := .textOnly .lateStores }, { on := 16, ground := .textOnly .lateStores }, { on := 17, ground := .textOnly .lateStores }, { on := 18, ground := .textOnly .lateStores }], none⟩ ?v19z20 hHeld ?y19z20 ?r19z20
      case y19z20 => (intro w hSw; (try dsimp only at hSw); go_simp) <;> with_reducible rfl
      try simp only [Act.put, List.setIfInBounds_toArray, List.set_cons_zero, List.set_cons_succ]
      refine tkY 20 ⟨some 15, .assign (.tmp 57), 22, "law.go:33", #[⟨13, .data⟩, ⟨19, .chain⟩, ⟨0, .phase⟩, ⟨1, .phase⟩, ⟨2, .phase⟩, ⟨3, .phase⟩, ⟨4, .phase⟩, ⟨5, .phase⟩, ⟨6, .phase⟩, ⟨7, .phase⟩, ⟨8, .phase⟩, ⟨9, .phase⟩, ⟨10, .phase⟩, ⟨11, .phase⟩, ⟨12, .phase⟩, ⟨13, .phase⟩, { on := 14, ground := .textOnly .lateStores }, { on := 15, ground := .textOnly .lateStores }, { on := 16, ground := .textOnly .lateStores }, { on := 17, ground := .textOnly .lateStores }, { on := 18, ground := .textOnly .lateStores }, ⟨19, .phase⟩], none⟩ ?v20z21 hHeld ?y20z21 ?r20z21
      case y20z21 => (intro w hSw; (try dsimp only at hSw); go_simp) <;> with_reducible rfl
      try simp only [Act.put, List.setIfInBounds_toArray, List.set_cons_zero, List.set_cons_succ]
      refine tkY 21 ⟨some 16, .assign (.tmp 62), 3, "law.go:33", #[⟨18, .data⟩, ⟨20, .chain⟩, ⟨0, .phase⟩, ⟨1, .phase⟩, ⟨2, .phase⟩, ⟨3, .phase⟩, ⟨4, .phase⟩, ⟨5, .phase⟩, ⟨6, .phase⟩, ⟨7, .phase⟩, ⟨8, .phase⟩, ⟨9, .phase⟩, ⟨10, .phase⟩, ⟨11, .phase⟩, ⟨12, .phase⟩, ⟨13, .phase⟩, ⟨14, .phase⟩, ⟨15, .phase⟩, ⟨16, .phase⟩, ⟨17, .phase⟩, ⟨18, .phase⟩, ⟨19, .phase⟩, ⟨20, .phase⟩], none⟩ ?v21z22 hHeld ?y21z22 ?r21z22
      case y21z22 => (intro w hSw; (try dsimp only at hSw); go_simp) <;> with_reducible rfl
      try simp only [Act.put, List.setIfInBounds_toArray, List.set_cons_zero, List.set_cons_succ]
      refine wpAnyH_done (by kernel_rfl) ?_ _
      clear z1 z2 u0 u1 u2 e1 e2 hHeld
      have bD : Below U.heap.size U U.drew := (Below.refl _ U).drew
      have b0D := b0U.trans (bD.mono b0U.size)
      have hIN := insert_first w.heap.size w.heap.size 4 16384 since (.slice pi 1 ci) (.slice none 0 0) [97] [] U.drew (aU.later bD) b0D.size (by decide) (by decide) (by decide) (kU.later bD) (HB.nil _) (TU.later bD) (by decide) (by decide) h0
      have xD := xU.later bD
      have kD := kU.later bD
      go_wp2_with fail
      refine hIN.mono ?_
      rintro e w5 ⟨p5, c5, nb, rfl, a5, o5, n5, _, on5⟩
      have x5 : XG w5 X 4 16384 none 0 0 := (on5.block X (by omega) xD.lt).trans xD
      have b5 := b0D.trans (on5.below (Nat.le_refl _))
      have k5 : HB w5 (.slice pi 1 ci) [97] := hi.later b5
      have hRI := rinsert_first X 4 16384 since (.slice pi 1 ci) (.slice none 0 0) [97] [] w5 x5 (by decide) (by decide) k5 (HB.nil _) (by decide) (by decide) h0
      go_wp2_with fail
      refine hRI.mono ?_
      rintro e w6 ⟨q6, c6, rfl, x6, _, on6⟩
      have a6 : AG w6 w.heap.size 4 16384 p5 1 c5 := (on6.block w.heap.size (by omega) a5.lt).trans a5
      have o6 := owns_only o5 x5 (by decide) on6
      have n6 := n5.only17 x5 (by decide) (by decide) on6
      have b6 : Below w.heap.size w w6 := b5.trans (on6.below (by omega))
      clear hIN hRI x5 k5 xD kD aU xU kU TU bU b0U bD b0D on5 on6 a5 o5 n5 b5 x6
      go_wp2
      go_roundw
      case rel => first | exact Or.inr ⟨rfl, rfl, rfl, p5, c5, nb, a6, o6, n6, b6⟩ | ((repeat apply Exists.intro); exact ⟨Or.inr ⟨rfl, rfl, rfl, p5, c5, nb, a6, o6, n6, b6⟩, rfl⟩)
      case measure => simp [intOf]
    · go_wp2
      refine bodyPost_ret (v := .tuple #[.pointer (some ⟨w.heap.size, 0, none⟩), .pointer (some ⟨X, 0, none⟩), .int .i64 0, .bool true]) ?_ rfl ?_
      · simp only [results, Tryz.results16]
        go_simp
      exact ⟨X, p', c', nb, rfl, q1, q2, q3, q4⟩

end Go.Proofs.YtahfjemllkbpgaaGreatDoor

namespace Go.Proofs.YtahfjemllkbpgaaGreatDoor
open Go.RowKit

theorem frz10 {W : World} {g : Nat} {cs : Array Value} {t : TypeId} (h : W.heap[g]? = some (.cells cs t (0, 0))) : W.frozen? ⟨g, 0, none⟩ = false ∧ W.frozen? ⟨g, 1, none⟩ = false ∧ W.frozen? ⟨g, 2, none⟩ = false ∧ W.frozen? ⟨g, 3, none⟩ = false ∧ W.frozen? ⟨g, 4, none⟩ = false ∧ W.frozen? ⟨g, 5, none⟩ = false ∧ W.frozen? ⟨g, 6, none⟩ = false ∧ W.frozen? ⟨g, 7, none⟩ = false ∧ W.frozen? ⟨g, 8, none⟩ = false ∧ W.frozen? ⟨g, 9, none⟩ = false ∧ W.frozen? ⟨g, 10, none⟩ = false :=
  ⟨frozen_of_row _ _ _ _ _ h, frozen_of_row _ _ _ _ _ h, frozen_of_row _ _ _ _ _ h, frozen_of_row _ _ _ _ _ h, frozen_of_row _ _ _ _ _ h, frozen_of_row _ _ _ _ _ h, frozen_of_row _ _ _ _ _ h, frozen_of_row _ _ _ _ _ h, frozen_of_row _ _ _ _ _ h, frozen_of_row _ _ _ _ _ h, frozen_of_row _ _ _ _ _ h⟩

set_option maxRecDepth 100000 in
set_option maxHeartbeats 8000000 in
theorem ofLeaf_any (va : Value) (pi pk pp ph : Option Addr) (a b f g ci ck cp ch : Nat) (si dd nn ll rr : Int) (w : World) :
    Calls Tryz.prog 42 #[va, .agg #[.bool true, .slice pi a ci, .slice pk b ck, .int .i64 si, .int .i64 dd, .slice pp f cp, .int .i64 nn, .int .i64 ll, .int .i64 rr, .slice ph g ch]] w fun e w' => e = .returned (.agg #[.int .i64 1, .slice pi a ci, .slice pk b ck, .int .i64 si, .int .i64 0, .slice none 0 0, .int .i64 0, .slice none 0 0, .slice none 0 0, .slice none 0 0]) ∧ Below w.heap.size w w' := by
  have bA := (Below.refl w.heap.size w).alloc (Nat.le_refl _) (.cells #[.bool true, .slice pi a ci, .slice pk b ck, .int .i64 si, .int .i64 dd, .slice pp f cp, .int .i64 nn, .int .i64 ll, .int .i64 rr, .slice ph g ch] 75)
  have gA := heap_alloc_new w (.cells #[.bool true, .slice pi a ci, .slice pk b ck, .int .i64 si, .int .i64 dd, .slice pp f cp, .int .i64 nn, .int .i64 ll, .int .i64 rr, .slice ph g ch] 75)
  obtain ⟨V, hV⟩ : ∃ V, w.alloc (.cells #[.bool true, .slice pi a ci, .slice pk b ck, .int .i64 si, .int .i64 dd, .slice pp f cp, .int .i64 nn, .int .i64 ll, .int .i64 rr, .slice ph g ch] 75) = V := ⟨_, rfl⟩
  rw [hV] at bA gA
  have bV2 : Below V.heap.size V (V.alloc (.cells #[.int .i64 0, .slice none 0 0, .slice none 0 0, .int .i64 0, .int .i64 0, .slice none 0 0, .int .i64 0, .slice none 0 0, .slice none 0 0, .slice none 0 0] 26)) := (Below.refl _ V).alloc (Nat.le_refl _) _
  have gZ := heap_alloc_new V (.cells #[.int .i64 0, .slice none 0 0, .slice none 0 0, .int .i64 0, .int .i64 0, .slice none 0 0, .int .i64 0, .slice none 0 0, .slice none 0 0, .slice none 0 0] 26)
  obtain ⟨V2, hV2⟩ : ∃ V2, V.alloc (.cells #[.int .i64 0, .slice none 0 0, .slice none 0 0, .int .i64 0, .int .i64 0, .slice none 0 0, .int .i64 0, .slice none 0 0, .slice none 0 0, .slice none 0 0] 26) = V2 := ⟨_, rfl⟩
  rw [hV2] at bV2 gZ
  have glt : w.heap.size < V.heap.size := (Array.getElem?_eq_some_iff.1 gA).1
  have gA2 := (bV2.block _ glt).trans gA
  obtain ⟨q0, q1, q2, q3, q4, q5, q6, q7, q8, q9⟩ := cells10 gA2
  obtain ⟨y0, y1, y2, y3, y4, y5, y6, y7, y8, y9⟩ := cells10 gZ
  obtain ⟨f0, f1, f2, f3, f4, f5, f6, f7, f8, f9, _⟩ := frz10 gZ
  have hon : Only V.heap.size V2 (((((((((((V2).setCell ⟨V.heap.size, 0, none⟩ (.int .i64 1)).setCell ⟨V.heap.size, 1, none⟩ (.slice pi a ci)).setCell ⟨V.heap.size, 2, none⟩ (.slice pk b ck)).setCell ⟨V.heap.size, 3, none⟩ (.int .i64 si)).setCell ⟨V.heap.size, 4, none⟩ (.int .i64 0)).setCell ⟨V.heap.size, 5, none⟩ (.slice none 0 0)).setCell ⟨V.heap.size, 6, none⟩ (.int .i64 0)).setCell ⟨V.heap.size, 7, none⟩ (.slice none 0 0)).setCell ⟨V.heap.size, 8, none⟩ (.slice none 0 0)).setCell ⟨V.heap.size, 9, none⟩ (.slice none 0 0)) := (((((((((((Only.refl V.heap.size V2).setCell 0 _).setCell 1 _).setCell 2 _).setCell 3 _).setCell 4 _).setCell 5 _).setCell 6 _).setCell 7 _).setCell 8 _).setCell 9 _)
  have HW : Below w.heap.size w (((((((((((V2).setCell ⟨V.heap.size, 0, none⟩ (.int .i64 1)).setCell ⟨V.heap.size, 1, none⟩ (.slice pi a ci)).setCell ⟨V.heap.size, 2, none⟩ (.slice pk b ck)).setCell ⟨V.heap.size, 3, none⟩ (.int .i64 si)).setCell ⟨V.heap.size, 4, none⟩ (.int .i64 0)).setCell ⟨V.heap.size, 5, none⟩ (.slice none 0 0)).setCell ⟨V.heap.size, 6, none⟩ (.int .i64 0)).setCell ⟨V.heap.size, 7, none⟩ (.slice none 0 0)).setCell ⟨V.heap.size, 8, none⟩ (.slice none 0 0)).setCell ⟨V.heap.size, 9, none⟩ (.slice none 0 0)) := (bA.trans (bV2.mono bA.size)).trans (hon.below bA.size)
  clear hon gA gA2 gZ bA bV2 glt
  go_enter Tryz.func42, Tryz.ntmps42
  go_wp2
  refine bodyPost_ret (v := .agg #[.int .i64 1, .slice pi a ci, .slice pk b ck, .int .i64 si, .int .i64 0, .slice none 0 0, .int .i64 0, .slice none 0 0, .slice none 0 0, .slice none 0 0]) ?_ rfl ?_
  · simp only [results, Tryz.results42]
    go_simp
  · exact ⟨rfl, HW⟩

set_option maxRecDepth 100000 in
set_option maxHeartbeats 16000000 in
theorem proveLeaf_any (g nb base c : Nat) (p : Option Addr) (since : Int) (iv : Value) (w : World) (h : AG w g 4 16384 p 1 c) (ho : w.ownsRow base 119 1 (.slice p 1 c) 1 [.pointer (some ⟨nb, 0, none⟩)]) (hX : NB w nb (leafS 4 [97] [] since)) (hid : HB w iv [97]) :
    Calls Tryz.prog 17 #[.pointer (some ⟨g, 0, none⟩), .int .i64 0, iv] w fun e w' => ∃ p1 c1 p2 c2, e = .returned (.agg #[.slice none 0 0, .int .i64 1, .slice p1 1 c1, .slice p2 0 c2, .int .i64 since, .int .i64 0, .slice none 0 0, .int .i64 0, .slice none 0 0, .slice none 0 0, .slice none 0 0]) ∧ HB w' (.slice p1 1 c1) [97] ∧ HB w' (.slice p2 0 c2) [] ∧ Below w.heap.size w w' := by
  obtain ⟨pi, ci, rfl⟩ := hid.shape
  have hK := fun W q => key_any (.slice pi [97].length ci) [97] W q
  have hlen : (leafS 4 [97] [] since).hash.length ≤ 65535 := by
    show (hashF 4 1 [[97], [], numB since]).length ≤ 65535
    unfold hashF
    split
    · rw [List.length_take, sha_length]; omega
    · simp
  have hl : (leafS 4 [97] [] since).id.length ≤ 65535 ∧ (leafS 4 [97] [] since).key.length ≤ 65535 ∧ (leafS 4 [97] [] since).pre.length ≤ 65535 ∧ (leafS 4 [97] [] since).hash.length ≤ 65535 := ⟨by simp [leafS], by simp [leafS], by simp [leafS], hlen⟩
  have hN := fun W q1 q2 q3 => node_at g 1 c base 0 nb 4 16384 p [.pointer (some ⟨nb, 0, none⟩)] (leafS 4 [97] [] since) W q1 q2 (by decide) rfl q3 hl
  clear hlen hl
  rw [show ((0 : Nat) : Int) = 0 from rfl] at hN
  rw [show (leafS 4 [97] [] since).leaf = true from rfl, show (leafS 4 [97] [] since).id = [97] from rfl, show (leafS 4 [97] [] since).key = [] from rfl, show (leafS 4 [97] [] since).since = since from rfl] at hN
  have bA := (Below.refl w.heap.size w).alloc (Nat.le_refl _) (.cells #[.slice none 0 0, .int .i64 0, .slice none 0 0, .slice none 0 0, .int .i64 0, .int .i64 0, .slice none 0 0, .int .i64 0, .slice none 0 0, .slice none 0 0, .slice none 0 0] 28)
  have gA := heap_alloc_new w (.cells #[.slice none 0 0, .int .i64 0, .slice none 0 0, .slice none 0 0, .int .i64 0, .int .i64 0, .slice none 0 0, .int .i64 0, .slice none 0 0, .slice none 0 0, .slice none 0 0] 28)
  obtain ⟨V, hV⟩ : ∃ V, w.alloc (.cells #[.slice none 0 0, .int .i64 0, .slice none 0 0, .slice none 0 0, .int .i64 0, .int .i64 0, .slice none 0 0, .int .i64 0, .slice none 0 0, .slice none 0 0, .slice none 0 0] 28) = V := ⟨_, rfl⟩
  rw [hV] at bA gA
  have glt : w.heap.size < V.heap.size := (Array.getElem?_eq_some_iff.1 gA).1
  go_enter Tryz.func17, Tryz.ntmps17
  go_wp2_with fail
  refine (hK _ (hid.later bA)).mono ?_
  rintro e w1 ⟨pK, cK, rfl, _, hb1⟩
  have b1 := bA.trans (hb1.mono bA.size)
  have gA1 := (hb1.block _ glt).trans gA
  have lt1 : w.heap.size < w1.heap.size := Nat.lt_of_lt_of_le glt hb1.size
  generalize keyF [97] = K at *
  have bB := (Below.refl w1.heap.size w1).alloc (Nat.le_refl _) (.cells #[.slice none 0 0, .int .i64 0, .slice none 0 0, .slice none 0 0, .int .i64 0, .int .i64 0, .slice none 0 0, .int .i64 0, .slice none 0 0, .slice none 0 0, .slice none 0 0] 28)
  have gB := heap_alloc_new w1 (.cells #[.slice none 0 0, .int .i64 0, .slice none 0 0, .slice none 0 0, .int .i64 0, .int .i64 0, .slice none 0 0, .int .i64 0, .slice none 0 0, .slice none 0 0, .slice none 0 0] 28)
  obtain ⟨V2, hV2⟩ : ∃ V2, w1.alloc (.cells #[.slice none 0 0, .int .i64 0, .slice none 0 0, .slice none 0 0, .int .i64 0, .int .i64 0, .slice none 0 0, .int .i64 0, .slice none 0 0, .slice none 0 0, .slice none 0 0] 28) = V2 := ⟨_, rfl⟩
  rw [hV2] at bB gB
  have lt2 : w1.heap.size < V2.heap.size := (Array.getElem?_eq_some_iff.1 gB).1
  have b2 := b1.trans (bB.mono b1.size)
  have gA2 := (bB.block _ lt1).trans gA1
  have hN2 := hN V2 (h.later b2) (owns_later ho b2) (hX.later b2)
  clear hN hK hb1 gA1 gA bA
  go_wp2
  go_loopw [9] (fun t wr => t = .int .i64 0 ∧ wr = V2) (fun _ _ => 0)
  case atStart => exact ⟨rfl, rfl⟩
  case round =>
    obtain ⟨rfl, hwr⟩ := hrel
    subst hwr
    go_wp2_with fail
    refine hN2.mono ?_
    rintro e w3 ⟨p1, c1, p2, c2, p3, c3, p4, c4, rfl, k1, k2, _, _, hb3⟩
    have b3 := b2.trans (hb3.mono b2.size)
    have gA3 := (hb3.block _ (by omega)).trans gA2
    have gB3 := (hb3.block _ lt2).trans gB
    clear hN2
    generalize (leafS 4 [97] [] since).depth = dd at *
    generalize (leafS 4 [97] [] since).newest = nn at *
    generalize (leafS 4 [97] [] since).left = ll at *
    generalize (leafS 4 [97] [] since).right = rr at *
    generalize (leafS 4 [97] [] since).pre = PP at *
    generalize (leafS 4 [97] [] since).hash = HH at *
    have bN := (Below.refl w3.heap.size w3).alloc (Nat.le_refl _) (.cells #[.bool true, .slice p1 1 c1, .slice p2 0 c2, .int .i64 since, .int .i64 dd, .slice p3 PP.length c3, .int .i64 nn, .int .i64 ll, .int .i64 rr, .slice p4 HH.length c4] 75)
    have gN := heap_alloc_new w3 (.cells #[.bool true, .slice p1 1 c1, .slice p2 0 c2, .int .i64 since, .int .i64 dd, .slice p3 PP.length c3, .int .i64 nn, .int .i64 ll, .int .i64 rr, .slice p4 HH.length c4] 75)
    obtain ⟨V4, hV4⟩ : ∃ V4, w3.alloc (.cells #[.bool true, .slice p1 1 c1, .slice p2 0 c2, .int .i64 since, .int .i64 dd, .slice p3 PP.length c3, .int .i64 nn, .int .i64 ll, .int .i64 rr, .slice p4 HH.length c4] 75) = V4 := ⟨_, rfl⟩
    rw [hV4] at bN gN
    obtain ⟨q0, q1, q2, q3, q4, q5, q6, q7, q8, q9⟩ := cells10 gN
    have hO := ofLeaf_any (.pointer (some ⟨g, 0, none⟩)) p1 p2 p3 p4 1 0 PP.length HH.length c1 c2 c3 c4 since dd nn ll rr V4
    go_wp2_with fail
    refine hO.mono ?_
    rintro e w5 ⟨rfl, hb5⟩
    have b35 := bN.trans (hb5.mono bN.size)
    have b5 := b3.trans (b35.mono b3.size)
    have lt3 : w.heap.size < w3.heap.size := by have := hb3.size; omega
    have gA5 := (b35.block _ lt3).trans gA3
    have gB5 := (b35.block _ (Nat.lt_of_lt_of_le lt2 hb3.size)).trans gB3
    have k15 := k1.later b35
    have k25 := k2.later b35
    clear hO q0 q1 q2 q3 q4 q5 q6 q7 q8 q9 gN gA3 gB3 gA2 gB k1 k2 hb5 bN hb3
    obtain ⟨y0, y1, y2, y3, y4, y5, y6, y7, y8, y9, y10⟩ := cells11 gB5
    obtain ⟨f0, f1, f2, f3, f4, f5, f6, f7, f8, f9, f10⟩ := frz10 gB5
    obtain ⟨x0, x1, x2, x3, x4, x5, x6, x7, x8, x9, x10⟩ := cells11 gA5
    obtain ⟨z0, z1, z2, z3, z4, z5, z6, z7, z8, z9, z10⟩ := frz10 gA5
    have onA : Only w1.heap.size w5 (((((((((((w5).setCell ⟨w1.heap.size, 1, none⟩ (.int .i64 1)).setCell ⟨w1.heap.size, 2, none⟩ (.slice p1 1 c1)).setCell ⟨w1.heap.size, 3, none⟩ (.slice p2 0 c2)).setCell ⟨w1.heap.size, 4, none⟩ (.int .i64 since)).setCell ⟨w1.heap.size, 5, none⟩ (.int .i64 0)).setCell ⟨w1.heap.size, 6, none⟩ (.slice none 0 0)).setCell ⟨w1.heap.size, 7, none⟩ (.int .i64 0)).setCell ⟨w1.heap.size, 8, none⟩ (.slice none 0 0)).setCell ⟨w1.heap.size, 9, none⟩ (.slice none 0 0)).setCell ⟨w1.heap.size, 10, none⟩ (.slice none 0 0)) := (((((((((((Only.refl w1.heap.size w5).setCell 1 _).setCell 2 _).setCell 3 _).setCell 4 _).setCell 5 _).setCell 6 _).setCell 7 _).setCell 8 _).setCell 9 _).setCell 10 _)
    have hnz : ∀ v ∈ (#[.slice none 0 0, .int .i64 0, .slice none 0 0, .slice none 0 0, .int .i64 0, .int .i64 0, .slice none 0 0, .int .i64 0, .slice none 0 0, .slice none 0 0, .slice none 0 0] : Array Value).toList, ∀ y : UInt8, v ≠ bc y := by
      intro v hv y e
      subst e
      simp [bc] at hv
    have kA := k15.onlyC gB5 hnz onA
    have gA6 := (onA.block w.heap.size (by omega) (Nat.lt_of_lt_of_le lt3 b35.size)).trans gA5
    have onB : Only w.heap.size (((((((((((w5).setCell ⟨w1.heap.size, 1, none⟩ (.int .i64 1)).setCell ⟨w1.heap.size, 2, none⟩ (.slice p1 1 c1)).setCell ⟨w1.heap.size, 3, none⟩ (.slice p2 0 c2)).setCell ⟨w1.heap.size, 4, none⟩ (.int .i64 since)).setCell ⟨w1.heap.size, 5, none⟩ (.int .i64 0)).setCell ⟨w1.heap.size, 6, none⟩ (.slice none 0 0)).setCell ⟨w1.heap.size, 7, none⟩ (.int .i64 0)).setCell ⟨w1.heap.size, 8, none⟩ (.slice none 0 0)).setCell ⟨w1.heap.size, 9, none⟩ (.slice none 0 0)).setCell ⟨w1.heap.size, 10, none⟩ (.slice none 0 0)) ((((((((((((((((((((((w5).setCell ⟨w1.heap.size, 1, none⟩ (.int .i64 1)).setCell ⟨w1.heap.size, 2, none⟩ (.slice p1 1 c1)).setCell ⟨w1.heap.size, 3, none⟩ (.slice p2 0 c2)).setCell ⟨w1.heap.size, 4, none⟩ (.int .i64 since)).setCell ⟨w1.heap.size, 5, none⟩ (.int .i64 0)).setCell ⟨w1.heap.size, 6, none⟩ (.slice none 0 0)).setCell ⟨w1.heap.size, 7, none⟩ (.int .i64 0)).setCell ⟨w1.heap.size, 8, none⟩ (.slice none 0 0)).setCell ⟨w1.heap.size, 9, none⟩ (.slice none 0 0)).setCell ⟨w1.heap.size, 10, none⟩ (.slice none 0 0)).setCell ⟨w.heap.size, 0, none⟩ (.slice none 0 0)).setCell ⟨w.heap.size, 1, none⟩ (.int .i64 1)).setCell ⟨w.heap.size, 2, none⟩ (.slice p1 1 c1)).setCell ⟨w.heap.size, 3, none⟩ (.slice p2 0 c2)).setCell ⟨w.heap.size, 4, none⟩ (.int .i64 since)).setCell ⟨w.heap.size, 5, none⟩ (.int .i64 0)).setCell ⟨w.heap.size, 6, none⟩ (.slice none 0 0)).setCell ⟨w.heap.size, 7, none⟩ (.int .i64 0)).setCell ⟨w.heap.size, 8, none⟩ (.slice none 0 0)).setCell ⟨w.heap.size, 9, none⟩ (.slice none 0 0)).setCell ⟨w.heap.size, 10, none⟩ (.slice none 0 0)) := ((((((((((((Only.refl w.heap.size (((((((((((w5).setCell ⟨w1.heap.size, 1, none⟩ (.int .i64 1)).setCell ⟨w1.heap.size, 2, none⟩ (.slice p1 1 c1)).setCell ⟨w1.heap.size, 3, none⟩ (.slice p2 0 c2)).setCell ⟨w1.heap.size, 4, none⟩ (.int .i64 since)).setCell ⟨w1.heap.size, 5, none⟩ (.int .i64 0)).setCell ⟨w1.heap.size, 6, none⟩ (.slice none 0 0)).setCell ⟨w1.heap.size, 7, none⟩ (.int .i64 0)).setCell ⟨w1.heap.size, 8, none⟩ (.slice none 0 0)).setCell ⟨w1.heap.size, 9, none⟩ (.slice none 0 0)).setCell ⟨w1.heap.size, 10, none⟩ (.slice none 0 0))).setCell 0 _).setCell 1 _).setCell 2 _).setCell 3 _).setCell 4 _).setCell 5 _).setCell 6 _).setCell 7 _).setCell 8 _).setCell 9 _).setCell 10 _)
    have kB := kA.onlyC gA6 hnz onB
    have k2B := (k25.onlyC gB5 hnz onA).onlyC gA6 hnz onB
    have HW : Below w.heap.size w ((((((((((((((((((((((w5).setCell ⟨w1.heap.size, 1, none⟩ (.int .i64 1)).setCell ⟨w1.heap.size, 2, none⟩ (.slice p1 1 c1)).setCell ⟨w1.heap.size, 3, none⟩ (.slice p2 0 c2)).setCell ⟨w1.heap.size, 4, none⟩ (.int .i64 since)).setCell ⟨w1.heap.size, 5, none⟩ (.int .i64 0)).setCell ⟨w1.heap.size, 6, none⟩ (.slice none 0 0)).setCell ⟨w1.heap.size, 7, none⟩ (.int .i64 0)).setCell ⟨w1.heap.size, 8, none⟩ (.slice none 0 0)).setCell ⟨w1.heap.size, 9, none⟩ (.slice none 0 0)).setCell ⟨w1.heap.size, 10, none⟩ (.slice none 0 0)).setCell ⟨w.heap.size, 0, none⟩ (.slice none 0 0)).setCell ⟨w.heap.size, 1, none⟩ (.int .i64 1)).setCell ⟨w.heap.size, 2, none⟩ (.slice p1 1 c1)).setCell ⟨w.heap.size, 3, none⟩ (.slice p2 0 c2)).setCell ⟨w.heap.size, 4, none⟩ (.int .i64 since)).setCell ⟨w.heap.size, 5, none⟩ (.int .i64 0)).setCell ⟨w.heap.size, 6, none⟩ (.slice none 0 0)).setCell ⟨w.heap.size, 7, none⟩ (.int .i64 0)).setCell ⟨w.heap.size, 8, none⟩ (.slice none 0 0)).setCell ⟨w.heap.size, 9, none⟩ (.slice none 0 0)).setCell ⟨w.heap.size, 10, none⟩ (.slice none 0 0)) := (b5.trans (onA.below (by omega))).trans (onB.below (Nat.le_refl _))
    clear onA onB hnz kA gA6 gA5 gB5 b5 b35 k15 k25
    go_wp2
    refine bodyPost_ret (v := .agg #[.slice none 0 0, .int .i64 1, .slice p1 1 c1, .slice p2 0 c2, .int .i64 since, .int .i64 0, .slice none 0 0, .int .i64 0, .slice none 0 0, .slice none 0 0, .slice none 0 0]) ?_ rfl ?_
    · simp only [results, Tryz.results17]
      go_simp
    · exact ⟨p1, c1, p2, c2, rfl, kB, k2B, HW⟩

end Go.Proofs.YtahfjemllkbpgaaGreatDoor

namespace Go.Proofs.YtahfjemllkbpgaaGreatDoor
open Go.RowKit

theorem HA.nil (w : World) : HA w (.slice none 0 0) [] := ⟨none, 0, rfl, Nat.le_refl _, Nat.zero_le _, fun h => absurd rfl h⟩

theorem chk_leaf1 (si : Int) (h0 : 0 ≤ si) (h1 : si ≤ 255) : chkW 4 [97] [] ⟨1, [97], [], si, 0, [], 0, [], [], 0⟩ = true := by
  simp [chkW, wayB, downF, endsB, shapedB, isLeafB, noForkB, epB, h0, h1]

theorem texts_leaf1 (si : Int) (h0 : 0 ≤ si) (h1 : si ≤ 255) : (textsW 4 [97] [] ⟨1, [97], [], si, 0, [], 0, [], [], 0⟩).length = 1 := by
  unfold textsW
  rw [if_pos (chk_leaf1 si h0 h1), upW_len]
  rfl

set_option maxRecDepth 100000 in
set_option maxHeartbeats 8000000 in
theorem paAwake_any (w : World) (hT : Tabs w) : Calls Tryz.prog 5 #[] w fun e w' => e = .returned (.bool true) ∧ Below w.heap.size w w' := by
  have kc := fun (w : World) (C : Array Value) (n c : Nat) => Lib.run_convert_bytes_const (P := Tryz.prog) w 22 5 C n c Tryz.underlying22 Tryz.underlying5
  have bL := (Below.refl _ w).alloc (Nat.le_refl _) (.cells #[.int .u8 97] 5 (1, 2))
  have bP := bL.alloc bL.size (.cells #[.slice (some ⟨w.heap.size, 0, none⟩) 1 1, .slice none 0 0, .int .i64 0] 48)
  have gP := heap_alloc_new (w.alloc (.cells #[.int .u8 97] 5 (1, 2))) (.cells #[.slice (some ⟨w.heap.size, 0, none⟩) 1 1, .slice none 0 0, .int .i64 0] 48)
  have sP : (w.alloc (.cells #[.int .u8 97] 5 (1, 2))).heap.size = w.heap.size + 1 := by simp
  have ha : HB (w.alloc (.cells #[.int .u8 97] 5 (1, 2))) (.slice (some ⟨w.heap.size, 0, none⟩) 1 1) [97] := HB.litF w 5 _ _ 1 _ rfl rfl (by unfold maxLen; omega)
  have ha2 := ha.later ((Below.refl _ _).alloc (Nat.le_refl _) (.cells #[.slice (some ⟨w.heap.size, 0, none⟩) 1 1, .slice none 0 0, .int .i64 0] 48))
  rw [sP] at gP
  obtain ⟨V, hV⟩ : ∃ V, (w.alloc (.cells #[.int .u8 97] 5 (1, 2))).alloc (.cells #[.slice (some ⟨w.heap.size, 0, none⟩) 1 1, .slice none 0 0, .int .i64 0] 48) = V := ⟨_, rfl⟩
  rw [hV] at bP gP ha2
  have hTr := tree1_any (w.heap.size + 1) 0 0 (.slice (some ⟨w.heap.size, 0, none⟩) 1 1) V (by decide) (by decide) (by rw [cell_of_row _ _ _ _ _ _ gP]; rfl) (by rw [cell_of_row _ _ _ _ _ _ gP]; rfl) (by rw [cell_of_row _ _ _ _ _ _ gP]; rfl) ha2 (hT.later bP)
  have hlenT := texts_leaf1 0 (by decide) (by decide)
  clear ha ha2 gP sP bL
  go_enter Tryz.func5, Tryz.ntmps5
  go_wp2_with fail
  refine hTr.mono ?_
  rintro e w3 ⟨x, p3, c3, nb, rfl, a3, o3, n3, hb3⟩
  have b3 := bP.trans (hb3.mono bP.size)
  clear hTr hb3
  have bM := (Below.refl _ w3).alloc (Nat.le_refl _) (.cells #[.int .u8 97] 5 (1, 2))
  have bMM := bM.alloc bM.size (.cells #[.int .u8 97] 5 (1, 2))
  have sM : (w3.alloc (.cells #[.int .u8 97] 5 (1, 2))).heap.size = w3.heap.size + 1 := by simp
  have bM2 : Below (w3.alloc (.cells #[.int .u8 97] 5 (1, 2))).heap.size (w3.alloc (.cells #[.int .u8 97] 5 (1, 2))) ((w3.alloc (.cells #[.int .u8 97] 5 (1, 2))).alloc (.cells #[.int .u8 97] 5 (1, 2))) := (Below.refl _ _).alloc (Nat.le_refl _) _
  have kA := (HB.litF w3 5 [97] #[.int .u8 97] 1 (1, 2) rfl rfl (by unfold maxLen; omega)).later bM2
  have kB : HB ((w3.alloc (.cells #[.int .u8 97] 5 (1, 2))).alloc (.cells #[.int .u8 97] 5 (1, 2))) (.slice (some ⟨w3.heap.size + 1, 0, none⟩) 1 1) [97] := by
    have := HB.litF (w3.alloc (.cells #[.int .u8 97] 5 (1, 2))) 5 [97] #[.int .u8 97] 1 (1, 2) rfl rfl (by unfold maxLen; omega)
    rwa [sM] at this
  have kc2 : (convert 22 22 (.slice (some ⟨w3.heap.size + 1, 0, none⟩) 1 1)).run Tryz.prog ((w3.alloc (.cells #[.int .u8 97] 5 (1, 2))).alloc (.cells #[.int .u8 97] 5)) = .ok (.slice (some ⟨w3.heap.size + 1, 0, none⟩) 1 1) ((w3.alloc (.cells #[.int .u8 97] 5 (1, 2))).alloc (.cells #[.int .u8 97] 5 (1, 2))) := by
    simpa using kc (w3.alloc (.cells #[.int .u8 97] 5 (1, 2))) #[.int .u8 97] 1 1
  have hP := proveLeaf_any V.heap.size nb V.heap.size c3 p3 0 (.slice (some ⟨w3.heap.size + 1, 0, none⟩) 1 1) _ (a3.later bMM) (owns_later o3 bMM) (n3.later bMM) kB
  have b4 := b3.trans (bMM.mono b3.size)
  clear bM bM2 sM a3 o3 n3
  go_wp2_with fail
  refine hP.mono ?_
  rintro e w5 ⟨p1, c1, p2, c2, rfl, k1, k2, hb5⟩
  have b5 := b4.trans (hb5.mono b4.size)
  have kA5 := kA.later hb5
  have hTx := texts_any17 4 (.slice (some ⟨w3.heap.size, 0, none⟩) 1 1) (.slice none 0 0) [97] [] ⟨1, [97], [], 0, 0, [], 0, [], [], 0⟩ p1 p2 none none none none c1 c2 0 0 0 0 w5 kA5 (HA.nil _) k1 k2 (HB.nil _) (HB.nil _) (HB.nil _) (by simp) (hT.later b5)
  rw [hlenT] at hTx
  clear hP kA kB kc2 hb5 hlenT
  go_wp2_with fail
  refine hTx.mono ?_
  rintro e w6 ⟨p6, c6, rfl, _, hb6⟩
  have b6 := b5.trans (hb6.mono b5.size)
  clear hTx hb6 k1 k2 kA5
  go_wp2
  go_ret
  exact ⟨rfl, b6⟩

end Go.Proofs.YtahfjemllkbpgaaGreatDoor
