/- What this text proves: the walk of record.Can over this program: whether a record may be. (By program: held.py, mkrec.py.) -/
import Derived.Test.YtcgpgnajmfemhaaGreatDoorJV1
import Derived.Test.YtcgpgnajmfemhaaGreatDoorJQ1
namespace Go.Proofs.YtcgpgnajmfemhaaGreatDoor
open Go.RowKit

theorem PA.twoC (w : World) (a b : Value) (la lb : List UInt8) (ha : HB w a la) (hb : HB w b lb) : PA (w.alloc (.cells #[a, b] 37)) (.slice (some ⟨w.heap.size, 0, none⟩) 2 2) [la, lb] := by
  have hbe := (Below.refl w.heap.size w).alloc (Nat.le_refl _) (.cells #[a, b] 37)
  refine ⟨_, 2, [a, b], rfl, Nat.le_refl _, by decide, (fun h => by cases h), rfl, fun _ => ⟨_, 0, rfl, fun i x hx => ?_⟩, fun i x l hx hl => ?_⟩
  · rw [Nat.zero_add, cell_of_row _ _ i _ _ _ (heap_alloc_new w _)]
    simpa using hx
  · match i with
    | 0 => simp at hx hl; subst hx; subst hl; exact ha.later hbe
    | 1 => simp at hx hl; subst hx; subst hl; exact hb.later hbe
    | n + 2 => simp at hx

set_option maxRecDepth 100000 in
set_option maxHeartbeats 8000000 in
theorem rcan_any (size e t c : Int) (tv lv kv : Value) (tr li : List UInt8) (lk : List (List UInt8)) (w : World) (h1 : HB w tv tr) (h2 : HB w lv li) (h3 : PA w kv lk) (hTD : TD w) :
    Calls Tryz.prog 102 #[.int .i64 size, .agg #[.int .i64 e, .int .i64 t, tv, .int .i64 c, lv, kv]] w fun x w' => x = .returned (.bool (canB size ⟨e, t, c, tr, li, lk⟩)) ∧ Below w.heap.size w w' := by
  obtain ⟨tp, tc, rfl⟩ := h1.shape
  obtain ⟨lp, lc, rfl⟩ := h2.shape
  obtain ⟨kp, kc, rfl⟩ := h3.shape
  have bA := (Below.refl w.heap.size w).alloc (Nat.le_refl _) (.cells #[.int .i64 e, .int .i64 t, .slice tp tr.length tc, .int .i64 c, .slice lp li.length lc, .slice kp lk.length kc] 40)
  have gA := heap_alloc_new w (.cells #[.int .i64 e, .int .i64 t, .slice tp tr.length tc, .int .i64 c, .slice lp li.length lc, .slice kp lk.length kc] 40)
  obtain ⟨V, hV⟩ : ∃ V, V = w.alloc (.cells #[.int .i64 e, .int .i64 t, .slice tp tr.length tc, .int .i64 c, .slice lp li.length lc, .slice kp lk.length kc] 40) := ⟨_, rfl⟩
  rw [← hV] at bA gA
  have hg : w.heap.size < V.heap.size := (Array.getElem?_eq_some_iff.1 gA).1
  have k1 := h1.later bA
  have k2 := h2.later bA
  have k3 := h3.later bA
  have bD : Below V.heap.size V V.drew := (Below.refl _ V).drew
  have hTV := (hTD.later bA).later bD
  have hml := h3.len
  unfold maxLen at hml
  have hcells : ∀ W, Below V.heap.size V W → W.cell? ⟨w.heap.size, 0, none⟩ = some (.int .i64 e) ∧ W.cell? ⟨w.heap.size, 1, none⟩ = some (.int .i64 t) ∧ W.cell? ⟨w.heap.size, 2, none⟩ = some (.slice tp tr.length tc) ∧ W.cell? ⟨w.heap.size, 3, none⟩ = some (.int .i64 c) ∧ W.cell? ⟨w.heap.size, 4, none⟩ = some (.slice lp li.length lc) ∧ W.cell? ⟨w.heap.size, 5, none⟩ = some (.slice kp lk.length kc) := by
    intro W hB
    have g1 := (hB.block _ hg).trans gA
    refine ⟨?_, ?_, ?_, ?_, ?_, ?_⟩ <;> (rw [cell_of_row _ _ _ _ _ _ g1]; rfl)
  obtain ⟨N, hN⟩ : ∃ N, N = (linksL e.toNat).length := ⟨_, rfl⟩
  have HN : Hid ((linksL e.toNat).length = N) := hN.symm
  have hLC : 0 ≤ e ∧ e ≤ 255 → Calls Tryz.prog 146 #[.int .i64 e] V.drew fun x w' => x = .returned (.int .i64 (N : Int)) ∧ w' = V.drew := by
    intro he
    have := linkCount_any e.toNat V.drew (by omega) hTV
    rw [← hN, Int.toNat_of_nonneg he.1] at this
    exact this
  have hN64 : N ≤ 63 ∨ ¬ (0 ≤ e ∧ e ≤ 255) := by
    by_cases he : 0 ≤ e ∧ e ≤ 255
    · exact .inl (by rw [hN]; exact linksL_len _ (by omega))
    · exact .inr he
  clear hN hTV hTD h1 h2 h3
  go_enter Tryz.func102, Tryz.ntmps102
  go_wp2
  rw [← hV]
  clear hV gA
  have hHeld := hcells V.drew bD
  refine wp_region_heldN (by kernel_rfl) (fun W => W.cell? ⟨w.heap.size, 0, none⟩ = some (.int .i64 e) ∧ W.cell? ⟨w.heap.size, 1, none⟩ = some (.int .i64 t) ∧ W.cell? ⟨w.heap.size, 2, none⟩ = some (.slice tp tr.length tc) ∧ W.cell? ⟨w.heap.size, 3, none⟩ = some (.int .i64 c) ∧ W.cell? ⟨w.heap.size, 4, none⟩ = some (.slice lp li.length lc) ∧ W.cell? ⟨w.heap.size, 5, none⟩ = some (.slice kp lk.length kc)) 46 rfl ?_
  refine tkY 0 ⟨some 5, .move (.tmp 0), 3, "record.go:18", #[], none⟩ ?v0z1 hHeld ?y0z1 ?r0z1
  case y0z1 => (intro w hSw; (try dsimp only at hSw); go_simp) <;> with_reducible rfl
  try simp only [Act.put, List.setIfInBounds_toArray, List.set_cons_zero, List.set_cons_succ]
  by_cases hc1 : (1 : Int) ≤ size
  · have f1 : Hid (decide ((1 : Int) ≤ size) = true) := by simpa [Hid] using hc1
    refine tkY 1 ⟨some 6, .binOp .geq 3 (.tmp 5) (.const (.int .i64 1)) 3, 4, "record.go:18", #[⟨0, .data⟩], none⟩ ?v1z2 hHeld ?y1z2 ?r1z2
    case y1z2 => (intro w hSw; (try dsimp only at hSw); go_simp) <;> with_reducible rfl
    try simp only [Act.put, List.setIfInBounds_toArray, List.set_cons_zero, List.set_cons_succ]
    refine tkY 2 ⟨some 7, .move (.tmp 6), 4, "record.go:18", #[⟨1, .data⟩], none⟩ ?v2z3 hHeld ?y2z3 ?r2z3
    case y2z3 => (intro w hSw; (try dsimp only at hSw); go_simp) <;> with_reducible rfl
    try simp only [Act.put, List.setIfInBounds_toArray, List.set_cons_zero, List.set_cons_succ]
    refine tkY 3 ⟨some 8, .move (.tmp 0), 3, "record.go:18", #[⟨2, .guard⟩], some (2, true)⟩ ?v3z4 hHeld ?y3z4 ?r3z4
    case y3z4 => (intro w hSw; (try dsimp only at hSw); go_simp) <;> with_reducible rfl
    try simp only [Act.put, List.setIfInBounds_toArray, List.set_cons_zero, List.set_cons_succ]
    by_cases hc4 : size ≤ (32 : Int)
    · have f4 : Hid (decide (size ≤ (32 : Int)) = true) := by simpa [Hid] using hc4
      refine tkY 4 ⟨some 9, .binOp .leq 3 (.tmp 8) (.const (.int .i64 32)) 3, 4, "record.go:18", #[⟨3, .data⟩, ⟨2, .guard⟩], some (2, true)⟩ ?v4z5 hHeld ?y4z5 ?r4z5
      case y4z5 => (intro w hSw; (try dsimp only at hSw); go_simp) <;> with_reducible rfl
      try simp only [Act.put, List.setIfInBounds_toArray, List.set_cons_zero, List.set_cons_succ]
      refine tkY 5 ⟨some 10, .pick (.tmp 7) (.tmp 9) (.const (.bool false)), 4, "record.go:18", #[⟨2, .data⟩, ⟨4, .data⟩], none⟩ ?v5z6 hHeld ?y5z6 ?r5z6
      case y5z6 => (intro w hSw; (try dsimp only at hSw); go_simp) <;> with_reducible rfl
      try simp only [Act.put, List.setIfInBounds_toArray, List.set_cons_zero, List.set_cons_succ]
      refine tkY 6 ⟨some 11, .move (.tmp 10), 4, "record.go:18", #[⟨5, .data⟩, ⟨2, .chain⟩], none⟩ ?v6z7 hHeld ?y6z7 ?r6z7
      case y6z7 => (intro w hSw; (try dsimp only at hSw); go_simp) <;> with_reducible rfl
      try simp only [Act.put, List.setIfInBounds_toArray, List.set_cons_zero, List.set_cons_succ]
      refine tkY 7 ⟨some 12, .fieldAddr 40 (.tmp 3) 0, 0, "record.go:18", #[⟨6, .guard⟩], some (6, true)⟩ ?v7z8 hHeld ?y7z8 ?r7z8
      case y7z8 => (intro w hSw; (try dsimp only at hSw); go_simp) <;> with_reducible rfl
      try simp only [Act.put, List.setIfInBounds_toArray, List.set_cons_zero, List.set_cons_succ]
      refine tkY 8 ⟨some 13, .load 3 (.tmp 12), 3, "record.go:18", #[⟨7, .data⟩, ⟨6, .guard⟩], some (6, true)⟩ ?v8z9 hHeld ?y8z9 ?r8z9
      case y8z9 => (intro w hSw; (try dsimp only at hSw); go_simp) <;> with_reducible rfl
      try simp only [Act.put, List.setIfInBounds_toArray, List.set_cons_zero, List.set_cons_succ]
      refine wpAnyH_ready (rs := [9]) (by kernel_rfl) (by simp) ?_
      refine AllReadyH.cons (o := ⟨some 14, .call { callee := .value (.func 145), args := #[.tmp 13, .const (.int .i64 255)], argTypes := #[3, 3] }, 4, "record.go:19", #[⟨8, .data⟩, ⟨6, .chain⟩, ⟨6, .guard⟩], some (6, true)⟩) rfl (fun K hK => ?_) AllReadyH.nil
      go_simp
      refine (within_any e 255 _).mono ?_
      rintro x w2 ⟨rfl, hw2⟩
      subst hw2
      obtain ⟨B, hB⟩ : ∃ B, B = decide (0 ≤ e ∧ e ≤ 255) := ⟨_, rfl⟩
      rw [← hB]
      have HE : Hid (B = decide (0 ≤ e ∧ e ≤ 255)) := hB
      clear hB
      cases B with
      | true =>
        refine hK.out _ _ ?_ (fun _ => ?_)
        · exact hHeld
        clear hK K
        try simp only [Act.put, List.setIfInBounds_toArray, List.set_cons_zero, List.set_cons_succ]
        refine tkY 10 ⟨some 15, .pick (.tmp 11) (.tmp 14) (.const (.bool false)), 4, "record.go:18", #[⟨6, .data⟩, ⟨9, .data⟩], none⟩ ?v10z10 hHeld ?y10z10 ?r10z10
        case y10z10 => (intro w hSw; (try dsimp only at hSw); go_simp) <;> with_reducible rfl
        try simp only [Act.put, List.setIfInBounds_toArray, List.set_cons_zero, List.set_cons_succ]
        refine tkY 11 ⟨some 16, .move (.tmp 15), 4, "record.go:18", #[⟨10, .data⟩, ⟨9, .chain⟩], none⟩ ?v11z11 hHeld ?y11z11 ?r11z11
        case y11z11 => (intro w hSw; (try dsimp only at hSw); go_simp) <;> with_reducible rfl
        try simp only [Act.put, List.setIfInBounds_toArray, List.set_cons_zero, List.set_cons_succ]
        refine tkY 12 ⟨some 17, .fieldAddr 40 (.tmp 3) 1, 0, "record.go:18", #[⟨11, .guard⟩], some (11, true)⟩ ?v12z12 hHeld ?y12z12 ?r12z12
        case y12z12 => (intro w hSw; (try dsimp only at hSw); go_simp) <;> with_reducible rfl
        try simp only [Act.put, List.setIfInBounds_toArray, List.set_cons_zero, List.set_cons_succ]
        refine tkY 13 ⟨some 18, .load 3 (.tmp 17), 3, "record.go:18", #[⟨12, .data⟩, ⟨11, .guard⟩], some (11, true)⟩ ?v13z13 hHeld ?y13z13 ?r13z13
        case y13z13 => (intro w hSw; (try dsimp only at hSw); go_simp) <;> with_reducible rfl
        try simp only [Act.put, List.setIfInBounds_toArray, List.set_cons_zero, List.set_cons_succ]
        refine wpAnyH_ready (rs := [14]) (by kernel_rfl) (by simp) ?_
        refine AllReadyH.cons (o := ⟨some 19, .call { callee := .value (.func 145), args := #[.tmp 18, .const (.int .i64 1125899906842624)], argTypes := #[3, 3] }, 4, "record.go:19", #[⟨13, .data⟩, ⟨11, .chain⟩, ⟨11, .guard⟩], some (11, true)⟩) rfl (fun K hK => ?_) AllReadyH.nil
        go_simp
        refine (within_any t 1125899906842624 _).mono ?_
        rintro x w2 ⟨rfl, hw2⟩
        subst hw2
        obtain ⟨B, hB⟩ : ∃ B, B = decide (0 ≤ t ∧ t ≤ 1125899906842624) := ⟨_, rfl⟩
        rw [← hB]
        have HT : Hid (B = decide (0 ≤ t ∧ t ≤ 1125899906842624)) := hB
        clear hB
        cases B with
        | true =>
          refine hK.out _ _ ?_ (fun _ => ?_)
          · exact hHeld
          clear hK K
          try simp only [Act.put, List.setIfInBounds_toArray, List.set_cons_zero, List.set_cons_succ]
          refine tkY 15 ⟨some 20, .pick (.tmp 16) (.tmp 19) (.const (.bool false)), 4, "record.go:18", #[⟨11, .data⟩, ⟨14, .data⟩], none⟩ ?v15z14 hHeld ?y15z14 ?r15z14
          case y15z14 => (intro w hSw; (try dsimp only at hSw); go_simp) <;> with_reducible rfl
          try simp only [Act.put, List.setIfInBounds_toArray, List.set_cons_zero, List.set_cons_succ]
          refine tkY 16 ⟨some 21, .move (.tmp 20), 4, "record.go:18", #[⟨15, .data⟩, ⟨14, .chain⟩], none⟩ ?v16z15 hHeld ?y16z15 ?r16z15
          case y16z15 => (intro w hSw; (try dsimp only at hSw); go_simp) <;> with_reducible rfl
          try simp only [Act.put, List.setIfInBounds_toArray, List.set_cons_zero, List.set_cons_succ]
          refine tkY 17 ⟨some 22, .fieldAddr 40 (.tmp 3) 3, 0, "record.go:18", #[⟨16, .guard⟩], some (16, true)⟩ ?v17z16 hHeld ?y17z16 ?r17z16
          case y17z16 => (intro w hSw; (try dsimp only at hSw); go_simp) <;> with_reducible rfl
          try simp only [Act.put, List.setIfInBounds_toArray, List.set_cons_zero, List.set_cons_succ]
          refine tkY 18 ⟨some 23, .load 3 (.tmp 22), 3, "record.go:18", #[⟨17, .data⟩, ⟨16, .guard⟩], some (16, true)⟩ ?v18z17 hHeld ?y18z17 ?r18z17
          case y18z17 => (intro w hSw; (try dsimp only at hSw); go_simp) <;> with_reducible rfl
          try simp only [Act.put, List.setIfInBounds_toArray, List.set_cons_zero, List.set_cons_succ]
          refine wpAnyH_ready (rs := [19]) (by kernel_rfl) (by simp) ?_
          refine AllReadyH.cons (o := ⟨some 24, .call { callee := .value (.func 145), args := #[.tmp 23, .const (.int .i64 32)], argTypes := #[3, 3] }, 4, "record.go:19", #[⟨18, .data⟩, ⟨16, .chain⟩, ⟨16, .guard⟩], some (16, true)⟩) rfl (fun K hK => ?_) AllReadyH.nil
          go_simp
          refine (within_any c 32 _).mono ?_
          rintro x w2 ⟨rfl, hw2⟩
          subst hw2
          obtain ⟨B, hB⟩ : ∃ B, B = decide (0 ≤ c ∧ c ≤ 32) := ⟨_, rfl⟩
          rw [← hB]
          have HC : Hid (B = decide (0 ≤ c ∧ c ≤ 32)) := hB
          clear hB
          cases B with
          | true =>
            refine hK.out _ _ ?_ (fun _ => ?_)
            · exact hHeld
            clear hK K
            try simp only [Act.put, List.setIfInBounds_toArray, List.set_cons_zero, List.set_cons_succ]
            refine tkY 20 ⟨some 25, .pick (.tmp 21) (.tmp 24) (.const (.bool false)), 4, "record.go:18", #[⟨16, .data⟩, ⟨19, .data⟩], none⟩ ?v20z18 hHeld ?y20z18 ?r20z18
            case y20z18 => (intro w hSw; (try dsimp only at hSw); go_simp) <;> with_reducible rfl
            try simp only [Act.put, List.setIfInBounds_toArray, List.set_cons_zero, List.set_cons_succ]
            refine tkY 21 ⟨some 26, .move (.tmp 25), 4, "record.go:18", #[⟨20, .data⟩, ⟨19, .chain⟩], none⟩ ?v21z19 hHeld ?y21z19 ?r21z19
            case y21z19 => (intro w hSw; (try dsimp only at hSw); go_simp) <;> with_reducible rfl
            try simp only [Act.put, List.setIfInBounds_toArray, List.set_cons_zero, List.set_cons_succ]
            refine tkY 22 ⟨some 27, .fieldAddr 40 (.tmp 3) 5, 0, "record.go:18", #[⟨21, .guard⟩], some (21, true)⟩ ?v22z20 hHeld ?y22z20 ?r22z20
            case y22z20 => (intro w hSw; (try dsimp only at hSw); go_simp) <;> with_reducible rfl
            try simp only [Act.put, List.setIfInBounds_toArray, List.set_cons_zero, List.set_cons_succ]
            refine tkY 23 ⟨some 28, .load 38 (.tmp 27), 38, "record.go:18", #[⟨22, .data⟩, ⟨21, .guard⟩], some (21, true)⟩ ?v23z21 hHeld ?y23z21 ?r23z21
            case y23z21 => (intro w hSw; (try dsimp only at hSw); go_simp) <;> with_reducible rfl
            try simp only [Act.put, List.setIfInBounds_toArray, List.set_cons_zero, List.set_cons_succ]
            refine tkY 24 ⟨some 29, .call { callee := .builtin .len, args := #[.tmp 28], argTypes := #[38] }, 3, "record.go:18", #[⟨23, .data⟩, ⟨21, .guard⟩], some (21, true)⟩ ?v24z22 hHeld ?y24z22 ?r24z22
            case y24z22 => (intro w hSw; (try dsimp only at hSw); go_simp) <;> with_reducible rfl
            try simp only [Act.put, List.setIfInBounds_toArray, List.set_cons_zero, List.set_cons_succ]
            refine tkY 25 ⟨some 30, .fieldAddr 40 (.tmp 3) 0, 0, "record.go:18", #[⟨21, .guard⟩], some (21, true)⟩ ?v25z23 hHeld ?y25z23 ?r25z23
            case y25z23 => (intro w hSw; (try dsimp only at hSw); go_simp) <;> with_reducible rfl
            try simp only [Act.put, List.setIfInBounds_toArray, List.set_cons_zero, List.set_cons_succ]
            refine tkY 26 ⟨some 31, .load 3 (.tmp 30), 3, "record.go:18", #[⟨25, .data⟩, ⟨21, .guard⟩], some (21, true)⟩ ?v26z24 hHeld ?y26z24 ?r26z24
            case y26z24 => (intro w hSw; (try dsimp only at hSw); go_simp) <;> with_reducible rfl
            try simp only [Act.put, List.setIfInBounds_toArray, List.set_cons_zero, List.set_cons_succ]
            refine wpAnyH_ready (rs := [27]) (by kernel_rfl) (by simp) ?_
            refine AllReadyH.cons (o := ⟨some 32, .call { callee := .value (.func 146), args := #[.tmp 31], argTypes := #[3] }, 3, "record.go:20", #[⟨26, .data⟩, ⟨21, .chain⟩, ⟨21, .guard⟩], some (21, true)⟩) rfl (fun K hK => ?_) AllReadyH.nil
            go_simp
            have hee : 0 ≤ e ∧ e ≤ 255 := by
              have := HE.out
              simpa using this.symm
            refine (hLC hee).mono ?_
            rintro x w2 ⟨rfl, hw2⟩
            subst hw2
            refine hK.out _ _ ?_ (fun _ => ?_)
            · exact hHeld
            clear hK K
            try simp only [Act.put, List.setIfInBounds_toArray, List.set_cons_zero, List.set_cons_succ]
            by_cases hc28 : lk.length = N
            · have n6 : ((lk.length : Int) == (N : Int)) = true := by simp; omega
              have n6c : (lk.length == N) = true := by simp; omega
              have f6 : Hid (decide (lk.length = N) = true) := by simpa [Hid] using hc28
              clear hc28
              refine tkY 28 ⟨some 33, .binOp .eql 3 (.tmp 29) (.tmp 32) 3, 4, "record.go:18", #[⟨24, .data⟩, ⟨27, .data⟩, ⟨21, .guard⟩], some (21, true)⟩ ?v28z25 hHeld ?y28z25 ?r28z25
              case y28z25 => (intro w hSw; (try dsimp only at hSw); go_simp) <;> with_reducible rfl
              try simp only [Act.put, List.setIfInBounds_toArray, List.set_cons_zero, List.set_cons_succ]
              refine tkY 29 ⟨some 34, .pick (.tmp 26) (.tmp 33) (.const (.bool false)), 4, "record.go:18", #[⟨21, .data⟩, ⟨28, .data⟩], none⟩ ?v29z26 hHeld ?y29z26 ?r29z26
              case y29z26 => (intro w hSw; (try dsimp only at hSw); go_simp) <;> with_reducible rfl
              try simp only [Act.put, List.setIfInBounds_toArray, List.set_cons_zero, List.set_cons_succ]
              refine tkY 30 ⟨some 35, .move (.tmp 34), 4, "record.go:18", #[⟨29, .data⟩, ⟨27, .chain⟩], none⟩ ?v30z27 hHeld ?y30z27 ?r30z27
              case y30z27 => (intro w hSw; (try dsimp only at hSw); go_simp) <;> with_reducible rfl
              try simp only [Act.put, List.setIfInBounds_toArray, List.set_cons_zero, List.set_cons_succ]
              refine tkY 31 ⟨some 36, .move (.tmp 0), 3, "record.go:18", #[⟨30, .guard⟩], some (30, true)⟩ ?v31z28 hHeld ?y31z28 ?r31z28
              case y31z28 => (intro w hSw; (try dsimp only at hSw); go_simp) <;> with_reducible rfl
              try simp only [Act.put, List.setIfInBounds_toArray, List.set_cons_zero, List.set_cons_succ]
              refine tkY 32 ⟨some 37, .fieldAddr 40 (.tmp 3) 2, 0, "record.go:18", #[⟨30, .guard⟩], some (30, true)⟩ ?v32z29 hHeld ?y32z29 ?r32z29
              case y32z29 => (intro w hSw; (try dsimp only at hSw); go_simp) <;> with_reducible rfl
              try simp only [Act.put, List.setIfInBounds_toArray, List.set_cons_zero, List.set_cons_succ]
              refine tkY 33 ⟨some 38, .load 37 (.tmp 37), 37, "record.go:18", #[⟨32, .data⟩, ⟨30, .guard⟩], some (30, true)⟩ ?v33z30 hHeld ?y33z30 ?r33z30
              case y33z30 => (intro w hSw; (try dsimp only at hSw); go_simp) <;> with_reducible rfl
              try simp only [Act.put, List.setIfInBounds_toArray, List.set_cons_zero, List.set_cons_succ]
              refine tkY 34 ⟨some 39, .fieldAddr 40 (.tmp 3) 4, 0, "record.go:18", #[⟨30, .guard⟩], some (30, true)⟩ ?v34z31 hHeld ?y34z31 ?r34z31
              case y34z31 => (intro w hSw; (try dsimp only at hSw); go_simp) <;> with_reducible rfl
              try simp only [Act.put, List.setIfInBounds_toArray, List.set_cons_zero, List.set_cons_succ]
              refine tkY 35 ⟨some 40, .load 37 (.tmp 39), 37, "record.go:18", #[⟨34, .data⟩, ⟨30, .guard⟩], some (30, true)⟩ ?v35z32 hHeld ?y35z32 ?r35z32
              case y35z32 => (intro w hSw; (try dsimp only at hSw); go_simp) <;> with_reducible rfl
              try simp only [Act.put, List.setIfInBounds_toArray, List.set_cons_zero, List.set_cons_succ]
              refine wpAnyH_ready (rs := [36]) (by kernel_rfl) (by simp) ?_
              refine AllReadyH.cons (o := ⟨some 41, .buildSlice 38 2 #[(0, .tmp 38), (1, .tmp 40)], 38, "record.go:18", #[⟨33, .data⟩, ⟨35, .data⟩, ⟨30, .guard⟩], some (30, true)⟩) rfl (fun K hK => ?_) AllReadyH.nil
              go_simp
              have bA2 : Below V.heap.size V (V.drew.alloc (.cells #[.slice tp tr.length tc, .slice lp li.length lc] 37)) := bD.alloc bD.size _
              have hp2 := PA.twoC V.drew _ _ tr li (k1.later bD) (k2.later bD)
              replace hHeld := hcells _ bA2
              refine hK.out _ _ ?_ (fun _ => ?_)
              · exact hHeld
              clear hK K
              try simp only [Act.put, List.setIfInBounds_toArray, List.set_cons_zero, List.set_cons_succ]
              refine wpAnyH_ready (rs := [37]) (by kernel_rfl) (by simp) ?_
              refine AllReadyH.cons (o := ⟨some 42, .call { callee := .value (.func 147), args := #[.tmp 36, .tmp 41], argTypes := #[3, 38] }, 4, "record.go:20", #[⟨31, .data⟩, ⟨36, .data⟩, ⟨30, .chain⟩, ⟨30, .guard⟩], some (30, true)⟩) rfl (fun K hK => ?_) AllReadyH.nil
              go_simp
              refine (rsized_any size _ [tr, li] _ hp2).mono ?_
              rintro x w2 ⟨rfl, hw2⟩
              subst hw2
              obtain ⟨B, hB⟩ : ∃ B, B = sizedB size [tr, li] := ⟨_, rfl⟩
              rw [← hB]
              have HX : Hid (B = sizedB size [tr, li]) := hB
              clear hB
              cases B with
              | true =>
                refine hK.out _ _ ?_ (fun _ => ?_)
                · exact hHeld
                clear hK K
                try simp only [Act.put, List.setIfInBounds_toArray, List.set_cons_zero, List.set_cons_succ]
                refine tkY 38 ⟨some 43, .pick (.tmp 35) (.tmp 42) (.const (.bool false)), 4, "record.go:18", #[⟨30, .data⟩, ⟨37, .data⟩], none⟩ ?v38z33 hHeld ?y38z33 ?r38z33
                case y38z33 => (intro w hSw; (try dsimp only at hSw); go_simp) <;> with_reducible rfl
                try simp only [Act.put, List.setIfInBounds_toArray, List.set_cons_zero, List.set_cons_succ]
                refine tkY 39 ⟨some 44, .move (.tmp 43), 4, "record.go:18", #[⟨38, .data⟩, ⟨37, .chain⟩], none⟩ ?v39z34 hHeld ?y39z34 ?r39z34
                case y39z34 => (intro w hSw; (try dsimp only at hSw); go_simp) <;> with_reducible rfl
                try simp only [Act.put, List.setIfInBounds_toArray, List.set_cons_zero, List.set_cons_succ]
                refine tkY 40 ⟨some 45, .move (.tmp 0), 3, "record.go:18", #[⟨39, .guard⟩], some (39, true)⟩ ?v40z35 hHeld ?y40z35 ?r40z35
                case y40z35 => (intro w hSw; (try dsimp only at hSw); go_simp) <;> with_reducible rfl
                try simp only [Act.put, List.setIfInBounds_toArray, List.set_cons_zero, List.set_cons_succ]
                refine tkY 41 ⟨some 46, .fieldAddr 40 (.tmp 3) 5, 0, "record.go:18", #[⟨39, .guard⟩], some (39, true)⟩ ?v41z36 hHeld ?y41z36 ?r41z36
                case y41z36 => (intro w hSw; (try dsimp only at hSw); go_simp) <;> with_reducible rfl
                try simp only [Act.put, List.setIfInBounds_toArray, List.set_cons_zero, List.set_cons_succ]
                refine tkY 42 ⟨some 47, .load 38 (.tmp 46), 38, "record.go:18", #[⟨41, .data⟩, ⟨39, .guard⟩], some (39, true)⟩ ?v42z37 hHeld ?y42z37 ?r42z37
                case y42z37 => (intro w hSw; (try dsimp only at hSw); go_simp) <;> with_reducible rfl
                try simp only [Act.put, List.setIfInBounds_toArray, List.set_cons_zero, List.set_cons_succ]
                refine wpAnyH_ready (rs := [43]) (by kernel_rfl) (by simp) ?_
                refine AllReadyH.cons (o := ⟨some 48, .call { callee := .value (.func 147), args := #[.tmp 45, .tmp 47], argTypes := #[3, 38] }, 4, "record.go:20", #[⟨40, .data⟩, ⟨42, .data⟩, ⟨39, .chain⟩, ⟨39, .guard⟩], some (39, true)⟩) rfl (fun K hK => ?_) AllReadyH.nil
                go_simp
                refine (rsized_any size _ lk _ (k3.later bA2)).mono ?_
                rintro x w2 ⟨rfl, hw2⟩
                subst hw2
                obtain ⟨B, hB⟩ : ∃ B, B = sizedB size lk := ⟨_, rfl⟩
                rw [← hB]
                have HY : Hid (B = sizedB size lk) := hB
                clear hB
                cases B with
                | true =>
                  refine hK.out _ _ ?_ (fun _ => ?_)
                  · exact hHeld
                  clear hK K
                  try simp only [Act.put, List.setIfInBounds_toArray, List.set_cons_zero, List.set_cons_succ]
                  refine tkY 44 ⟨some 49, .pick (.tmp 44) (.tmp 48) (.const (.bool false)), 4, "record.go:18", #[⟨39, .data⟩, ⟨43, .data⟩], none⟩ ?v44z38 hHeld ?y44z38 ?r44z38
                  case y44z38 => (intro w hSw; (try dsimp only at hSw); go_simp) <;> with_reducible rfl
                  try simp only [Act.put, List.setIfInBounds_toArray, List.set_cons_zero, List.set_cons_succ]
                  refine tkY 45 ⟨some 4, .assign (.tmp 49), 4, "record.go:18", #[⟨44, .data⟩, ⟨43, .chain⟩, ⟨0, .phase⟩, ⟨1, .phase⟩, ⟨2, .phase⟩, ⟨3, .phase⟩, ⟨4, .phase⟩, ⟨5, .phase⟩, ⟨6, .phase⟩, ⟨7, .phase⟩, ⟨8, .phase⟩, ⟨9, .phase⟩, ⟨10, .phase⟩, ⟨11, .phase⟩, ⟨12, .phase⟩, ⟨13, .phase⟩, ⟨14, .phase⟩, ⟨15, .phase⟩, ⟨16, .phase⟩, ⟨17, .phase⟩, ⟨18, .phase⟩, ⟨19, .phase⟩, ⟨20, .phase⟩, ⟨21, .phase⟩, ⟨22, .phase⟩, ⟨23, .phase⟩, ⟨24, .phase⟩, ⟨25, .phase⟩, ⟨26, .phase⟩, ⟨27, .phase⟩, ⟨28, .phase⟩, ⟨29, .phase⟩, ⟨30, .phase⟩, ⟨31, .phase⟩, ⟨32, .phase⟩, ⟨33, .phase⟩, ⟨34, .phase⟩, ⟨35, .phase⟩, ⟨36, .phase⟩, ⟨37, .phase⟩, ⟨38, .phase⟩, ⟨39, .phase⟩, ⟨40, .phase⟩, ⟨41, .phase⟩, ⟨42, .phase⟩, ⟨43, .phase⟩, ⟨44, .phase⟩], none⟩ ?v45z39 hHeld ?y45z39 ?r45z39
                  case y45z39 => (intro w hSw; (try dsimp only at hSw); go_simp) <;> with_reducible rfl
                  try simp only [Act.put, List.setIfInBounds_toArray, List.set_cons_zero, List.set_cons_succ]
                  refine wpAnyH_done (by kernel_rfl) ?_ _
                  have HR : Hid (canB size ⟨e, t, c, tr, li, lk⟩ = true) := by
                    show canB _ _ = _
                    simp only [canB, HN.out, f1.out, f4.out, ← HE.out, ← HT.out, ← HC.out, f6.out, ← HX.out, ← HY.out, Bool.true_and]
                  have HW : Hid (Below w.heap.size w (V.drew.alloc (.cells #[.slice tp tr.length tc, .slice lp li.length lc] 37))) := (bA.trans (bA2.mono bA.size))
                  clear hHeld hcells bD bA k1 k2 k3 hLC
                  go_wp2
                  go_ret
                  rw [HR.out]
                  exact ⟨rfl, HW.out⟩
                | false =>
                  refine hK.out _ _ ?_ (fun _ => ?_)
                  · exact hHeld
                  clear hK K
                  try simp only [Act.put, List.setIfInBounds_toArray, List.set_cons_zero, List.set_cons_succ]
                  refine tkY 44 ⟨some 49, .pick (.tmp 44) (.tmp 48) (.const (.bool false)), 4, "record.go:18", #[⟨39, .data⟩, ⟨43, .data⟩], none⟩ ?v44z40 hHeld ?y44z40 ?r44z40
                  case y44z40 => (intro w hSw; (try dsimp only at hSw); go_simp) <;> with_reducible rfl
                  try simp only [Act.put, List.setIfInBounds_toArray, List.set_cons_zero, List.set_cons_succ]
                  refine tkY 45 ⟨some 4, .assign (.tmp 49), 4, "record.go:18", #[⟨44, .data⟩, ⟨43, .chain⟩, ⟨0, .phase⟩, ⟨1, .phase⟩, ⟨2, .phase⟩, ⟨3, .phase⟩, ⟨4, .phase⟩, ⟨5, .phase⟩, ⟨6, .phase⟩, ⟨7, .phase⟩, ⟨8, .phase⟩, ⟨9, .phase⟩, ⟨10, .phase⟩, ⟨11, .phase⟩, ⟨12, .phase⟩, ⟨13, .phase⟩, ⟨14, .phase⟩, ⟨15, .phase⟩, ⟨16, .phase⟩, ⟨17, .phase⟩, ⟨18, .phase⟩, ⟨19, .phase⟩, ⟨20, .phase⟩, ⟨21, .phase⟩, ⟨22, .phase⟩, ⟨23, .phase⟩, ⟨24, .phase⟩, ⟨25, .phase⟩, ⟨26, .phase⟩, ⟨27, .phase⟩, ⟨28, .phase⟩, ⟨29, .phase⟩, ⟨30, .phase⟩, ⟨31, .phase⟩, ⟨32, .phase⟩, ⟨33, .phase⟩, ⟨34, .phase⟩, ⟨35, .phase⟩, ⟨36, .phase⟩, ⟨37, .phase⟩, ⟨38, .phase⟩, ⟨39, .phase⟩, ⟨40, .phase⟩, ⟨41, .phase⟩, ⟨42, .phase⟩, ⟨43, .phase⟩, ⟨44, .phase⟩], none⟩ ?v45z41 hHeld ?y45z41 ?r45z41
                  case y45z41 => (intro w hSw; (try dsimp only at hSw); go_simp) <;> with_reducible rfl
                  try simp only [Act.put, List.setIfInBounds_toArray, List.set_cons_zero, List.set_cons_succ]
                  refine wpAnyH_done (by kernel_rfl) ?_ _
                  have HR : Hid (canB size ⟨e, t, c, tr, li, lk⟩ = false) := by
                    show canB _ _ = _
                    simp only [canB, HN.out, f1.out, f4.out, ← HE.out, ← HT.out, ← HC.out, f6.out, ← HX.out, ← HY.out, Bool.true_and]
                  have HW : Hid (Below w.heap.size w (V.drew.alloc (.cells #[.slice tp tr.length tc, .slice lp li.length lc] 37))) := (bA.trans (bA2.mono bA.size))
                  clear hHeld hcells bD bA k1 k2 k3 hLC
                  go_wp2
                  go_ret
                  rw [HR.out]
                  exact ⟨rfl, HW.out⟩
              | false =>
                refine hK.out _ _ ?_ (fun _ => ?_)
                · exact hHeld
                clear hK K
                try simp only [Act.put, List.setIfInBounds_toArray, List.set_cons_zero, List.set_cons_succ]
                refine tkY 38 ⟨some 43, .pick (.tmp 35) (.tmp 42) (.const (.bool false)), 4, "record.go:18", #[⟨30, .data⟩, ⟨37, .data⟩], none⟩ ?v38z42 hHeld ?y38z42 ?r38z42
                case y38z42 => (intro w hSw; (try dsimp only at hSw); go_simp) <;> with_reducible rfl
                try simp only [Act.put, List.setIfInBounds_toArray, List.set_cons_zero, List.set_cons_succ]
                refine tkY 39 ⟨some 44, .move (.tmp 43), 4, "record.go:18", #[⟨38, .data⟩, ⟨37, .chain⟩], none⟩ ?v39z43 hHeld ?y39z43 ?r39z43
                case y39z43 => (intro w hSw; (try dsimp only at hSw); go_simp) <;> with_reducible rfl
                try simp only [Act.put, List.setIfInBounds_toArray, List.set_cons_zero, List.set_cons_succ]
                refine tkN 40 ⟨some 45, .move (.tmp 0), 3, "record.go:18", #[⟨39, .guard⟩], some (39, true)⟩ hHeld ?_
                try simp only [Act.put, List.setIfInBounds_toArray, List.set_cons_zero, List.set_cons_succ]
                refine tkN 41 ⟨some 46, .fieldAddr 40 (.tmp 3) 5, 0, "record.go:18", #[⟨39, .guard⟩], some (39, true)⟩ hHeld ?_
                try simp only [Act.put, List.setIfInBounds_toArray, List.set_cons_zero, List.set_cons_succ]
                refine tkN 42 ⟨some 47, .load 38 (.tmp 46), 38, "record.go:18", #[⟨41, .data⟩, ⟨39, .guard⟩], some (39, true)⟩ hHeld ?_
                try simp only [Act.put, List.setIfInBounds_toArray, List.set_cons_zero, List.set_cons_succ]
                refine tkN 43 ⟨some 48, .call { callee := .value (.func 147), args := #[.tmp 45, .tmp 47], argTypes := #[3, 38] }, 4, "record.go:20", #[⟨40, .data⟩, ⟨42, .data⟩, ⟨39, .chain⟩, ⟨39, .guard⟩], some (39, true)⟩ hHeld ?_
                try simp only [Act.put, List.setIfInBounds_toArray, List.set_cons_zero, List.set_cons_succ]
                refine tkY 44 ⟨some 49, .pick (.tmp 44) (.tmp 48) (.const (.bool false)), 4, "record.go:18", #[⟨39, .data⟩, ⟨43, .data⟩], none⟩ ?v44z44 hHeld ?y44z44 ?r44z44
                case y44z44 => (intro w hSw; (try dsimp only at hSw); go_simp) <;> with_reducible rfl
                try simp only [Act.put, List.setIfInBounds_toArray, List.set_cons_zero, List.set_cons_succ]
                refine tkY 45 ⟨some 4, .assign (.tmp 49), 4, "record.go:18", #[⟨44, .data⟩, ⟨43, .chain⟩, ⟨0, .phase⟩, ⟨1, .phase⟩, ⟨2, .phase⟩, ⟨3, .phase⟩, ⟨4, .phase⟩, ⟨5, .phase⟩, ⟨6, .phase⟩, ⟨7, .phase⟩, ⟨8, .phase⟩, ⟨9, .phase⟩, ⟨10, .phase⟩, ⟨11, .phase⟩, ⟨12, .phase⟩, ⟨13, .phase⟩, ⟨14, .phase⟩, ⟨15, .phase⟩, ⟨16, .phase⟩, ⟨17, .phase⟩, ⟨18, .phase⟩, ⟨19, .phase⟩, ⟨20, .phase⟩, ⟨21, .phase⟩, ⟨22, .phase⟩, ⟨23, .phase⟩, ⟨24, .phase⟩, ⟨25, .phase⟩, ⟨26, .phase⟩, ⟨27, .phase⟩, ⟨28, .phase⟩, ⟨29, .phase⟩, ⟨30, .phase⟩, ⟨31, .phase⟩, ⟨32, .phase⟩, ⟨33, .phase⟩, ⟨34, .phase⟩, ⟨35, .phase⟩, ⟨36, .phase⟩, ⟨37, .phase⟩, ⟨38, .phase⟩, ⟨39, .phase⟩, ⟨40, .phase⟩, ⟨41, .phase⟩, ⟨42, .phase⟩, ⟨43, .phase⟩, ⟨44, .phase⟩], none⟩ ?v45z45 hHeld ?y45z45 ?r45z45
                case y45z45 => (intro w hSw; (try dsimp only at hSw); go_simp) <;> with_reducible rfl
                try simp only [Act.put, List.setIfInBounds_toArray, List.set_cons_zero, List.set_cons_succ]
                refine wpAnyH_done (by kernel_rfl) ?_ _
                have HR : Hid (canB size ⟨e, t, c, tr, li, lk⟩ = false) := by
                  show canB _ _ = _
                  simp only [canB, HN.out, f1.out, f4.out, ← HE.out, ← HT.out, ← HC.out, f6.out, ← HX.out, Bool.true_and, Bool.false_and]
                have HW : Hid (Below w.heap.size w (V.drew.alloc (.cells #[.slice tp tr.length tc, .slice lp li.length lc] 37))) := (bA.trans (bA2.mono bA.size))
                clear hHeld hcells bD bA k1 k2 k3 hLC
                go_wp2
                go_ret
                rw [HR.out]
                exact ⟨rfl, HW.out⟩
            · have n6 : ((lk.length : Int) == (N : Int)) = false := by simp; omega
              have n6c : (lk.length == N) = false := by simp; omega
              have f6 : Hid (decide (lk.length = N) = false) := by simpa [Hid] using hc28
              clear hc28
              refine tkY 28 ⟨some 33, .binOp .eql 3 (.tmp 29) (.tmp 32) 3, 4, "record.go:18", #[⟨24, .data⟩, ⟨27, .data⟩, ⟨21, .guard⟩], some (21, true)⟩ ?v28z46 hHeld ?y28z46 ?r28z46
              case y28z46 => (intro w hSw; (try dsimp only at hSw); go_simp) <;> with_reducible rfl
              try simp only [Act.put, List.setIfInBounds_toArray, List.set_cons_zero, List.set_cons_succ]
              refine tkY 29 ⟨some 34, .pick (.tmp 26) (.tmp 33) (.const (.bool false)), 4, "record.go:18", #[⟨21, .data⟩, ⟨28, .data⟩], none⟩ ?v29z47 hHeld ?y29z47 ?r29z47
              case y29z47 => (intro w hSw; (try dsimp only at hSw); go_simp) <;> with_reducible rfl
              try simp only [Act.put, List.setIfInBounds_toArray, List.set_cons_zero, List.set_cons_succ]
              refine tkY 30 ⟨some 35, .move (.tmp 34), 4, "record.go:18", #[⟨29, .data⟩, ⟨27, .chain⟩], none⟩ ?v30z48 hHeld ?y30z48 ?r30z48
              case y30z48 => (intro w hSw; (try dsimp only at hSw); go_simp) <;> with_reducible rfl
              try simp only [Act.put, List.setIfInBounds_toArray, List.set_cons_zero, List.set_cons_succ]
              refine tkN 31 ⟨some 36, .move (.tmp 0), 3, "record.go:18", #[⟨30, .guard⟩], some (30, true)⟩ hHeld ?_
              try simp only [Act.put, List.setIfInBounds_toArray, List.set_cons_zero, List.set_cons_succ]
              refine tkN 32 ⟨some 37, .fieldAddr 40 (.tmp 3) 2, 0, "record.go:18", #[⟨30, .guard⟩], some (30, true)⟩ hHeld ?_
              try simp only [Act.put, List.setIfInBounds_toArray, List.set_cons_zero, List.set_cons_succ]
              refine tkN 33 ⟨some 38, .load 37 (.tmp 37), 37, "record.go:18", #[⟨32, .data⟩, ⟨30, .guard⟩], some (30, true)⟩ hHeld ?_
              try simp only [Act.put, List.setIfInBounds_toArray, List.set_cons_zero, List.set_cons_succ]
              refine tkN 34 ⟨some 39, .fieldAddr 40 (.tmp 3) 4, 0, "record.go:18", #[⟨30, .guard⟩], some (30, true)⟩ hHeld ?_
              try simp only [Act.put, List.setIfInBounds_toArray, List.set_cons_zero, List.set_cons_succ]
              refine tkN 35 ⟨some 40, .load 37 (.tmp 39), 37, "record.go:18", #[⟨34, .data⟩, ⟨30, .guard⟩], some (30, true)⟩ hHeld ?_
              try simp only [Act.put, List.setIfInBounds_toArray, List.set_cons_zero, List.set_cons_succ]
              refine tkN 36 ⟨some 41, .buildSlice 38 2 #[(0, .tmp 38), (1, .tmp 40)], 38, "record.go:18", #[⟨33, .data⟩, ⟨35, .data⟩, ⟨30, .guard⟩], some (30, true)⟩ hHeld ?_
              try simp only [Act.put, List.setIfInBounds_toArray, List.set_cons_zero, List.set_cons_succ]
              refine tkN 37 ⟨some 42, .call { callee := .value (.func 147), args := #[.tmp 36, .tmp 41], argTypes := #[3, 38] }, 4, "record.go:20", #[⟨31, .data⟩, ⟨36, .data⟩, ⟨30, .chain⟩, ⟨30, .guard⟩], some (30, true)⟩ hHeld ?_
              try simp only [Act.put, List.setIfInBounds_toArray, List.set_cons_zero, List.set_cons_succ]
              refine tkY 38 ⟨some 43, .pick (.tmp 35) (.tmp 42) (.const (.bool false)), 4, "record.go:18", #[⟨30, .data⟩, ⟨37, .data⟩], none⟩ ?v38z49 hHeld ?y38z49 ?r38z49
              case y38z49 => (intro w hSw; (try dsimp only at hSw); go_simp) <;> with_reducible rfl
              try simp only [Act.put, List.setIfInBounds_toArray, List.set_cons_zero, List.set_cons_succ]
              refine tkY 39 ⟨some 44, .move (.tmp 43), 4, "record.go:18", #[⟨38, .data⟩, ⟨37, .chain⟩], none⟩ ?v39z50 hHeld ?y39z50 ?r39z50
              case y39z50 => (intro w hSw; (try dsimp only at hSw); go_simp) <;> with_reducible rfl
              try simp only [Act.put, List.setIfInBounds_toArray, List.set_cons_zero, List.set_cons_succ]
              refine tkN 40 ⟨some 45, .move (.tmp 0), 3, "record.go:18", #[⟨39, .guard⟩], some (39, true)⟩ hHeld ?_
              try simp only [Act.put, List.setIfInBounds_toArray, List.set_cons_zero, List.set_cons_succ]
              refine tkN 41 ⟨some 46, .fieldAddr 40 (.tmp 3) 5, 0, "record.go:18", #[⟨39, .guard⟩], some (39, true)⟩ hHeld ?_
              try simp only [Act.put, List.setIfInBounds_toArray, List.set_cons_zero, List.set_cons_succ]
              refine tkN 42 ⟨some 47, .load 38 (.tmp 46), 38, "record.go:18", #[⟨41, .data⟩, ⟨39, .guard⟩], some (39, true)⟩ hHeld ?_
              try simp only [Act.put, List.setIfInBounds_toArray, List.set_cons_zero, List.set_cons_succ]
              refine tkN 43 ⟨some 48, .call { callee := .value (.func 147), args := #[.tmp 45, .tmp 47], argTypes := #[3, 38] }, 4, "record.go:20", #[⟨40, .data⟩, ⟨42, .data⟩, ⟨39, .chain⟩, ⟨39, .guard⟩], some (39, true)⟩ hHeld ?_
              try simp only [Act.put, List.setIfInBounds_toArray, List.set_cons_zero, List.set_cons_succ]
              refine tkY 44 ⟨some 49, .pick (.tmp 44) (.tmp 48) (.const (.bool false)), 4, "record.go:18", #[⟨39, .data⟩, ⟨43, .data⟩], none⟩ ?v44z51 hHeld ?y44z51 ?r44z51
              case y44z51 => (intro w hSw; (try dsimp only at hSw); go_simp) <;> with_reducible rfl
              try simp only [Act.put, List.setIfInBounds_toArray, List.set_cons_zero, List.set_cons_succ]
              refine tkY 45 ⟨some 4, .assign (.tmp 49), 4, "record.go:18", #[⟨44, .data⟩, ⟨43, .chain⟩, ⟨0, .phase⟩, ⟨1, .phase⟩, ⟨2, .phase⟩, ⟨3, .phase⟩, ⟨4, .phase⟩, ⟨5, .phase⟩, ⟨6, .phase⟩, ⟨7, .phase⟩, ⟨8, .phase⟩, ⟨9, .phase⟩, ⟨10, .phase⟩, ⟨11, .phase⟩, ⟨12, .phase⟩, ⟨13, .phase⟩, ⟨14, .phase⟩, ⟨15, .phase⟩, ⟨16, .phase⟩, ⟨17, .phase⟩, ⟨18, .phase⟩, ⟨19, .phase⟩, ⟨20, .phase⟩, ⟨21, .phase⟩, ⟨22, .phase⟩, ⟨23, .phase⟩, ⟨24, .phase⟩, ⟨25, .phase⟩, ⟨26, .phase⟩, ⟨27, .phase⟩, ⟨28, .phase⟩, ⟨29, .phase⟩, ⟨30, .phase⟩, ⟨31, .phase⟩, ⟨32, .phase⟩, ⟨33, .phase⟩, ⟨34, .phase⟩, ⟨35, .phase⟩, ⟨36, .phase⟩, ⟨37, .phase⟩, ⟨38, .phase⟩, ⟨39, .phase⟩, ⟨40, .phase⟩, ⟨41, .phase⟩, ⟨42, .phase⟩, ⟨43, .phase⟩, ⟨44, .phase⟩], none⟩ ?v45z52 hHeld ?y45z52 ?r45z52
              case y45z52 => (intro w hSw; (try dsimp only at hSw); go_simp) <;> with_reducible rfl
              try simp only [Act.put, List.setIfInBounds_toArray, List.set_cons_zero, List.set_cons_succ]
              refine wpAnyH_done (by kernel_rfl) ?_ _
              have HR : Hid (canB size ⟨e, t, c, tr, li, lk⟩ = false) := by
                show canB _ _ = _
                simp only [canB, HN.out, f1.out, f4.out, ← HE.out, ← HT.out, ← HC.out, f6.out, Bool.true_and, Bool.false_and]
              have HW : Hid (Below w.heap.size w V.drew) := (bA.trans (bD.mono bA.size))
              clear hHeld hcells bD bA k1 k2 k3 hLC
              go_wp2
              go_ret
              rw [HR.out]
              exact ⟨rfl, HW.out⟩
          | false =>
            refine hK.out _ _ ?_ (fun _ => ?_)
            · exact hHeld
            clear hK K
            try simp only [Act.put, List.setIfInBounds_toArray, List.set_cons_zero, List.set_cons_succ]
            refine tkY 20 ⟨some 25, .pick (.tmp 21) (.tmp 24) (.const (.bool false)), 4, "record.go:18", #[⟨16, .data⟩, ⟨19, .data⟩], none⟩ ?v20z53 hHeld ?y20z53 ?r20z53
            case y20z53 => (intro w hSw; (try dsimp only at hSw); go_simp) <;> with_reducible rfl
            try simp only [Act.put, List.setIfInBounds_toArray, List.set_cons_zero, List.set_cons_succ]
            refine tkY 21 ⟨some 26, .move (.tmp 25), 4, "record.go:18", #[⟨20, .data⟩, ⟨19, .chain⟩], none⟩ ?v21z54 hHeld ?y21z54 ?r21z54
            case y21z54 => (intro w hSw; (try dsimp only at hSw); go_simp) <;> with_reducible rfl
            try simp only [Act.put, List.setIfInBounds_toArray, List.set_cons_zero, List.set_cons_succ]
            refine tkN 22 ⟨some 27, .fieldAddr 40 (.tmp 3) 5, 0, "record.go:18", #[⟨21, .guard⟩], some (21, true)⟩ hHeld ?_
            try simp only [Act.put, List.setIfInBounds_toArray, List.set_cons_zero, List.set_cons_succ]
            refine tkN 23 ⟨some 28, .load 38 (.tmp 27), 38, "record.go:18", #[⟨22, .data⟩, ⟨21, .guard⟩], some (21, true)⟩ hHeld ?_
            try simp only [Act.put, List.setIfInBounds_toArray, List.set_cons_zero, List.set_cons_succ]
            refine tkN 24 ⟨some 29, .call { callee := .builtin .len, args := #[.tmp 28], argTypes := #[38] }, 3, "record.go:18", #[⟨23, .data⟩, ⟨21, .guard⟩], some (21, true)⟩ hHeld ?_
            try simp only [Act.put, List.setIfInBounds_toArray, List.set_cons_zero, List.set_cons_succ]
            refine tkN 25 ⟨some 30, .fieldAddr 40 (.tmp 3) 0, 0, "record.go:18", #[⟨21, .guard⟩], some (21, true)⟩ hHeld ?_
            try simp only [Act.put, List.setIfInBounds_toArray, List.set_cons_zero, List.set_cons_succ]
            refine tkN 26 ⟨some 31, .load 3 (.tmp 30), 3, "record.go:18", #[⟨25, .data⟩, ⟨21, .guard⟩], some (21, true)⟩ hHeld ?_
            try simp only [Act.put, List.setIfInBounds_toArray, List.set_cons_zero, List.set_cons_succ]
            refine tkN 27 ⟨some 32, .call { callee := .value (.func 146), args := #[.tmp 31], argTypes := #[3] }, 3, "record.go:20", #[⟨26, .data⟩, ⟨21, .chain⟩, ⟨21, .guard⟩], some (21, true)⟩ hHeld ?_
            try simp only [Act.put, List.setIfInBounds_toArray, List.set_cons_zero, List.set_cons_succ]
            refine tkN 28 ⟨some 33, .binOp .eql 3 (.tmp 29) (.tmp 32) 3, 4, "record.go:18", #[⟨24, .data⟩, ⟨27, .data⟩, ⟨21, .guard⟩], some (21, true)⟩ hHeld ?_
            try simp only [Act.put, List.setIfInBounds_toArray, List.set_cons_zero, List.set_cons_succ]
            refine tkY 29 ⟨some 34, .pick (.tmp 26) (.tmp 33) (.const (.bool false)), 4, "record.go:18", #[⟨21, .data⟩, ⟨28, .data⟩], none⟩ ?v29z55 hHeld ?y29z55 ?r29z55
            case y29z55 => (intro w hSw; (try dsimp only at hSw); go_simp) <;> with_reducible rfl
            try simp only [Act.put, List.setIfInBounds_toArray, List.set_cons_zero, List.set_cons_succ]
            refine tkY 30 ⟨some 35, .move (.tmp 34), 4, "record.go:18", #[⟨29, .data⟩, ⟨27, .chain⟩], none⟩ ?v30z56 hHeld ?y30z56 ?r30z56
            case y30z56 => (intro w hSw; (try dsimp only at hSw); go_simp) <;> with_reducible rfl
            try simp only [Act.put, List.setIfInBounds_toArray, List.set_cons_zero, List.set_cons_succ]
            refine tkN 31 ⟨some 36, .move (.tmp 0), 3, "record.go:18", #[⟨30, .guard⟩], some (30, true)⟩ hHeld ?_
            try simp only [Act.put, List.setIfInBounds_toArray, List.set_cons_zero, List.set_cons_succ]
            refine tkN 32 ⟨some 37, .fieldAddr 40 (.tmp 3) 2, 0, "record.go:18", #[⟨30, .guard⟩], some (30, true)⟩ hHeld ?_
            try simp only [Act.put, List.setIfInBounds_toArray, List.set_cons_zero, List.set_cons_succ]
            refine tkN 33 ⟨some 38, .load 37 (.tmp 37), 37, "record.go:18", #[⟨32, .data⟩, ⟨30, .guard⟩], some (30, true)⟩ hHeld ?_
            try simp only [Act.put, List.setIfInBounds_toArray, List.set_cons_zero, List.set_cons_succ]
            refine tkN 34 ⟨some 39, .fieldAddr 40 (.tmp 3) 4, 0, "record.go:18", #[⟨30, .guard⟩], some (30, true)⟩ hHeld ?_
            try simp only [Act.put, List.setIfInBounds_toArray, List.set_cons_zero, List.set_cons_succ]
            refine tkN 35 ⟨some 40, .load 37 (.tmp 39), 37, "record.go:18", #[⟨34, .data⟩, ⟨30, .guard⟩], some (30, true)⟩ hHeld ?_
            try simp only [Act.put, List.setIfInBounds_toArray, List.set_cons_zero, List.set_cons_succ]
            refine tkN 36 ⟨some 41, .buildSlice 38 2 #[(0, .tmp 38), (1, .tmp 40)], 38, "record.go:18", #[⟨33, .data⟩, ⟨35, .data⟩, ⟨30, .guard⟩], some (30, true)⟩ hHeld ?_
            try simp only [Act.put, List.setIfInBounds_toArray, List.set_cons_zero, List.set_cons_succ]
            refine tkN 37 ⟨some 42, .call { callee := .value (.func 147), args := #[.tmp 36, .tmp 41], argTypes := #[3, 38] }, 4, "record.go:20", #[⟨31, .data⟩, ⟨36, .data⟩, ⟨30, .chain⟩, ⟨30, .guard⟩], some (30, true)⟩ hHeld ?_
            try simp only [Act.put, List.setIfInBounds_toArray, List.set_cons_zero, List.set_cons_succ]
            refine tkY 38 ⟨some 43, .pick (.tmp 35) (.tmp 42) (.const (.bool false)), 4, "record.go:18", #[⟨30, .data⟩, ⟨37, .data⟩], none⟩ ?v38z57 hHeld ?y38z57 ?r38z57
            case y38z57 => (intro w hSw; (try dsimp only at hSw); go_simp) <;> with_reducible rfl
            try simp only [Act.put, List.setIfInBounds_toArray, List.set_cons_zero, List.set_cons_succ]
            refine tkY 39 ⟨some 44, .move (.tmp 43), 4, "record.go:18", #[⟨38, .data⟩, ⟨37, .chain⟩], none⟩ ?v39z58 hHeld ?y39z58 ?r39z58
            case y39z58 => (intro w hSw; (try dsimp only at hSw); go_simp) <;> with_reducible rfl
            try simp only [Act.put, List.setIfInBounds_toArray, List.set_cons_zero, List.set_cons_succ]
            refine tkN 40 ⟨some 45, .move (.tmp 0), 3, "record.go:18", #[⟨39, .guard⟩], some (39, true)⟩ hHeld ?_
            try simp only [Act.put, List.setIfInBounds_toArray, List.set_cons_zero, List.set_cons_succ]
            refine tkN 41 ⟨some 46, .fieldAddr 40 (.tmp 3) 5, 0, "record.go:18", #[⟨39, .guard⟩], some (39, true)⟩ hHeld ?_
            try simp only [Act.put, List.setIfInBounds_toArray, List.set_cons_zero, List.set_cons_succ]
            refine tkN 42 ⟨some 47, .load 38 (.tmp 46), 38, "record.go:18", #[⟨41, .data⟩, ⟨39, .guard⟩], some (39, true)⟩ hHeld ?_
            try simp only [Act.put, List.setIfInBounds_toArray, List.set_cons_zero, List.set_cons_succ]
            refine tkN 43 ⟨some 48, .call { callee := .value (.func 147), args := #[.tmp 45, .tmp 47], argTypes := #[3, 38] }, 4, "record.go:20", #[⟨40, .data⟩, ⟨42, .data⟩, ⟨39, .chain⟩, ⟨39, .guard⟩], some (39, true)⟩ hHeld ?_
            try simp only [Act.put, List.setIfInBounds_toArray, List.set_cons_zero, List.set_cons_succ]
            refine tkY 44 ⟨some 49, .pick (.tmp 44) (.tmp 48) (.const (.bool false)), 4, "record.go:18", #[⟨39, .data⟩, ⟨43, .data⟩], none⟩ ?v44z59 hHeld ?y44z59 ?r44z59
            case y44z59 => (intro w hSw; (try dsimp only at hSw); go_simp) <;> with_reducible rfl
            try simp only [Act.put, List.setIfInBounds_toArray, List.set_cons_zero, List.set_cons_succ]
            refine tkY 45 ⟨some 4, .assign (.tmp 49), 4, "record.go:18", #[⟨44, .data⟩, ⟨43, .chain⟩, ⟨0, .phase⟩, ⟨1, .phase⟩, ⟨2, .phase⟩, ⟨3, .phase⟩, ⟨4, .phase⟩, ⟨5, .phase⟩, ⟨6, .phase⟩, ⟨7, .phase⟩, ⟨8, .phase⟩, ⟨9, .phase⟩, ⟨10, .phase⟩, ⟨11, .phase⟩, ⟨12, .phase⟩, ⟨13, .phase⟩, ⟨14, .phase⟩, ⟨15, .phase⟩, ⟨16, .phase⟩, ⟨17, .phase⟩, ⟨18, .phase⟩, ⟨19, .phase⟩, ⟨20, .phase⟩, ⟨21, .phase⟩, ⟨22, .phase⟩, ⟨23, .phase⟩, ⟨24, .phase⟩, ⟨25, .phase⟩, ⟨26, .phase⟩, ⟨27, .phase⟩, ⟨28, .phase⟩, ⟨29, .phase⟩, ⟨30, .phase⟩, ⟨31, .phase⟩, ⟨32, .phase⟩, ⟨33, .phase⟩, ⟨34, .phase⟩, ⟨35, .phase⟩, ⟨36, .phase⟩, ⟨37, .phase⟩, ⟨38, .phase⟩, ⟨39, .phase⟩, ⟨40, .phase⟩, ⟨41, .phase⟩, ⟨42, .phase⟩, ⟨43, .phase⟩, ⟨44, .phase⟩], none⟩ ?v45z60 hHeld ?y45z60 ?r45z60
            case y45z60 => (intro w hSw; (try dsimp only at hSw); go_simp) <;> with_reducible rfl
            try simp only [Act.put, List.setIfInBounds_toArray, List.set_cons_zero, List.set_cons_succ]
            refine wpAnyH_done (by kernel_rfl) ?_ _
            have HR : Hid (canB size ⟨e, t, c, tr, li, lk⟩ = false) := by
              show canB _ _ = _
              simp only [canB, HN.out, f1.out, f4.out, ← HE.out, ← HT.out, ← HC.out, Bool.true_and, Bool.false_and]
            have HW : Hid (Below w.heap.size w V.drew) := (bA.trans (bD.mono bA.size))
            clear hHeld hcells bD bA k1 k2 k3 hLC
            go_wp2
            go_ret
            rw [HR.out]
            exact ⟨rfl, HW.out⟩
        | false =>
          refine hK.out _ _ ?_ (fun _ => ?_)
          · exact hHeld
          clear hK K
          try simp only [Act.put, List.setIfInBounds_toArray, List.set_cons_zero, List.set_cons_succ]
          refine tkY 15 ⟨some 20, .pick (.tmp 16) (.tmp 19) (.const (.bool false)), 4, "record.go:18", #[⟨11, .data⟩, ⟨14, .data⟩], none⟩ ?v15z61 hHeld ?y15z61 ?r15z61
          case y15z61 => (intro w hSw; (try dsimp only at hSw); go_simp) <;> with_reducible rfl
          try simp only [Act.put, List.setIfInBounds_toArray, List.set_cons_zero, List.set_cons_succ]
          refine tkY 16 ⟨some 21, .move (.tmp 20), 4, "record.go:18", #[⟨15, .data⟩, ⟨14, .chain⟩], none⟩ ?v16z62 hHeld ?y16z62 ?r16z62
          case y16z62 => (intro w hSw; (try dsimp only at hSw); go_simp) <;> with_reducible rfl
          try simp only [Act.put, List.setIfInBounds_toArray, List.set_cons_zero, List.set_cons_succ]
          refine tkN 17 ⟨some 22, .fieldAddr 40 (.tmp 3) 3, 0, "record.go:18", #[⟨16, .guard⟩], some (16, true)⟩ hHeld ?_
          try simp only [Act.put, List.setIfInBounds_toArray, List.set_cons_zero, List.set_cons_succ]
          refine tkN 18 ⟨some 23, .load 3 (.tmp 22), 3, "record.go:18", #[⟨17, .data⟩, ⟨16, .guard⟩], some (16, true)⟩ hHeld ?_
          try simp only [Act.put, List.setIfInBounds_toArray, List.set_cons_zero, List.set_cons_succ]
          refine tkN 19 ⟨some 24, .call { callee := .value (.func 145), args := #[.tmp 23, .const (.int .i64 32)], argTypes := #[3, 3] }, 4, "record.go:19", #[⟨18, .data⟩, ⟨16, .chain⟩, ⟨16, .guard⟩], some (16, true)⟩ hHeld ?_
          try simp only [Act.put, List.setIfInBounds_toArray, List.set_cons_zero, List.set_cons_succ]
          refine tkY 20 ⟨some 25, .pick (.tmp 21) (.tmp 24) (.const (.bool false)), 4, "record.go:18", #[⟨16, .data⟩, ⟨19, .data⟩], none⟩ ?v20z63 hHeld ?y20z63 ?r20z63
          case y20z63 => (intro w hSw; (try dsimp only at hSw); go_simp) <;> with_reducible rfl
          try simp only [Act.put, List.setIfInBounds_toArray, List.set_cons_zero, List.set_cons_succ]
          refine tkY 21 ⟨some 26, .move (.tmp 25), 4, "record.go:18", #[⟨20, .data⟩, ⟨19, .chain⟩], none⟩ ?v21z64 hHeld ?y21z64 ?r21z64
          case y21z64 => (intro w hSw; (try dsimp only at hSw); go_simp) <;> with_reducible rfl
          try simp only [Act.put, List.setIfInBounds_toArray, List.set_cons_zero, List.set_cons_succ]
          refine tkN 22 ⟨some 27, .fieldAddr 40 (.tmp 3) 5, 0, "record.go:18", #[⟨21, .guard⟩], some (21, true)⟩ hHeld ?_
          try simp only [Act.put, List.setIfInBounds_toArray, List.set_cons_zero, List.set_cons_succ]
          refine tkN 23 ⟨some 28, .load 38 (.tmp 27), 38, "record.go:18", #[⟨22, .data⟩, ⟨21, .guard⟩], some (21, true)⟩ hHeld ?_
          try simp only [Act.put, List.setIfInBounds_toArray, List.set_cons_zero, List.set_cons_succ]
          refine tkN 24 ⟨some 29, .call { callee := .builtin .len, args := #[.tmp 28], argTypes := #[38] }, 3, "record.go:18", #[⟨23, .data⟩, ⟨21, .guard⟩], some (21, true)⟩ hHeld ?_
          try simp only [Act.put, List.setIfInBounds_toArray, List.set_cons_zero, List.set_cons_succ]
          refine tkN 25 ⟨some 30, .fieldAddr 40 (.tmp 3) 0, 0, "record.go:18", #[⟨21, .guard⟩], some (21, true)⟩ hHeld ?_
          try simp only [Act.put, List.setIfInBounds_toArray, List.set_cons_zero, List.set_cons_succ]
          refine tkN 26 ⟨some 31, .load 3 (.tmp 30), 3, "record.go:18", #[⟨25, .data⟩, ⟨21, .guard⟩], some (21, true)⟩ hHeld ?_
          try simp only [Act.put, List.setIfInBounds_toArray, List.set_cons_zero, List.set_cons_succ]
          refine tkN 27 ⟨some 32, .call { callee := .value (.func 146), args := #[.tmp 31], argTypes := #[3] }, 3, "record.go:20", #[⟨26, .data⟩, ⟨21, .chain⟩, ⟨21, .guard⟩], some (21, true)⟩ hHeld ?_
          try simp only [Act.put, List.setIfInBounds_toArray, List.set_cons_zero, List.set_cons_succ]
          refine tkN 28 ⟨some 33, .binOp .eql 3 (.tmp 29) (.tmp 32) 3, 4, "record.go:18", #[⟨24, .data⟩, ⟨27, .data⟩, ⟨21, .guard⟩], some (21, true)⟩ hHeld ?_
          try simp only [Act.put, List.setIfInBounds_toArray, List.set_cons_zero, List.set_cons_succ]
          refine tkY 29 ⟨some 34, .pick (.tmp 26) (.tmp 33) (.const (.bool false)), 4, "record.go:18", #[⟨21, .data⟩, ⟨28, .data⟩], none⟩ ?v29z65 hHeld ?y29z65 ?r29z65
          case y29z65 => (intro w hSw; (try dsimp only at hSw); go_simp) <;> with_reducible rfl
          try simp only [Act.put, List.setIfInBounds_toArray, List.set_cons_zero, List.set_cons_succ]
          refine tkY 30 ⟨some 35, .move (.tmp 34), 4, "record.go:18", #[⟨29, .data⟩, ⟨27, .chain⟩], none⟩ ?v30z66 hHeld ?y30z66 ?r30z66
          case y30z66 => (intro w hSw; (try dsimp only at hSw); go_simp) <;> with_reducible rfl
          try simp only [Act.put, List.setIfInBounds_toArray, List.set_cons_zero, List.set_cons_succ]
          refine tkN 31 ⟨some 36, .move (.tmp 0), 3, "record.go:18", #[⟨30, .guard⟩], some (30, true)⟩ hHeld ?_
          try simp only [Act.put, List.setIfInBounds_toArray, List.set_cons_zero, List.set_cons_succ]
          refine tkN 32 ⟨some 37, .fieldAddr 40 (.tmp 3) 2, 0, "record.go:18", #[⟨30, .guard⟩], some (30, true)⟩ hHeld ?_
          try simp only [Act.put, List.setIfInBounds_toArray, List.set_cons_zero, List.set_cons_succ]
          refine tkN 33 ⟨some 38, .load 37 (.tmp 37), 37, "record.go:18", #[⟨32, .data⟩, ⟨30, .guard⟩], some (30, true)⟩ hHeld ?_
          try simp only [Act.put, List.setIfInBounds_toArray, List.set_cons_zero, List.set_cons_succ]
          refine tkN 34 ⟨some 39, .fieldAddr 40 (.tmp 3) 4, 0, "record.go:18", #[⟨30, .guard⟩], some (30, true)⟩ hHeld ?_
          try simp only [Act.put, List.setIfInBounds_toArray, List.set_cons_zero, List.set_cons_succ]
          refine tkN 35 ⟨some 40, .load 37 (.tmp 39), 37, "record.go:18", #[⟨34, .data⟩, ⟨30, .guard⟩], some (30, true)⟩ hHeld ?_
          try simp only [Act.put, List.setIfInBounds_toArray, List.set_cons_zero, List.set_cons_succ]
          refine tkN 36 ⟨some 41, .buildSlice 38 2 #[(0, .tmp 38), (1, .tmp 40)], 38, "record.go:18", #[⟨33, .data⟩, ⟨35, .data⟩, ⟨30, .guard⟩], some (30, true)⟩ hHeld ?_
          try simp only [Act.put, List.setIfInBounds_toArray, List.set_cons_zero, List.set_cons_succ]
          refine tkN 37 ⟨some 42, .call { callee := .value (.func 147), args := #[.tmp 36, .tmp 41], argTypes := #[3, 38] }, 4, "record.go:20", #[⟨31, .data⟩, ⟨36, .data⟩, ⟨30, .chain⟩, ⟨30, .guard⟩], some (30, true)⟩ hHeld ?_
          try simp only [Act.put, List.setIfInBounds_toArray, List.set_cons_zero, List.set_cons_succ]
          refine tkY 38 ⟨some 43, .pick (.tmp 35) (.tmp 42) (.const (.bool false)), 4, "record.go:18", #[⟨30, .data⟩, ⟨37, .data⟩], none⟩ ?v38z67 hHeld ?y38z67 ?r38z67
          case y38z67 => (intro w hSw; (try dsimp only at hSw); go_simp) <;> with_reducible rfl
          try simp only [Act.put, List.setIfInBounds_toArray, List.set_cons_zero, List.set_cons_succ]
          refine tkY 39 ⟨some 44, .move (.tmp 43), 4, "record.go:18", #[⟨38, .data⟩, ⟨37, .chain⟩], none⟩ ?v39z68 hHeld ?y39z68 ?r39z68
          case y39z68 => (intro w hSw; (try dsimp only at hSw); go_simp) <;> with_reducible rfl
          try simp only [Act.put, List.setIfInBounds_toArray, List.set_cons_zero, List.set_cons_succ]
          refine tkN 40 ⟨some 45, .move (.tmp 0), 3, "record.go:18", #[⟨39, .guard⟩], some (39, true)⟩ hHeld ?_
          try simp only [Act.put, List.setIfInBounds_toArray, List.set_cons_zero, List.set_cons_succ]
          refine tkN 41 ⟨some 46, .fieldAddr 40 (.tmp 3) 5, 0, "record.go:18", #[⟨39, .guard⟩], some (39, true)⟩ hHeld ?_
          try simp only [Act.put, List.setIfInBounds_toArray, List.set_cons_zero, List.set_cons_succ]
          refine tkN 42 ⟨some 47, .load 38 (.tmp 46), 38, "record.go:18", #[⟨41, .data⟩, ⟨39, .guard⟩], some (39, true)⟩ hHeld ?_
          try simp only [Act.put, List.setIfInBounds_toArray, List.set_cons_zero, List.set_cons_succ]
          refine tkN 43 ⟨some 48, .call { callee := .value (.func 147), args := #[.tmp 45, .tmp 47], argTypes := #[3, 38] }, 4, "record.go:20", #[⟨40, .data⟩, ⟨42, .data⟩, ⟨39, .chain⟩, ⟨39, .guard⟩], some (39, true)⟩ hHeld ?_
          try simp only [Act.put, List.setIfInBounds_toArray, List.set_cons_zero, List.set_cons_succ]
          refine tkY 44 ⟨some 49, .pick (.tmp 44) (.tmp 48) (.const (.bool false)), 4, "record.go:18", #[⟨39, .data⟩, ⟨43, .data⟩], none⟩ ?v44z69 hHeld ?y44z69 ?r44z69
          case y44z69 => (intro w hSw; (try dsimp only at hSw); go_simp) <;> with_reducible rfl
          try simp only [Act.put, List.setIfInBounds_toArray, List.set_cons_zero, List.set_cons_succ]
          refine tkY 45 ⟨some 4, .assign (.tmp 49), 4, "record.go:18", #[⟨44, .data⟩, ⟨43, .chain⟩, ⟨0, .phase⟩, ⟨1, .phase⟩, ⟨2, .phase⟩, ⟨3, .phase⟩, ⟨4, .phase⟩, ⟨5, .phase⟩, ⟨6, .phase⟩, ⟨7, .phase⟩, ⟨8, .phase⟩, ⟨9, .phase⟩, ⟨10, .phase⟩, ⟨11, .phase⟩, ⟨12, .phase⟩, ⟨13, .phase⟩, ⟨14, .phase⟩, ⟨15, .phase⟩, ⟨16, .phase⟩, ⟨17, .phase⟩, ⟨18, .phase⟩, ⟨19, .phase⟩, ⟨20, .phase⟩, ⟨21, .phase⟩, ⟨22, .phase⟩, ⟨23, .phase⟩, ⟨24, .phase⟩, ⟨25, .phase⟩, ⟨26, .phase⟩, ⟨27, .phase⟩, ⟨28, .phase⟩, ⟨29, .phase⟩, ⟨30, .phase⟩, ⟨31, .phase⟩, ⟨32, .phase⟩, ⟨33, .phase⟩, ⟨34, .phase⟩, ⟨35, .phase⟩, ⟨36, .phase⟩, ⟨37, .phase⟩, ⟨38, .phase⟩, ⟨39, .phase⟩, ⟨40, .phase⟩, ⟨41, .phase⟩, ⟨42, .phase⟩, ⟨43, .phase⟩, ⟨44, .phase⟩], none⟩ ?v45z70 hHeld ?y45z70 ?r45z70
          case y45z70 => (intro w hSw; (try dsimp only at hSw); go_simp) <;> with_reducible rfl
          try simp only [Act.put, List.setIfInBounds_toArray, List.set_cons_zero, List.set_cons_succ]
          refine wpAnyH_done (by kernel_rfl) ?_ _
          have HR : Hid (canB size ⟨e, t, c, tr, li, lk⟩ = false) := by
            show canB _ _ = _
            simp only [canB, HN.out, f1.out, f4.out, ← HE.out, ← HT.out, Bool.true_and, Bool.false_and]
          have HW : Hid (Below w.heap.size w V.drew) := (bA.trans (bD.mono bA.size))
          clear hHeld hcells bD bA k1 k2 k3 hLC
          go_wp2
          go_ret
          rw [HR.out]
          exact ⟨rfl, HW.out⟩
      | false =>
        refine hK.out _ _ ?_ (fun _ => ?_)
        · exact hHeld
        clear hK K
        try simp only [Act.put, List.setIfInBounds_toArray, List.set_cons_zero, List.set_cons_succ]
        refine tkY 10 ⟨some 15, .pick (.tmp 11) (.tmp 14) (.const (.bool false)), 4, "record.go:18", #[⟨6, .data⟩, ⟨9, .data⟩], none⟩ ?v10z71 hHeld ?y10z71 ?r10z71
        case y10z71 => (intro w hSw; (try dsimp only at hSw); go_simp) <;> with_reducible rfl
        try simp only [Act.put, List.setIfInBounds_toArray, List.set_cons_zero, List.set_cons_succ]
        refine tkY 11 ⟨some 16, .move (.tmp 15), 4, "record.go:18", #[⟨10, .data⟩, ⟨9, .chain⟩], none⟩ ?v11z72 hHeld ?y11z72 ?r11z72
        case y11z72 => (intro w hSw; (try dsimp only at hSw); go_simp) <;> with_reducible rfl
        try simp only [Act.put, List.setIfInBounds_toArray, List.set_cons_zero, List.set_cons_succ]
        refine tkN 12 ⟨some 17, .fieldAddr 40 (.tmp 3) 1, 0, "record.go:18", #[⟨11, .guard⟩], some (11, true)⟩ hHeld ?_
        try simp only [Act.put, List.setIfInBounds_toArray, List.set_cons_zero, List.set_cons_succ]
        refine tkN 13 ⟨some 18, .load 3 (.tmp 17), 3, "record.go:18", #[⟨12, .data⟩, ⟨11, .guard⟩], some (11, true)⟩ hHeld ?_
        try simp only [Act.put, List.setIfInBounds_toArray, List.set_cons_zero, List.set_cons_succ]
        refine tkN 14 ⟨some 19, .call { callee := .value (.func 145), args := #[.tmp 18, .const (.int .i64 1125899906842624)], argTypes := #[3, 3] }, 4, "record.go:19", #[⟨13, .data⟩, ⟨11, .chain⟩, ⟨11, .guard⟩], some (11, true)⟩ hHeld ?_
        try simp only [Act.put, List.setIfInBounds_toArray, List.set_cons_zero, List.set_cons_succ]
        refine tkY 15 ⟨some 20, .pick (.tmp 16) (.tmp 19) (.const (.bool false)), 4, "record.go:18", #[⟨11, .data⟩, ⟨14, .data⟩], none⟩ ?v15z73 hHeld ?y15z73 ?r15z73
        case y15z73 => (intro w hSw; (try dsimp only at hSw); go_simp) <;> with_reducible rfl
        try simp only [Act.put, List.setIfInBounds_toArray, List.set_cons_zero, List.set_cons_succ]
        refine tkY 16 ⟨some 21, .move (.tmp 20), 4, "record.go:18", #[⟨15, .data⟩, ⟨14, .chain⟩], none⟩ ?v16z74 hHeld ?y16z74 ?r16z74
        case y16z74 => (intro w hSw; (try dsimp only at hSw); go_simp) <;> with_reducible rfl
        try simp only [Act.put, List.setIfInBounds_toArray, List.set_cons_zero, List.set_cons_succ]
        refine tkN 17 ⟨some 22, .fieldAddr 40 (.tmp 3) 3, 0, "record.go:18", #[⟨16, .guard⟩], some (16, true)⟩ hHeld ?_
        try simp only [Act.put, List.setIfInBounds_toArray, List.set_cons_zero, List.set_cons_succ]
        refine tkN 18 ⟨some 23, .load 3 (.tmp 22), 3, "record.go:18", #[⟨17, .data⟩, ⟨16, .guard⟩], some (16, true)⟩ hHeld ?_
        try simp only [Act.put, List.setIfInBounds_toArray, List.set_cons_zero, List.set_cons_succ]
        refine tkN 19 ⟨some 24, .call { callee := .value (.func 145), args := #[.tmp 23, .const (.int .i64 32)], argTypes := #[3, 3] }, 4, "record.go:19", #[⟨18, .data⟩, ⟨16, .chain⟩, ⟨16, .guard⟩], some (16, true)⟩ hHeld ?_
        try simp only [Act.put, List.setIfInBounds_toArray, List.set_cons_zero, List.set_cons_succ]
        refine tkY 20 ⟨some 25, .pick (.tmp 21) (.tmp 24) (.const (.bool false)), 4, "record.go:18", #[⟨16, .data⟩, ⟨19, .data⟩], none⟩ ?v20z75 hHeld ?y20z75 ?r20z75
        case y20z75 => (intro w hSw; (try dsimp only at hSw); go_simp) <;> with_reducible rfl
        try simp only [Act.put, List.setIfInBounds_toArray, List.set_cons_zero, List.set_cons_succ]
        refine tkY 21 ⟨some 26, .move (.tmp 25), 4, "record.go:18", #[⟨20, .data⟩, ⟨19, .chain⟩], none⟩ ?v21z76 hHeld ?y21z76 ?r21z76
        case y21z76 => (intro w hSw; (try dsimp only at hSw); go_simp) <;> with_reducible rfl
        try simp only [Act.put, List.setIfInBounds_toArray, List.set_cons_zero, List.set_cons_succ]
        refine tkN 22 ⟨some 27, .fieldAddr 40 (.tmp 3) 5, 0, "record.go:18", #[⟨21, .guard⟩], some (21, true)⟩ hHeld ?_
        try simp only [Act.put, List.setIfInBounds_toArray, List.set_cons_zero, List.set_cons_succ]
        refine tkN 23 ⟨some 28, .load 38 (.tmp 27), 38, "record.go:18", #[⟨22, .data⟩, ⟨21, .guard⟩], some (21, true)⟩ hHeld ?_
        try simp only [Act.put, List.setIfInBounds_toArray, List.set_cons_zero, List.set_cons_succ]
        refine tkN 24 ⟨some 29, .call { callee := .builtin .len, args := #[.tmp 28], argTypes := #[38] }, 3, "record.go:18", #[⟨23, .data⟩, ⟨21, .guard⟩], some (21, true)⟩ hHeld ?_
        try simp only [Act.put, List.setIfInBounds_toArray, List.set_cons_zero, List.set_cons_succ]
        refine tkN 25 ⟨some 30, .fieldAddr 40 (.tmp 3) 0, 0, "record.go:18", #[⟨21, .guard⟩], some (21, true)⟩ hHeld ?_
        try simp only [Act.put, List.setIfInBounds_toArray, List.set_cons_zero, List.set_cons_succ]
        refine tkN 26 ⟨some 31, .load 3 (.tmp 30), 3, "record.go:18", #[⟨25, .data⟩, ⟨21, .guard⟩], some (21, true)⟩ hHeld ?_
        try simp only [Act.put, List.setIfInBounds_toArray, List.set_cons_zero, List.set_cons_succ]
        refine tkN 27 ⟨some 32, .call { callee := .value (.func 146), args := #[.tmp 31], argTypes := #[3] }, 3, "record.go:20", #[⟨26, .data⟩, ⟨21, .chain⟩, ⟨21, .guard⟩], some (21, true)⟩ hHeld ?_
        try simp only [Act.put, List.setIfInBounds_toArray, List.set_cons_zero, List.set_cons_succ]
        refine tkN 28 ⟨some 33, .binOp .eql 3 (.tmp 29) (.tmp 32) 3, 4, "record.go:18", #[⟨24, .data⟩, ⟨27, .data⟩, ⟨21, .guard⟩], some (21, true)⟩ hHeld ?_
        try simp only [Act.put, List.setIfInBounds_toArray, List.set_cons_zero, List.set_cons_succ]
        refine tkY 29 ⟨some 34, .pick (.tmp 26) (.tmp 33) (.const (.bool false)), 4, "record.go:18", #[⟨21, .data⟩, ⟨28, .data⟩], none⟩ ?v29z77 hHeld ?y29z77 ?r29z77
        case y29z77 => (intro w hSw; (try dsimp only at hSw); go_simp) <;> with_reducible rfl
        try simp only [Act.put, List.setIfInBounds_toArray, List.set_cons_zero, List.set_cons_succ]
        refine tkY 30 ⟨some 35, .move (.tmp 34), 4, "record.go:18", #[⟨29, .data⟩, ⟨27, .chain⟩], none⟩ ?v30z78 hHeld ?y30z78 ?r30z78
        case y30z78 => (intro w hSw; (try dsimp only at hSw); go_simp) <;> with_reducible rfl
        try simp only [Act.put, List.setIfInBounds_toArray, List.set_cons_zero, List.set_cons_succ]
        refine tkN 31 ⟨some 36, .move (.tmp 0), 3, "record.go:18", #[⟨30, .guard⟩], some (30, true)⟩ hHeld ?_
        try simp only [Act.put, List.setIfInBounds_toArray, List.set_cons_zero, List.set_cons_succ]
        refine tkN 32 ⟨some 37, .fieldAddr 40 (.tmp 3) 2, 0, "record.go:18", #[⟨30, .guard⟩], some (30, true)⟩ hHeld ?_
        try simp only [Act.put, List.setIfInBounds_toArray, List.set_cons_zero, List.set_cons_succ]
        refine tkN 33 ⟨some 38, .load 37 (.tmp 37), 37, "record.go:18", #[⟨32, .data⟩, ⟨30, .guard⟩], some (30, true)⟩ hHeld ?_
        try simp only [Act.put, List.setIfInBounds_toArray, List.set_cons_zero, List.set_cons_succ]
        refine tkN 34 ⟨some 39, .fieldAddr 40 (.tmp 3) 4, 0, "record.go:18", #[⟨30, .guard⟩], some (30, true)⟩ hHeld ?_
        try simp only [Act.put, List.setIfInBounds_toArray, List.set_cons_zero, List.set_cons_succ]
        refine tkN 35 ⟨some 40, .load 37 (.tmp 39), 37, "record.go:18", #[⟨34, .data⟩, ⟨30, .guard⟩], some (30, true)⟩ hHeld ?_
        try simp only [Act.put, List.setIfInBounds_toArray, List.set_cons_zero, List.set_cons_succ]
        refine tkN 36 ⟨some 41, .buildSlice 38 2 #[(0, .tmp 38), (1, .tmp 40)], 38, "record.go:18", #[⟨33, .data⟩, ⟨35, .data⟩, ⟨30, .guard⟩], some (30, true)⟩ hHeld ?_
        try simp only [Act.put, List.setIfInBounds_toArray, List.set_cons_zero, List.set_cons_succ]
        refine tkN 37 ⟨some 42, .call { callee := .value (.func 147), args := #[.tmp 36, .tmp 41], argTypes := #[3, 38] }, 4, "record.go:20", #[⟨31, .data⟩, ⟨36, .data⟩, ⟨30, .chain⟩, ⟨30, .guard⟩], some (30, true)⟩ hHeld ?_
        try simp only [Act.put, List.setIfInBounds_toArray, List.set_cons_zero, List.set_cons_succ]
        refine tkY 38 ⟨some 43, .pick (.tmp 35) (.tmp 42) (.const (.bool false)), 4, "record.go:18", #[⟨30, .data⟩, ⟨37, .data⟩], none⟩ ?v38z79 hHeld ?y38z79 ?r38z79
        case y38z79 => (intro w hSw; (try dsimp only at hSw); go_simp) <;> with_reducible rfl
        try simp only [Act.put, List.setIfInBounds_toArray, List.set_cons_zero, List.set_cons_succ]
        refine tkY 39 ⟨some 44, .move (.tmp 43), 4, "record.go:18", #[⟨38, .data⟩, ⟨37, .chain⟩], none⟩ ?v39z80 hHeld ?y39z80 ?r39z80
        case y39z80 => (intro w hSw; (try dsimp only at hSw); go_simp) <;> with_reducible rfl
        try simp only [Act.put, List.setIfInBounds_toArray, List.set_cons_zero, List.set_cons_succ]
        refine tkN 40 ⟨some 45, .move (.tmp 0), 3, "record.go:18", #[⟨39, .guard⟩], some (39, true)⟩ hHeld ?_
        try simp only [Act.put, List.setIfInBounds_toArray, List.set_cons_zero, List.set_cons_succ]
        refine tkN 41 ⟨some 46, .fieldAddr 40 (.tmp 3) 5, 0, "record.go:18", #[⟨39, .guard⟩], some (39, true)⟩ hHeld ?_
        try simp only [Act.put, List.setIfInBounds_toArray, List.set_cons_zero, List.set_cons_succ]
        refine tkN 42 ⟨some 47, .load 38 (.tmp 46), 38, "record.go:18", #[⟨41, .data⟩, ⟨39, .guard⟩], some (39, true)⟩ hHeld ?_
        try simp only [Act.put, List.setIfInBounds_toArray, List.set_cons_zero, List.set_cons_succ]
        refine tkN 43 ⟨some 48, .call { callee := .value (.func 147), args := #[.tmp 45, .tmp 47], argTypes := #[3, 38] }, 4, "record.go:20", #[⟨40, .data⟩, ⟨42, .data⟩, ⟨39, .chain⟩, ⟨39, .guard⟩], some (39, true)⟩ hHeld ?_
        try simp only [Act.put, List.setIfInBounds_toArray, List.set_cons_zero, List.set_cons_succ]
        refine tkY 44 ⟨some 49, .pick (.tmp 44) (.tmp 48) (.const (.bool false)), 4, "record.go:18", #[⟨39, .data⟩, ⟨43, .data⟩], none⟩ ?v44z81 hHeld ?y44z81 ?r44z81
        case y44z81 => (intro w hSw; (try dsimp only at hSw); go_simp) <;> with_reducible rfl
        try simp only [Act.put, List.setIfInBounds_toArray, List.set_cons_zero, List.set_cons_succ]
        refine tkY 45 ⟨some 4, .assign (.tmp 49), 4, "record.go:18", #[⟨44, .data⟩, ⟨43, .chain⟩, ⟨0, .phase⟩, ⟨1, .phase⟩, ⟨2, .phase⟩, ⟨3, .phase⟩, ⟨4, .phase⟩, ⟨5, .phase⟩, ⟨6, .phase⟩, ⟨7, .phase⟩, ⟨8, .phase⟩, ⟨9, .phase⟩, ⟨10, .phase⟩, ⟨11, .phase⟩, ⟨12, .phase⟩, ⟨13, .phase⟩, ⟨14, .phase⟩, ⟨15, .phase⟩, ⟨16, .phase⟩, ⟨17, .phase⟩, ⟨18, .phase⟩, ⟨19, .phase⟩, ⟨20, .phase⟩, ⟨21, .phase⟩, ⟨22, .phase⟩, ⟨23, .phase⟩, ⟨24, .phase⟩, ⟨25, .phase⟩, ⟨26, .phase⟩, ⟨27, .phase⟩, ⟨28, .phase⟩, ⟨29, .phase⟩, ⟨30, .phase⟩, ⟨31, .phase⟩, ⟨32, .phase⟩, ⟨33, .phase⟩, ⟨34, .phase⟩, ⟨35, .phase⟩, ⟨36, .phase⟩, ⟨37, .phase⟩, ⟨38, .phase⟩, ⟨39, .phase⟩, ⟨40, .phase⟩, ⟨41, .phase⟩, ⟨42, .phase⟩, ⟨43, .phase⟩, ⟨44, .phase⟩], none⟩ ?v45z82 hHeld ?y45z82 ?r45z82
        case y45z82 => (intro w hSw; (try dsimp only at hSw); go_simp) <;> with_reducible rfl
        try simp only [Act.put, List.setIfInBounds_toArray, List.set_cons_zero, List.set_cons_succ]
        refine wpAnyH_done (by kernel_rfl) ?_ _
        have HR : Hid (canB size ⟨e, t, c, tr, li, lk⟩ = false) := by
          show canB _ _ = _
          simp only [canB, HN.out, f1.out, f4.out, ← HE.out, Bool.true_and, Bool.false_and]
        have HW : Hid (Below w.heap.size w V.drew) := (bA.trans (bD.mono bA.size))
        clear hHeld hcells bD bA k1 k2 k3 hLC
        go_wp2
        go_ret
        rw [HR.out]
        exact ⟨rfl, HW.out⟩
    · have d4 : decide (size ≤ (32 : Int)) = false := by simpa using hc4
      have f4 : Hid (decide (size ≤ (32 : Int)) = false) := d4
      refine tkY 4 ⟨some 9, .binOp .leq 3 (.tmp 8) (.const (.int .i64 32)) 3, 4, "record.go:18", #[⟨3, .data⟩, ⟨2, .guard⟩], some (2, true)⟩ ?v4z83 hHeld ?y4z83 ?r4z83
      case y4z83 => (intro w hSw; (try dsimp only at hSw); go_simp) <;> with_reducible rfl
      try simp only [Act.put, List.setIfInBounds_toArray, List.set_cons_zero, List.set_cons_succ]
      refine tkY 5 ⟨some 10, .pick (.tmp 7) (.tmp 9) (.const (.bool false)), 4, "record.go:18", #[⟨2, .data⟩, ⟨4, .data⟩], none⟩ ?v5z84 hHeld ?y5z84 ?r5z84
      case y5z84 => (intro w hSw; (try dsimp only at hSw); go_simp) <;> with_reducible rfl
      try simp only [Act.put, List.setIfInBounds_toArray, List.set_cons_zero, List.set_cons_succ]
      refine tkY 6 ⟨some 11, .move (.tmp 10), 4, "record.go:18", #[⟨5, .data⟩, ⟨2, .chain⟩], none⟩ ?v6z85 hHeld ?y6z85 ?r6z85
      case y6z85 => (intro w hSw; (try dsimp only at hSw); go_simp) <;> with_reducible rfl
      try simp only [Act.put, List.setIfInBounds_toArray, List.set_cons_zero, List.set_cons_succ]
      refine tkN 7 ⟨some 12, .fieldAddr 40 (.tmp 3) 0, 0, "record.go:18", #[⟨6, .guard⟩], some (6, true)⟩ hHeld ?_
      try simp only [Act.put, List.setIfInBounds_toArray, List.set_cons_zero, List.set_cons_succ]
      refine tkN 8 ⟨some 13, .load 3 (.tmp 12), 3, "record.go:18", #[⟨7, .data⟩, ⟨6, .guard⟩], some (6, true)⟩ hHeld ?_
      try simp only [Act.put, List.setIfInBounds_toArray, List.set_cons_zero, List.set_cons_succ]
      refine tkN 9 ⟨some 14, .call { callee := .value (.func 145), args := #[.tmp 13, .const (.int .i64 255)], argTypes := #[3, 3] }, 4, "record.go:19", #[⟨8, .data⟩, ⟨6, .chain⟩, ⟨6, .guard⟩], some (6, true)⟩ hHeld ?_
      try simp only [Act.put, List.setIfInBounds_toArray, List.set_cons_zero, List.set_cons_succ]
      refine tkY 10 ⟨some 15, .pick (.tmp 11) (.tmp 14) (.const (.bool false)), 4, "record.go:18", #[⟨6, .data⟩, ⟨9, .data⟩], none⟩ ?v10z86 hHeld ?y10z86 ?r10z86
      case y10z86 => (intro w hSw; (try dsimp only at hSw); go_simp) <;> with_reducible rfl
      try simp only [Act.put, List.setIfInBounds_toArray, List.set_cons_zero, List.set_cons_succ]
      refine tkY 11 ⟨some 16, .move (.tmp 15), 4, "record.go:18", #[⟨10, .data⟩, ⟨9, .chain⟩], none⟩ ?v11z87 hHeld ?y11z87 ?r11z87
      case y11z87 => (intro w hSw; (try dsimp only at hSw); go_simp) <;> with_reducible rfl
      try simp only [Act.put, List.setIfInBounds_toArray, List.set_cons_zero, List.set_cons_succ]
      refine tkN 12 ⟨some 17, .fieldAddr 40 (.tmp 3) 1, 0, "record.go:18", #[⟨11, .guard⟩], some (11, true)⟩ hHeld ?_
      try simp only [Act.put, List.setIfInBounds_toArray, List.set_cons_zero, List.set_cons_succ]
      refine tkN 13 ⟨some 18, .load 3 (.tmp 17), 3, "record.go:18", #[⟨12, .data⟩, ⟨11, .guard⟩], some (11, true)⟩ hHeld ?_
      try simp only [Act.put, List.setIfInBounds_toArray, List.set_cons_zero, List.set_cons_succ]
      refine tkN 14 ⟨some 19, .call { callee := .value (.func 145), args := #[.tmp 18, .const (.int .i64 1125899906842624)], argTypes := #[3, 3] }, 4, "record.go:19", #[⟨13, .data⟩, ⟨11, .chain⟩, ⟨11, .guard⟩], some (11, true)⟩ hHeld ?_
      try simp only [Act.put, List.setIfInBounds_toArray, List.set_cons_zero, List.set_cons_succ]
      refine tkY 15 ⟨some 20, .pick (.tmp 16) (.tmp 19) (.const (.bool false)), 4, "record.go:18", #[⟨11, .data⟩, ⟨14, .data⟩], none⟩ ?v15z88 hHeld ?y15z88 ?r15z88
      case y15z88 => (intro w hSw; (try dsimp only at hSw); go_simp) <;> with_reducible rfl
      try simp only [Act.put, List.setIfInBounds_toArray, List.set_cons_zero, List.set_cons_succ]
      refine tkY 16 ⟨some 21, .move (.tmp 20), 4, "record.go:18", #[⟨15, .data⟩, ⟨14, .chain⟩], none⟩ ?v16z89 hHeld ?y16z89 ?r16z89
      case y16z89 => (intro w hSw; (try dsimp only at hSw); go_simp) <;> with_reducible rfl
      try simp only [Act.put, List.setIfInBounds_toArray, List.set_cons_zero, List.set_cons_succ]
      refine tkN 17 ⟨some 22, .fieldAddr 40 (.tmp 3) 3, 0, "record.go:18", #[⟨16, .guard⟩], some (16, true)⟩ hHeld ?_
      try simp only [Act.put, List.setIfInBounds_toArray, List.set_cons_zero, List.set_cons_succ]
      refine tkN 18 ⟨some 23, .load 3 (.tmp 22), 3, "record.go:18", #[⟨17, .data⟩, ⟨16, .guard⟩], some (16, true)⟩ hHeld ?_
      try simp only [Act.put, List.setIfInBounds_toArray, List.set_cons_zero, List.set_cons_succ]
      refine tkN 19 ⟨some 24, .call { callee := .value (.func 145), args := #[.tmp 23, .const (.int .i64 32)], argTypes := #[3, 3] }, 4, "record.go:19", #[⟨18, .data⟩, ⟨16, .chain⟩, ⟨16, .guard⟩], some (16, true)⟩ hHeld ?_
      try simp only [Act.put, List.setIfInBounds_toArray, List.set_cons_zero, List.set_cons_succ]
      refine tkY 20 ⟨some 25, .pick (.tmp 21) (.tmp 24) (.const (.bool false)), 4, "record.go:18", #[⟨16, .data⟩, ⟨19, .data⟩], none⟩ ?v20z90 hHeld ?y20z90 ?r20z90
      case y20z90 => (intro w hSw; (try dsimp only at hSw); go_simp) <;> with_reducible rfl
      try simp only [Act.put, List.setIfInBounds_toArray, List.set_cons_zero, List.set_cons_succ]
      refine tkY 21 ⟨some 26, .move (.tmp 25), 4, "record.go:18", #[⟨20, .data⟩, ⟨19, .chain⟩], none⟩ ?v21z91 hHeld ?y21z91 ?r21z91
      case y21z91 => (intro w hSw; (try dsimp only at hSw); go_simp) <;> with_reducible rfl
      try simp only [Act.put, List.setIfInBounds_toArray, List.set_cons_zero, List.set_cons_succ]
      refine tkN 22 ⟨some 27, .fieldAddr 40 (.tmp 3) 5, 0, "record.go:18", #[⟨21, .guard⟩], some (21, true)⟩ hHeld ?_
      try simp only [Act.put, List.setIfInBounds_toArray, List.set_cons_zero, List.set_cons_succ]
      refine tkN 23 ⟨some 28, .load 38 (.tmp 27), 38, "record.go:18", #[⟨22, .data⟩, ⟨21, .guard⟩], some (21, true)⟩ hHeld ?_
      try simp only [Act.put, List.setIfInBounds_toArray, List.set_cons_zero, List.set_cons_succ]
      refine tkN 24 ⟨some 29, .call { callee := .builtin .len, args := #[.tmp 28], argTypes := #[38] }, 3, "record.go:18", #[⟨23, .data⟩, ⟨21, .guard⟩], some (21, true)⟩ hHeld ?_
      try simp only [Act.put, List.setIfInBounds_toArray, List.set_cons_zero, List.set_cons_succ]
      refine tkN 25 ⟨some 30, .fieldAddr 40 (.tmp 3) 0, 0, "record.go:18", #[⟨21, .guard⟩], some (21, true)⟩ hHeld ?_
      try simp only [Act.put, List.setIfInBounds_toArray, List.set_cons_zero, List.set_cons_succ]
      refine tkN 26 ⟨some 31, .load 3 (.tmp 30), 3, "record.go:18", #[⟨25, .data⟩, ⟨21, .guard⟩], some (21, true)⟩ hHeld ?_
      try simp only [Act.put, List.setIfInBounds_toArray, List.set_cons_zero, List.set_cons_succ]
      refine tkN 27 ⟨some 32, .call { callee := .value (.func 146), args := #[.tmp 31], argTypes := #[3] }, 3, "record.go:20", #[⟨26, .data⟩, ⟨21, .chain⟩, ⟨21, .guard⟩], some (21, true)⟩ hHeld ?_
      try simp only [Act.put, List.setIfInBounds_toArray, List.set_cons_zero, List.set_cons_succ]
      refine tkN 28 ⟨some 33, .binOp .eql 3 (.tmp 29) (.tmp 32) 3, 4, "record.go:18", #[⟨24, .data⟩, ⟨27, .data⟩, ⟨21, .guard⟩], some (21, true)⟩ hHeld ?_
      try simp only [Act.put, List.setIfInBounds_toArray, List.set_cons_zero, List.set_cons_succ]
      refine tkY 29 ⟨some 34, .pick (.tmp 26) (.tmp 33) (.const (.bool false)), 4, "record.go:18", #[⟨21, .data⟩, ⟨28, .data⟩], none⟩ ?v29z92 hHeld ?y29z92 ?r29z92
      case y29z92 => (intro w hSw; (try dsimp only at hSw); go_simp) <;> with_reducible rfl
      try simp only [Act.put, List.setIfInBounds_toArray, List.set_cons_zero, List.set_cons_succ]
      refine tkY 30 ⟨some 35, .move (.tmp 34), 4, "record.go:18", #[⟨29, .data⟩, ⟨27, .chain⟩], none⟩ ?v30z93 hHeld ?y30z93 ?r30z93
      case y30z93 => (intro w hSw; (try dsimp only at hSw); go_simp) <;> with_reducible rfl
      try simp only [Act.put, List.setIfInBounds_toArray, List.set_cons_zero, List.set_cons_succ]
      refine tkN 31 ⟨some 36, .move (.tmp 0), 3, "record.go:18", #[⟨30, .guard⟩], some (30, true)⟩ hHeld ?_
      try simp only [Act.put, List.setIfInBounds_toArray, List.set_cons_zero, List.set_cons_succ]
      refine tkN 32 ⟨some 37, .fieldAddr 40 (.tmp 3) 2, 0, "record.go:18", #[⟨30, .guard⟩], some (30, true)⟩ hHeld ?_
      try simp only [Act.put, List.setIfInBounds_toArray, List.set_cons_zero, List.set_cons_succ]
      refine tkN 33 ⟨some 38, .load 37 (.tmp 37), 37, "record.go:18", #[⟨32, .data⟩, ⟨30, .guard⟩], some (30, true)⟩ hHeld ?_
      try simp only [Act.put, List.setIfInBounds_toArray, List.set_cons_zero, List.set_cons_succ]
      refine tkN 34 ⟨some 39, .fieldAddr 40 (.tmp 3) 4, 0, "record.go:18", #[⟨30, .guard⟩], some (30, true)⟩ hHeld ?_
      try simp only [Act.put, List.setIfInBounds_toArray, List.set_cons_zero, List.set_cons_succ]
      refine tkN 35 ⟨some 40, .load 37 (.tmp 39), 37, "record.go:18", #[⟨34, .data⟩, ⟨30, .guard⟩], some (30, true)⟩ hHeld ?_
      try simp only [Act.put, List.setIfInBounds_toArray, List.set_cons_zero, List.set_cons_succ]
      refine tkN 36 ⟨some 41, .buildSlice 38 2 #[(0, .tmp 38), (1, .tmp 40)], 38, "record.go:18", #[⟨33, .data⟩, ⟨35, .data⟩, ⟨30, .guard⟩], some (30, true)⟩ hHeld ?_
      try simp only [Act.put, List.setIfInBounds_toArray, List.set_cons_zero, List.set_cons_succ]
      refine tkN 37 ⟨some 42, .call { callee := .value (.func 147), args := #[.tmp 36, .tmp 41], argTypes := #[3, 38] }, 4, "record.go:20", #[⟨31, .data⟩, ⟨36, .data⟩, ⟨30, .chain⟩, ⟨30, .guard⟩], some (30, true)⟩ hHeld ?_
      try simp only [Act.put, List.setIfInBounds_toArray, List.set_cons_zero, List.set_cons_succ]
      refine tkY 38 ⟨some 43, .pick (.tmp 35) (.tmp 42) (.const (.bool false)), 4, "record.go:18", #[⟨30, .data⟩, ⟨37, .data⟩], none⟩ ?v38z94 hHeld ?y38z94 ?r38z94
      case y38z94 => (intro w hSw; (try dsimp only at hSw); go_simp) <;> with_reducible rfl
      try simp only [Act.put, List.setIfInBounds_toArray, List.set_cons_zero, List.set_cons_succ]
      refine tkY 39 ⟨some 44, .move (.tmp 43), 4, "record.go:18", #[⟨38, .data⟩, ⟨37, .chain⟩], none⟩ ?v39z95 hHeld ?y39z95 ?r39z95
      case y39z95 => (intro w hSw; (try dsimp only at hSw); go_simp) <;> with_reducible rfl
      try simp only [Act.put, List.setIfInBounds_toArray, List.set_cons_zero, List.set_cons_succ]
      refine tkN 40 ⟨some 45, .move (.tmp 0), 3, "record.go:18", #[⟨39, .guard⟩], some (39, true)⟩ hHeld ?_
      try simp only [Act.put, List.setIfInBounds_toArray, List.set_cons_zero, List.set_cons_succ]
      refine tkN 41 ⟨some 46, .fieldAddr 40 (.tmp 3) 5, 0, "record.go:18", #[⟨39, .guard⟩], some (39, true)⟩ hHeld ?_
      try simp only [Act.put, List.setIfInBounds_toArray, List.set_cons_zero, List.set_cons_succ]
      refine tkN 42 ⟨some 47, .load 38 (.tmp 46), 38, "record.go:18", #[⟨41, .data⟩, ⟨39, .guard⟩], some (39, true)⟩ hHeld ?_
      try simp only [Act.put, List.setIfInBounds_toArray, List.set_cons_zero, List.set_cons_succ]
      refine tkN 43 ⟨some 48, .call { callee := .value (.func 147), args := #[.tmp 45, .tmp 47], argTypes := #[3, 38] }, 4, "record.go:20", #[⟨40, .data⟩, ⟨42, .data⟩, ⟨39, .chain⟩, ⟨39, .guard⟩], some (39, true)⟩ hHeld ?_
      try simp only [Act.put, List.setIfInBounds_toArray, List.set_cons_zero, List.set_cons_succ]
      refine tkY 44 ⟨some 49, .pick (.tmp 44) (.tmp 48) (.const (.bool false)), 4, "record.go:18", #[⟨39, .data⟩, ⟨43, .data⟩], none⟩ ?v44z96 hHeld ?y44z96 ?r44z96
      case y44z96 => (intro w hSw; (try dsimp only at hSw); go_simp) <;> with_reducible rfl
      try simp only [Act.put, List.setIfInBounds_toArray, List.set_cons_zero, List.set_cons_succ]
      refine tkY 45 ⟨some 4, .assign (.tmp 49), 4, "record.go:18", #[⟨44, .data⟩, ⟨43, .chain⟩, ⟨0, .phase⟩, ⟨1, .phase⟩, ⟨2, .phase⟩, ⟨3, .phase⟩, ⟨4, .phase⟩, ⟨5, .phase⟩, ⟨6, .phase⟩, ⟨7, .phase⟩, ⟨8, .phase⟩, ⟨9, .phase⟩, ⟨10, .phase⟩, ⟨11, .phase⟩, ⟨12, .phase⟩, ⟨13, .phase⟩, ⟨14, .phase⟩, ⟨15, .phase⟩, ⟨16, .phase⟩, ⟨17, .phase⟩, ⟨18, .phase⟩, ⟨19, .phase⟩, ⟨20, .phase⟩, ⟨21, .phase⟩, ⟨22, .phase⟩, ⟨23, .phase⟩, ⟨24, .phase⟩, ⟨25, .phase⟩, ⟨26, .phase⟩, ⟨27, .phase⟩, ⟨28, .phase⟩, ⟨29, .phase⟩, ⟨30, .phase⟩, ⟨31, .phase⟩, ⟨32, .phase⟩, ⟨33, .phase⟩, ⟨34, .phase⟩, ⟨35, .phase⟩, ⟨36, .phase⟩, ⟨37, .phase⟩, ⟨38, .phase⟩, ⟨39, .phase⟩, ⟨40, .phase⟩, ⟨41, .phase⟩, ⟨42, .phase⟩, ⟨43, .phase⟩, ⟨44, .phase⟩], none⟩ ?v45z97 hHeld ?y45z97 ?r45z97
      case y45z97 => (intro w hSw; (try dsimp only at hSw); go_simp) <;> with_reducible rfl
      try simp only [Act.put, List.setIfInBounds_toArray, List.set_cons_zero, List.set_cons_succ]
      refine wpAnyH_done (by kernel_rfl) ?_ _
      have HR : Hid (canB size ⟨e, t, c, tr, li, lk⟩ = false) := by
        show canB _ _ = _
        simp only [canB, HN.out, f1.out, f4.out, Bool.true_and, Bool.false_and]
      have HW : Hid (Below w.heap.size w V.drew) := (bA.trans (bD.mono bA.size))
      clear hHeld hcells bD bA k1 k2 k3 hLC
      go_wp2
      go_ret
      rw [HR.out]
      exact ⟨rfl, HW.out⟩
  · have d1 : decide ((1 : Int) ≤ size) = false := by simpa using hc1
    have f1 : Hid (decide ((1 : Int) ≤ size) = false) := d1
    refine tkY 1 ⟨some 6, .binOp .geq 3 (.tmp 5) (.const (.int .i64 1)) 3, 4, "record.go:18", #[⟨0, .data⟩], none⟩ ?v1z98 hHeld ?y1z98 ?r1z98
    case y1z98 => (intro w hSw; (try dsimp only at hSw); go_simp) <;> with_reducible rfl
    try simp only [Act.put, List.setIfInBounds_toArray, List.set_cons_zero, List.set_cons_succ]
    refine tkY 2 ⟨some 7, .move (.tmp 6), 4, "record.go:18", #[⟨1, .data⟩], none⟩ ?v2z99 hHeld ?y2z99 ?r2z99
    case y2z99 => (intro w hSw; (try dsimp only at hSw); go_simp) <;> with_reducible rfl
    try simp only [Act.put, List.setIfInBounds_toArray, List.set_cons_zero, List.set_cons_succ]
    refine tkN 3 ⟨some 8, .move (.tmp 0), 3, "record.go:18", #[⟨2, .guard⟩], some (2, true)⟩ hHeld ?_
    try simp only [Act.put, List.setIfInBounds_toArray, List.set_cons_zero, List.set_cons_succ]
    refine tkN 4 ⟨some 9, .binOp .leq 3 (.tmp 8) (.const (.int .i64 32)) 3, 4, "record.go:18", #[⟨3, .data⟩, ⟨2, .guard⟩], some (2, true)⟩ hHeld ?_
    try simp only [Act.put, List.setIfInBounds_toArray, List.set_cons_zero, List.set_cons_succ]
    refine tkY 5 ⟨some 10, .pick (.tmp 7) (.tmp 9) (.const (.bool false)), 4, "record.go:18", #[⟨2, .data⟩, ⟨4, .data⟩], none⟩ ?v5z100 hHeld ?y5z100 ?r5z100
    case y5z100 => (intro w hSw; (try dsimp only at hSw); go_simp) <;> with_reducible rfl
    try simp only [Act.put, List.setIfInBounds_toArray, List.set_cons_zero, List.set_cons_succ]
    refine tkY 6 ⟨some 11, .move (.tmp 10), 4, "record.go:18", #[⟨5, .data⟩, ⟨2, .chain⟩], none⟩ ?v6z101 hHeld ?y6z101 ?r6z101
    case y6z101 => (intro w hSw; (try dsimp only at hSw); go_simp) <;> with_reducible rfl
    try simp only [Act.put, List.setIfInBounds_toArray, List.set_cons_zero, List.set_cons_succ]
    refine tkN 7 ⟨some 12, .fieldAddr 40 (.tmp 3) 0, 0, "record.go:18", #[⟨6, .guard⟩], some (6, true)⟩ hHeld ?_
    try simp only [Act.put, List.setIfInBounds_toArray, List.set_cons_zero, List.set_cons_succ]
    refine tkN 8 ⟨some 13, .load 3 (.tmp 12), 3, "record.go:18", #[⟨7, .data⟩, ⟨6, .guard⟩], some (6, true)⟩ hHeld ?_
    try simp only [Act.put, List.setIfInBounds_toArray, List.set_cons_zero, List.set_cons_succ]
    refine tkN 9 ⟨some 14, .call { callee := .value (.func 145), args := #[.tmp 13, .const (.int .i64 255)], argTypes := #[3, 3] }, 4, "record.go:19", #[⟨8, .data⟩, ⟨6, .chain⟩, ⟨6, .guard⟩], some (6, true)⟩ hHeld ?_
    try simp only [Act.put, List.setIfInBounds_toArray, List.set_cons_zero, List.set_cons_succ]
    refine tkY 10 ⟨some 15, .pick (.tmp 11) (.tmp 14) (.const (.bool false)), 4, "record.go:18", #[⟨6, .data⟩, ⟨9, .data⟩], none⟩ ?v10z102 hHeld ?y10z102 ?r10z102
    case y10z102 => (intro w hSw; (try dsimp only at hSw); go_simp) <;> with_reducible rfl
    try simp only [Act.put, List.setIfInBounds_toArray, List.set_cons_zero, List.set_cons_succ]
    refine tkY 11 ⟨some 16, .move (.tmp 15), 4, "record.go:18", #[⟨10, .data⟩, ⟨9, .chain⟩], none⟩ ?v11z103 hHeld ?y11z103 ?r11z103
    case y11z103 => (intro w hSw; (try dsimp only at hSw); go_simp) <;> with_reducible rfl
    try simp only [Act.put, List.setIfInBounds_toArray, List.set_cons_zero, List.set_cons_succ]
    refine tkN 12 ⟨some 17, .fieldAddr 40 (.tmp 3) 1, 0, "record.go:18", #[⟨11, .guard⟩], some (11, true)⟩ hHeld ?_
    try simp only [Act.put, List.setIfInBounds_toArray, List.set_cons_zero, List.set_cons_succ]
    refine tkN 13 ⟨some 18, .load 3 (.tmp 17), 3, "record.go:18", #[⟨12, .data⟩, ⟨11, .guard⟩], some (11, true)⟩ hHeld ?_
    try simp only [Act.put, List.setIfInBounds_toArray, List.set_cons_zero, List.set_cons_succ]
    refine tkN 14 ⟨some 19, .call { callee := .value (.func 145), args := #[.tmp 18, .const (.int .i64 1125899906842624)], argTypes := #[3, 3] }, 4, "record.go:19", #[⟨13, .data⟩, ⟨11, .chain⟩, ⟨11, .guard⟩], some (11, true)⟩ hHeld ?_
    try simp only [Act.put, List.setIfInBounds_toArray, List.set_cons_zero, List.set_cons_succ]
    refine tkY 15 ⟨some 20, .pick (.tmp 16) (.tmp 19) (.const (.bool false)), 4, "record.go:18", #[⟨11, .data⟩, ⟨14, .data⟩], none⟩ ?v15z104 hHeld ?y15z104 ?r15z104
    case y15z104 => (intro w hSw; (try dsimp only at hSw); go_simp) <;> with_reducible rfl
    try simp only [Act.put, List.setIfInBounds_toArray, List.set_cons_zero, List.set_cons_succ]
    refine tkY 16 ⟨some 21, .move (.tmp 20), 4, "record.go:18", #[⟨15, .data⟩, ⟨14, .chain⟩], none⟩ ?v16z105 hHeld ?y16z105 ?r16z105
    case y16z105 => (intro w hSw; (try dsimp only at hSw); go_simp) <;> with_reducible rfl
    try simp only [Act.put, List.setIfInBounds_toArray, List.set_cons_zero, List.set_cons_succ]
    refine tkN 17 ⟨some 22, .fieldAddr 40 (.tmp 3) 3, 0, "record.go:18", #[⟨16, .guard⟩], some (16, true)⟩ hHeld ?_
    try simp only [Act.put, List.setIfInBounds_toArray, List.set_cons_zero, List.set_cons_succ]
    refine tkN 18 ⟨some 23, .load 3 (.tmp 22), 3, "record.go:18", #[⟨17, .data⟩, ⟨16, .guard⟩], some (16, true)⟩ hHeld ?_
    try simp only [Act.put, List.setIfInBounds_toArray, List.set_cons_zero, List.set_cons_succ]
    refine tkN 19 ⟨some 24, .call { callee := .value (.func 145), args := #[.tmp 23, .const (.int .i64 32)], argTypes := #[3, 3] }, 4, "record.go:19", #[⟨18, .data⟩, ⟨16, .chain⟩, ⟨16, .guard⟩], some (16, true)⟩ hHeld ?_
    try simp only [Act.put, List.setIfInBounds_toArray, List.set_cons_zero, List.set_cons_succ]
    refine tkY 20 ⟨some 25, .pick (.tmp 21) (.tmp 24) (.const (.bool false)), 4, "record.go:18", #[⟨16, .data⟩, ⟨19, .data⟩], none⟩ ?v20z106 hHeld ?y20z106 ?r20z106
    case y20z106 => (intro w hSw; (try dsimp only at hSw); go_simp) <;> with_reducible rfl
    try simp only [Act.put, List.setIfInBounds_toArray, List.set_cons_zero, List.set_cons_succ]
    refine tkY 21 ⟨some 26, .move (.tmp 25), 4, "record.go:18", #[⟨20, .data⟩, ⟨19, .chain⟩], none⟩ ?v21z107 hHeld ?y21z107 ?r21z107
    case y21z107 => (intro w hSw; (try dsimp only at hSw); go_simp) <;> with_reducible rfl
    try simp only [Act.put, List.setIfInBounds_toArray, List.set_cons_zero, List.set_cons_succ]
    refine tkN 22 ⟨some 27, .fieldAddr 40 (.tmp 3) 5, 0, "record.go:18", #[⟨21, .guard⟩], some (21, true)⟩ hHeld ?_
    try simp only [Act.put, List.setIfInBounds_toArray, List.set_cons_zero, List.set_cons_succ]
    refine tkN 23 ⟨some 28, .load 38 (.tmp 27), 38, "record.go:18", #[⟨22, .data⟩, ⟨21, .guard⟩], some (21, true)⟩ hHeld ?_
    try simp only [Act.put, List.setIfInBounds_toArray, List.set_cons_zero, List.set_cons_succ]
    refine tkN 24 ⟨some 29, .call { callee := .builtin .len, args := #[.tmp 28], argTypes := #[38] }, 3, "record.go:18", #[⟨23, .data⟩, ⟨21, .guard⟩], some (21, true)⟩ hHeld ?_
    try simp only [Act.put, List.setIfInBounds_toArray, List.set_cons_zero, List.set_cons_succ]
    refine tkN 25 ⟨some 30, .fieldAddr 40 (.tmp 3) 0, 0, "record.go:18", #[⟨21, .guard⟩], some (21, true)⟩ hHeld ?_
    try simp only [Act.put, List.setIfInBounds_toArray, List.set_cons_zero, List.set_cons_succ]
    refine tkN 26 ⟨some 31, .load 3 (.tmp 30), 3, "record.go:18", #[⟨25, .data⟩, ⟨21, .guard⟩], some (21, true)⟩ hHeld ?_
    try simp only [Act.put, List.setIfInBounds_toArray, List.set_cons_zero, List.set_cons_succ]
    refine tkN 27 ⟨some 32, .call { callee := .value (.func 146), args := #[.tmp 31], argTypes := #[3] }, 3, "record.go:20", #[⟨26, .data⟩, ⟨21, .chain⟩, ⟨21, .guard⟩], some (21, true)⟩ hHeld ?_
    try simp only [Act.put, List.setIfInBounds_toArray, List.set_cons_zero, List.set_cons_succ]
    refine tkN 28 ⟨some 33, .binOp .eql 3 (.tmp 29) (.tmp 32) 3, 4, "record.go:18", #[⟨24, .data⟩, ⟨27, .data⟩, ⟨21, .guard⟩], some (21, true)⟩ hHeld ?_
    try simp only [Act.put, List.setIfInBounds_toArray, List.set_cons_zero, List.set_cons_succ]
    refine tkY 29 ⟨some 34, .pick (.tmp 26) (.tmp 33) (.const (.bool false)), 4, "record.go:18", #[⟨21, .data⟩, ⟨28, .data⟩], none⟩ ?v29z108 hHeld ?y29z108 ?r29z108
    case y29z108 => (intro w hSw; (try dsimp only at hSw); go_simp) <;> with_reducible rfl
    try simp only [Act.put, List.setIfInBounds_toArray, List.set_cons_zero, List.set_cons_succ]
    refine tkY 30 ⟨some 35, .move (.tmp 34), 4, "record.go:18", #[⟨29, .data⟩, ⟨27, .chain⟩], none⟩ ?v30z109 hHeld ?y30z109 ?r30z109
    case y30z109 => (intro w hSw; (try dsimp only at hSw); go_simp) <;> with_reducible rfl
    try simp only [Act.put, List.setIfInBounds_toArray, List.set_cons_zero, List.set_cons_succ]
    refine tkN 31 ⟨some 36, .move (.tmp 0), 3, "record.go:18", #[⟨30, .guard⟩], some (30, true)⟩ hHeld ?_
    try simp only [Act.put, List.setIfInBounds_toArray, List.set_cons_zero, List.set_cons_succ]
    refine tkN 32 ⟨some 37, .fieldAddr 40 (.tmp 3) 2, 0, "record.go:18", #[⟨30, .guard⟩], some (30, true)⟩ hHeld ?_
    try simp only [Act.put, List.setIfInBounds_toArray, List.set_cons_zero, List.set_cons_succ]
    refine tkN 33 ⟨some 38, .load 37 (.tmp 37), 37, "record.go:18", #[⟨32, .data⟩, ⟨30, .guard⟩], some (30, true)⟩ hHeld ?_
    try simp only [Act.put, List.setIfInBounds_toArray, List.set_cons_zero, List.set_cons_succ]
    refine tkN 34 ⟨some 39, .fieldAddr 40 (.tmp 3) 4, 0, "record.go:18", #[⟨30, .guard⟩], some (30, true)⟩ hHeld ?_
    try simp only [Act.put, List.setIfInBounds_toArray, List.set_cons_zero, List.set_cons_succ]
    refine tkN 35 ⟨some 40, .load 37 (.tmp 39), 37, "record.go:18", #[⟨34, .data⟩, ⟨30, .guard⟩], some (30, true)⟩ hHeld ?_
    try simp only [Act.put, List.setIfInBounds_toArray, List.set_cons_zero, List.set_cons_succ]
    refine tkN 36 ⟨some 41, .buildSlice 38 2 #[(0, .tmp 38), (1, .tmp 40)], 38, "record.go:18", #[⟨33, .data⟩, ⟨35, .data⟩, ⟨30, .guard⟩], some (30, true)⟩ hHeld ?_
    try simp only [Act.put, List.setIfInBounds_toArray, List.set_cons_zero, List.set_cons_succ]
    refine tkN 37 ⟨some 42, .call { callee := .value (.func 147), args := #[.tmp 36, .tmp 41], argTypes := #[3, 38] }, 4, "record.go:20", #[⟨31, .data⟩, ⟨36, .data⟩, ⟨30, .chain⟩, ⟨30, .guard⟩], some (30, true)⟩ hHeld ?_
    try simp only [Act.put, List.setIfInBounds_toArray, List.set_cons_zero, List.set_cons_succ]
    refine tkY 38 ⟨some 43, .pick (.tmp 35) (.tmp 42) (.const (.bool false)), 4, "record.go:18", #[⟨30, .data⟩, ⟨37, .data⟩], none⟩ ?v38z110 hHeld ?y38z110 ?r38z110
    case y38z110 => (intro w hSw; (try dsimp only at hSw); go_simp) <;> with_reducible rfl
    try simp only [Act.put, List.setIfInBounds_toArray, List.set_cons_zero, List.set_cons_succ]
    refine tkY 39 ⟨some 44, .move (.tmp 43), 4, "record.go:18", #[⟨38, .data⟩, ⟨37, .chain⟩], none⟩ ?v39z111 hHeld ?y39z111 ?r39z111
    case y39z111 => (intro w hSw; (try dsimp only at hSw); go_simp) <;> with_reducible rfl
    try simp only [Act.put, List.setIfInBounds_toArray, List.set_cons_zero, List.set_cons_succ]
    refine tkN 40 ⟨some 45, .move (.tmp 0), 3, "record.go:18", #[⟨39, .guard⟩], some (39, true)⟩ hHeld ?_
    try simp only [Act.put, List.setIfInBounds_toArray, List.set_cons_zero, List.set_cons_succ]
    refine tkN 41 ⟨some 46, .fieldAddr 40 (.tmp 3) 5, 0, "record.go:18", #[⟨39, .guard⟩], some (39, true)⟩ hHeld ?_
    try simp only [Act.put, List.setIfInBounds_toArray, List.set_cons_zero, List.set_cons_succ]
    refine tkN 42 ⟨some 47, .load 38 (.tmp 46), 38, "record.go:18", #[⟨41, .data⟩, ⟨39, .guard⟩], some (39, true)⟩ hHeld ?_
    try simp only [Act.put, List.setIfInBounds_toArray, List.set_cons_zero, List.set_cons_succ]
    refine tkN 43 ⟨some 48, .call { callee := .value (.func 147), args := #[.tmp 45, .tmp 47], argTypes := #[3, 38] }, 4, "record.go:20", #[⟨40, .data⟩, ⟨42, .data⟩, ⟨39, .chain⟩, ⟨39, .guard⟩], some (39, true)⟩ hHeld ?_
    try simp only [Act.put, List.setIfInBounds_toArray, List.set_cons_zero, List.set_cons_succ]
    refine tkY 44 ⟨some 49, .pick (.tmp 44) (.tmp 48) (.const (.bool false)), 4, "record.go:18", #[⟨39, .data⟩, ⟨43, .data⟩], none⟩ ?v44z112 hHeld ?y44z112 ?r44z112
    case y44z112 => (intro w hSw; (try dsimp only at hSw); go_simp) <;> with_reducible rfl
    try simp only [Act.put, List.setIfInBounds_toArray, List.set_cons_zero, List.set_cons_succ]
    refine tkY 45 ⟨some 4, .assign (.tmp 49), 4, "record.go:18", #[⟨44, .data⟩, ⟨43, .chain⟩, ⟨0, .phase⟩, ⟨1, .phase⟩, ⟨2, .phase⟩, ⟨3, .phase⟩, ⟨4, .phase⟩, ⟨5, .phase⟩, ⟨6, .phase⟩, ⟨7, .phase⟩, ⟨8, .phase⟩, ⟨9, .phase⟩, ⟨10, .phase⟩, ⟨11, .phase⟩, ⟨12, .phase⟩, ⟨13, .phase⟩, ⟨14, .phase⟩, ⟨15, .phase⟩, ⟨16, .phase⟩, ⟨17, .phase⟩, ⟨18, .phase⟩, ⟨19, .phase⟩, ⟨20, .phase⟩, ⟨21, .phase⟩, ⟨22, .phase⟩, ⟨23, .phase⟩, ⟨24, .phase⟩, ⟨25, .phase⟩, ⟨26, .phase⟩, ⟨27, .phase⟩, ⟨28, .phase⟩, ⟨29, .phase⟩, ⟨30, .phase⟩, ⟨31, .phase⟩, ⟨32, .phase⟩, ⟨33, .phase⟩, ⟨34, .phase⟩, ⟨35, .phase⟩, ⟨36, .phase⟩, ⟨37, .phase⟩, ⟨38, .phase⟩, ⟨39, .phase⟩, ⟨40, .phase⟩, ⟨41, .phase⟩, ⟨42, .phase⟩, ⟨43, .phase⟩, ⟨44, .phase⟩], none⟩ ?v45z113 hHeld ?y45z113 ?r45z113
    case y45z113 => (intro w hSw; (try dsimp only at hSw); go_simp) <;> with_reducible rfl
    try simp only [Act.put, List.setIfInBounds_toArray, List.set_cons_zero, List.set_cons_succ]
    refine wpAnyH_done (by kernel_rfl) ?_ _
    have HR : Hid (canB size ⟨e, t, c, tr, li, lk⟩ = false) := by
      show canB _ _ = _
      simp only [canB, HN.out, f1.out, Bool.false_and]
    have HW : Hid (Below w.heap.size w V.drew) := (bA.trans (bD.mono bA.size))
    clear hHeld hcells bD bA k1 k2 k3 hLC
    go_wp2
    go_ret
    rw [HR.out]
    exact ⟨rfl, HW.out⟩

end Go.Proofs.YtcgpgnajmfemhaaGreatDoor
