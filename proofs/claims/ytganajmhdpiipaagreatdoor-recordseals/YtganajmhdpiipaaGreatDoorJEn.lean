/- What this text proves: the walk of record.shaped over this program: whether a signature has the shape of one. (By program: held.py, mkshaped.py.) What this text proves: the walk of annalsref13.whole over this program: whether a signature has the shape of one. What this text proves: the walk of record.Encode over this program: a record's bytes, or the error. What this text proves: the walks of the document's Uint, Bytes, Flag (annalsref04) over this program: bytes, and a number, a text, a yes or no behind them, in new memory. What this text proves: the walk of annalsref13.Encode over this program: a record's bytes, or the error. (By program: held.py, mkrenc.py.) -/
import Derived.Test.YtganajmhdpiipaaGreatDoorRcCan
import Derived.Test.YtganajmhdpiipaaGreatDoorRcRLinks
import Derived.Test.YtganajmhdpiipaaGreatDoorCUintT
import Derived.Test.YtganajmhdpiipaaGreatDoorCPuts
import Derived.Test.YtganajmhdpiipaaGreatDoorRcRCan
namespace Go.Proofs.YtganajmhdpiipaaGreatDoor
open Go.RowKit

/-- Whether a signature has the shape of one. -/
def shpR (size idx : Int) (ls ps : List (List UInt8)) : Bool := decide (0 ≤ idx ∧ idx ≤ 255) && (decide ((ls.length : Int) = 4 * size + 5) && (decide ((ps.length : Int) ≤ 8) && (sizedB size ls && sizedB size ps)))

theorem chainsOf_any (size : Int) (w : World) (h0 : 0 ≤ size) (h1 : size ≤ 32) : Calls Tryz.prog 39 #[.int .i64 size] w fun x w' => x = .returned (.int .i64 (4 * size + 5)) ∧ w' = w := by
  have e1 : wrap64 (wrap64 (4 * size) + 5) = 4 * size + 5 := by unfold wrap64; omega
  go_enter Tryz.func39, Tryz.ntmps39
  go_wp2
  go_ret
  exact ⟨rfl, rfl⟩

set_option maxRecDepth 100000 in
set_option maxHeartbeats 8000000 in
theorem shaped_any13 (size idx : Int) (cv pv : Value) (ls ps : List (List UInt8)) (w : World) (h1 : PA w cv ls) (h2 : PA w pv ps) (h0 : 0 ≤ size) (h32 : size ≤ 32) :
    Calls Tryz.prog 15 #[.int .i64 size, .agg #[.int .i64 idx, cv, pv]] w fun x w' => x = .returned (.bool (shpR size idx ls ps)) ∧ Below w.heap.size w w' := by
  obtain ⟨pc, cc, rfl⟩ := h1.shape
  obtain ⟨pp, cp, rfl⟩ := h2.shape
  have bA := (Below.refl w.heap.size w).alloc (Nat.le_refl _) (.cells #[.int .i64 idx, .slice pc ls.length cc, .slice pp ps.length cp] 27)
  have gA := heap_alloc_new w (.cells #[.int .i64 idx, .slice pc ls.length cc, .slice pp ps.length cp] 27)
  obtain ⟨V, hV⟩ : ∃ V, w.alloc (.cells #[.int .i64 idx, .slice pc ls.length cc, .slice pp ps.length cp] 27) = V := ⟨_, rfl⟩
  rw [hV] at bA gA
  have kc := h1.later bA
  have kp := h2.later bA
  have bD : Below V.heap.size V V.drew := (Below.refl _ V).drew
  have hm1 := h1.len
  have hm2 := h2.len
  unfold maxLen at hm1 hm2
  have hCC := fun W => chainsOf_any size W h0 h32
  obtain ⟨N, hN⟩ : ∃ N, 4 * size + 5 = N := ⟨_, rfl⟩
  have HN : Hid (4 * size + 5 = N) := hN
  rw [hN] at hCC
  have hHeld : V.drew.cell? ⟨w.heap.size, 0, none⟩ = some (.int .i64 idx) ∧ V.drew.cell? ⟨w.heap.size, 1, none⟩ = some (.slice pc ls.length cc) ∧ V.drew.cell? ⟨w.heap.size, 2, none⟩ = some (.slice pp ps.length cp) := by
    have g := (bD.block _ (Array.getElem?_eq_some_iff.1 gA).1).trans gA
    exact ⟨by rw [cell_of_row _ _ _ _ _ _ g]; rfl, by rw [cell_of_row _ _ _ _ _ _ g]; rfl, by rw [cell_of_row _ _ _ _ _ _ g]; rfl⟩
  clear h1 h2 hN gA h0 h32
  go_enter Tryz.func15, Tryz.ntmps15
  go_wp2
  clear hV
  refine wp_region_heldN (by kernel_rfl) (fun W => W.cell? ⟨w.heap.size, 0, none⟩ = some (.int .i64 idx) ∧ W.cell? ⟨w.heap.size, 1, none⟩ = some (.slice pc ls.length cc) ∧ W.cell? ⟨w.heap.size, 2, none⟩ = some (.slice pp ps.length cp)) 30 rfl ?_
  refine tkY 0 ⟨some 5, .fieldAddr 27 (.tmp 3) 0, 0, "record.go:106", #[], none⟩ ?v0z1 hHeld ?y0z1 ?r0z1
  case y0z1 => (intro w hSw; (try dsimp only at hSw); go_simp) <;> with_reducible rfl
  try simp only [Act.put, List.setIfInBounds_toArray, List.set_cons_zero, List.set_cons_succ]
  refine tkY 1 ⟨some 6, .load 3 (.tmp 5), 3, "record.go:106", #[⟨0, .data⟩], none⟩ ?v1z2 hHeld ?y1z2 ?r1z2
  case y1z2 => (intro w hSw; (try dsimp only at hSw); go_simp) <;> with_reducible rfl
  try simp only [Act.put, List.setIfInBounds_toArray, List.set_cons_zero, List.set_cons_succ]
  refine wpAnyH_ready (rs := [2]) (by kernel_rfl) (by simp) ?_
  refine AllReadyH.cons (o := ⟨some 7, .call { callee := .value (.func 38), args := #[.tmp 6, .const (.int .i64 255)], argTypes := #[3, 3] }, 4, "record.go:106", #[⟨1, .data⟩], none⟩) rfl (fun K hK => ?_) AllReadyH.nil
  go_simp
  refine (within_any idx 255 _).mono ?_
  rintro x w2 ⟨rfl, hw2⟩
  subst hw2
  obtain ⟨B, hB⟩ : ∃ B, B = decide (0 ≤ idx ∧ idx ≤ 255) := ⟨_, rfl⟩
  rw [← hB]
  have HI : Hid (B = decide (0 ≤ idx ∧ idx ≤ 255)) := hB
  clear hB
  cases B with
  | true =>
    refine hK.out _ _ ?_ (fun _ => ?_)
    · exact hHeld
    clear hK K
    try simp only [Act.put, List.setIfInBounds_toArray, List.set_cons_zero, List.set_cons_succ]
    refine tkY 3 ⟨some 8, .move (.tmp 7), 4, "record.go:106", #[⟨2, .data⟩, ⟨2, .chain⟩], none⟩ ?v3z3 hHeld ?y3z3 ?r3z3
    case y3z3 => (intro w hSw; (try dsimp only at hSw); go_simp) <;> with_reducible rfl
    try simp only [Act.put, List.setIfInBounds_toArray, List.set_cons_zero, List.set_cons_succ]
    refine tkY 4 ⟨some 9, .fieldAddr 27 (.tmp 3) 1, 0, "record.go:106", #[⟨3, .guard⟩], some (3, true)⟩ ?v4z4 hHeld ?y4z4 ?r4z4
    case y4z4 => (intro w hSw; (try dsimp only at hSw); go_simp) <;> with_reducible rfl
    try simp only [Act.put, List.setIfInBounds_toArray, List.set_cons_zero, List.set_cons_succ]
    refine tkY 5 ⟨some 10, .load 23 (.tmp 9), 23, "record.go:106", #[⟨4, .data⟩, ⟨3, .guard⟩], some (3, true)⟩ ?v5z5 hHeld ?y5z5 ?r5z5
    case y5z5 => (intro w hSw; (try dsimp only at hSw); go_simp) <;> with_reducible rfl
    try simp only [Act.put, List.setIfInBounds_toArray, List.set_cons_zero, List.set_cons_succ]
    refine tkY 6 ⟨some 11, .call { callee := .builtin .len, args := #[.tmp 10], argTypes := #[23] }, 3, "record.go:106", #[⟨5, .data⟩, ⟨3, .guard⟩], some (3, true)⟩ ?v6z6 hHeld ?y6z6 ?r6z6
    case y6z6 => (intro w hSw; (try dsimp only at hSw); go_simp) <;> with_reducible rfl
    try simp only [Act.put, List.setIfInBounds_toArray, List.set_cons_zero, List.set_cons_succ]
    refine tkY 7 ⟨some 12, .move (.tmp 0), 3, "record.go:106", #[⟨3, .guard⟩], some (3, true)⟩ ?v7z7 hHeld ?y7z7 ?r7z7
    case y7z7 => (intro w hSw; (try dsimp only at hSw); go_simp) <;> with_reducible rfl
    try simp only [Act.put, List.setIfInBounds_toArray, List.set_cons_zero, List.set_cons_succ]
    refine wpAnyH_ready (rs := [8]) (by kernel_rfl) (by simp) ?_
    refine AllReadyH.cons (o := ⟨some 13, .call { callee := .value (.func 39), args := #[.tmp 12], argTypes := #[3] }, 3, "record.go:106", #[⟨7, .data⟩, ⟨3, .chain⟩, ⟨3, .guard⟩], some (3, true)⟩) rfl (fun K hK => ?_) AllReadyH.nil
    go_simp
    refine (hCC _).mono ?_
    rintro x w2 ⟨rfl, hw2⟩
    subst hw2
    refine hK.out _ _ ?_ (fun _ => ?_)
    · exact hHeld
    clear hK K
    try simp only [Act.put, List.setIfInBounds_toArray, List.set_cons_zero, List.set_cons_succ]
    by_cases hc9 : (ls.length : Int) = N
    · have n6 : ((ls.length : Int) == N) = true := by simpa using hc9
      have f6 : Hid (decide ((ls.length : Int) = N) = true) := by simpa [Hid] using hc9
      clear hc9
      refine tkY 9 ⟨some 14, .binOp .eql 3 (.tmp 11) (.tmp 13) 3, 4, "record.go:106", #[⟨6, .data⟩, ⟨8, .data⟩, ⟨3, .guard⟩], some (3, true)⟩ ?v9z8 hHeld ?y9z8 ?r9z8
      case y9z8 => (intro w hSw; (try dsimp only at hSw); go_simp) <;> with_reducible rfl
      try simp only [Act.put, List.setIfInBounds_toArray, List.set_cons_zero, List.set_cons_succ]
      refine tkY 10 ⟨some 15, .pick (.tmp 8) (.tmp 14) (.const (.bool false)), 4, "record.go:106", #[⟨3, .data⟩, ⟨9, .data⟩], none⟩ ?v10z9 hHeld ?y10z9 ?r10z9
      case y10z9 => (intro w hSw; (try dsimp only at hSw); go_simp) <;> with_reducible rfl
      try simp only [Act.put, List.setIfInBounds_toArray, List.set_cons_zero, List.set_cons_succ]
      refine tkY 11 ⟨some 16, .move (.tmp 15), 4, "record.go:106", #[⟨10, .data⟩, ⟨8, .chain⟩], none⟩ ?v11z10 hHeld ?y11z10 ?r11z10
      case y11z10 => (intro w hSw; (try dsimp only at hSw); go_simp) <;> with_reducible rfl
      try simp only [Act.put, List.setIfInBounds_toArray, List.set_cons_zero, List.set_cons_succ]
      refine tkY 12 ⟨some 17, .fieldAddr 27 (.tmp 3) 2, 0, "record.go:106", #[⟨11, .guard⟩], some (11, true)⟩ ?v12z11 hHeld ?y12z11 ?r12z11
      case y12z11 => (intro w hSw; (try dsimp only at hSw); go_simp) <;> with_reducible rfl
      try simp only [Act.put, List.setIfInBounds_toArray, List.set_cons_zero, List.set_cons_succ]
      refine tkY 13 ⟨some 18, .load 23 (.tmp 17), 23, "record.go:106", #[⟨12, .data⟩, ⟨11, .guard⟩], some (11, true)⟩ ?v13z12 hHeld ?y13z12 ?r13z12
      case y13z12 => (intro w hSw; (try dsimp only at hSw); go_simp) <;> with_reducible rfl
      try simp only [Act.put, List.setIfInBounds_toArray, List.set_cons_zero, List.set_cons_succ]
      refine tkY 14 ⟨some 19, .call { callee := .builtin .len, args := #[.tmp 18], argTypes := #[23] }, 3, "record.go:106", #[⟨13, .data⟩, ⟨11, .guard⟩], some (11, true)⟩ ?v14z13 hHeld ?y14z13 ?r14z13
      case y14z13 => (intro w hSw; (try dsimp only at hSw); go_simp) <;> with_reducible rfl
      try simp only [Act.put, List.setIfInBounds_toArray, List.set_cons_zero, List.set_cons_succ]
      by_cases hc15 : (ps.length : Int) ≤ 8
      · have f7 : Hid (decide ((ps.length : Int) ≤ 8) = true) := by simpa [Hid] using hc15
        refine tkY 15 ⟨some 20, .binOp .leq 3 (.tmp 19) (.const (.int .i64 8)) 3, 4, "record.go:106", #[⟨14, .data⟩, ⟨11, .guard⟩], some (11, true)⟩ ?v15z14 hHeld ?y15z14 ?r15z14
        case y15z14 => (intro w hSw; (try dsimp only at hSw); go_simp) <;> with_reducible rfl
        try simp only [Act.put, List.setIfInBounds_toArray, List.set_cons_zero, List.set_cons_succ]
        refine tkY 16 ⟨some 21, .pick (.tmp 16) (.tmp 20) (.const (.bool false)), 4, "record.go:106", #[⟨11, .data⟩, ⟨15, .data⟩], none⟩ ?v16z15 hHeld ?y16z15 ?r16z15
        case y16z15 => (intro w hSw; (try dsimp only at hSw); go_simp) <;> with_reducible rfl
        try simp only [Act.put, List.setIfInBounds_toArray, List.set_cons_zero, List.set_cons_succ]
        refine tkY 17 ⟨some 22, .move (.tmp 21), 4, "record.go:106", #[⟨16, .data⟩, ⟨11, .chain⟩], none⟩ ?v17z16 hHeld ?y17z16 ?r17z16
        case y17z16 => (intro w hSw; (try dsimp only at hSw); go_simp) <;> with_reducible rfl
        try simp only [Act.put, List.setIfInBounds_toArray, List.set_cons_zero, List.set_cons_succ]
        refine tkY 18 ⟨some 23, .move (.tmp 0), 3, "record.go:106", #[⟨17, .guard⟩], some (17, true)⟩ ?v18z17 hHeld ?y18z17 ?r18z17
        case y18z17 => (intro w hSw; (try dsimp only at hSw); go_simp) <;> with_reducible rfl
        try simp only [Act.put, List.setIfInBounds_toArray, List.set_cons_zero, List.set_cons_succ]
        refine tkY 19 ⟨some 24, .fieldAddr 27 (.tmp 3) 1, 0, "record.go:106", #[⟨17, .guard⟩], some (17, true)⟩ ?v19z18 hHeld ?y19z18 ?r19z18
        case y19z18 => (intro w hSw; (try dsimp only at hSw); go_simp) <;> with_reducible rfl
        try simp only [Act.put, List.setIfInBounds_toArray, List.set_cons_zero, List.set_cons_succ]
        refine tkY 20 ⟨some 25, .load 23 (.tmp 24), 23, "record.go:106", #[⟨19, .data⟩, ⟨17, .guard⟩], some (17, true)⟩ ?v20z19 hHeld ?y20z19 ?r20z19
        case y20z19 => (intro w hSw; (try dsimp only at hSw); go_simp) <;> with_reducible rfl
        try simp only [Act.put, List.setIfInBounds_toArray, List.set_cons_zero, List.set_cons_succ]
        refine wpAnyH_ready (rs := [21]) (by kernel_rfl) (by simp) ?_
        refine AllReadyH.cons (o := ⟨some 26, .call { callee := .value (.func 40), args := #[.tmp 23, .tmp 25], argTypes := #[3, 23] }, 4, "record.go:107", #[⟨18, .data⟩, ⟨20, .data⟩, ⟨17, .chain⟩, ⟨17, .guard⟩], some (17, true)⟩) rfl (fun K hK => ?_) AllReadyH.nil
        go_simp
        refine (rsized_any size _ ls _ (kc.later bD)).mono ?_
        rintro x w2 ⟨rfl, hw2⟩
        subst hw2
        obtain ⟨B, hB⟩ : ∃ B, B = sizedB size ls := ⟨_, rfl⟩
        rw [← hB]
        have HX : Hid (B = sizedB size ls) := hB
        clear hB
        cases B with
        | true =>
          refine hK.out _ _ ?_ (fun _ => ?_)
          · exact hHeld
          clear hK K
          try simp only [Act.put, List.setIfInBounds_toArray, List.set_cons_zero, List.set_cons_succ]
          refine tkY 22 ⟨some 27, .pick (.tmp 22) (.tmp 26) (.const (.bool false)), 4, "record.go:106", #[⟨17, .data⟩, ⟨21, .data⟩], none⟩ ?v22z20 hHeld ?y22z20 ?r22z20
          case y22z20 => (intro w hSw; (try dsimp only at hSw); go_simp) <;> with_reducible rfl
          try simp only [Act.put, List.setIfInBounds_toArray, List.set_cons_zero, List.set_cons_succ]
          refine tkY 23 ⟨some 28, .move (.tmp 27), 4, "record.go:106", #[⟨22, .data⟩, ⟨21, .chain⟩], none⟩ ?v23z21 hHeld ?y23z21 ?r23z21
          case y23z21 => (intro w hSw; (try dsimp only at hSw); go_simp) <;> with_reducible rfl
          try simp only [Act.put, List.setIfInBounds_toArray, List.set_cons_zero, List.set_cons_succ]
          refine tkY 24 ⟨some 29, .move (.tmp 0), 3, "record.go:106", #[⟨23, .guard⟩], some (23, true)⟩ ?v24z22 hHeld ?y24z22 ?r24z22
          case y24z22 => (intro w hSw; (try dsimp only at hSw); go_simp) <;> with_reducible rfl
          try simp only [Act.put, List.setIfInBounds_toArray, List.set_cons_zero, List.set_cons_succ]
          refine tkY 25 ⟨some 30, .fieldAddr 27 (.tmp 3) 2, 0, "record.go:106", #[⟨23, .guard⟩], some (23, true)⟩ ?v25z23 hHeld ?y25z23 ?r25z23
          case y25z23 => (intro w hSw; (try dsimp only at hSw); go_simp) <;> with_reducible rfl
          try simp only [Act.put, List.setIfInBounds_toArray, List.set_cons_zero, List.set_cons_succ]
          refine tkY 26 ⟨some 31, .load 23 (.tmp 30), 23, "record.go:106", #[⟨25, .data⟩, ⟨23, .guard⟩], some (23, true)⟩ ?v26z24 hHeld ?y26z24 ?r26z24
          case y26z24 => (intro w hSw; (try dsimp only at hSw); go_simp) <;> with_reducible rfl
          try simp only [Act.put, List.setIfInBounds_toArray, List.set_cons_zero, List.set_cons_succ]
          refine wpAnyH_ready (rs := [27]) (by kernel_rfl) (by simp) ?_
          refine AllReadyH.cons (o := ⟨some 32, .call { callee := .value (.func 40), args := #[.tmp 29, .tmp 31], argTypes := #[3, 23] }, 4, "record.go:107", #[⟨24, .data⟩, ⟨26, .data⟩, ⟨23, .chain⟩, ⟨23, .guard⟩], some (23, true)⟩) rfl (fun K hK => ?_) AllReadyH.nil
          go_simp
          refine (rsized_any size _ ps _ (kp.later bD)).mono ?_
          rintro x w2 ⟨rfl, hw2⟩
          subst hw2
          obtain ⟨B, hB⟩ : ∃ B, B = sizedB size ps := ⟨_, rfl⟩
          rw [← hB]
          have HY : Hid (B = sizedB size ps) := hB
          clear hB
          cases B with
          | true =>
            refine hK.out _ _ ?_ (fun _ => ?_)
            · exact hHeld
            clear hK K
            try simp only [Act.put, List.setIfInBounds_toArray, List.set_cons_zero, List.set_cons_succ]
            refine tkY 28 ⟨some 33, .pick (.tmp 28) (.tmp 32) (.const (.bool false)), 4, "record.go:106", #[⟨23, .data⟩, ⟨27, .data⟩], none⟩ ?v28z25 hHeld ?y28z25 ?r28z25
            case y28z25 => (intro w hSw; (try dsimp only at hSw); go_simp) <;> with_reducible rfl
            try simp only [Act.put, List.setIfInBounds_toArray, List.set_cons_zero, List.set_cons_succ]
            refine tkY 29 ⟨some 4, .assign (.tmp 33), 4, "record.go:106", #[⟨28, .data⟩, ⟨27, .chain⟩, ⟨0, .phase⟩, ⟨1, .phase⟩, ⟨2, .phase⟩, ⟨3, .phase⟩, ⟨4, .phase⟩, ⟨5, .phase⟩, ⟨6, .phase⟩, ⟨7, .phase⟩, ⟨8, .phase⟩, ⟨9, .phase⟩, ⟨10, .phase⟩, ⟨11, .phase⟩, ⟨12, .phase⟩, ⟨13, .phase⟩, ⟨14, .phase⟩, ⟨15, .phase⟩, ⟨16, .phase⟩, ⟨17, .phase⟩, ⟨18, .phase⟩, ⟨19, .phase⟩, ⟨20, .phase⟩, ⟨21, .phase⟩, ⟨22, .phase⟩, ⟨23, .phase⟩, ⟨24, .phase⟩, ⟨25, .phase⟩, ⟨26, .phase⟩, ⟨27, .phase⟩, ⟨28, .phase⟩], none⟩ ?v29z26 hHeld ?y29z26 ?r29z26
            case y29z26 => (intro w hSw; (try dsimp only at hSw); go_simp) <;> with_reducible rfl
            try simp only [Act.put, List.setIfInBounds_toArray, List.set_cons_zero, List.set_cons_succ]
            refine wpAnyH_done (by kernel_rfl) ?_ _
            have HR : Hid (shpR size idx ls ps = true) := by
              show shpR _ _ _ _ = _
              simp only [shpR, HN.out, ← HI.out, f6.out, f7.out, ← HX.out, ← HY.out, Bool.true_and]
            have HW : Hid (Below w.heap.size w V.drew) := bA.trans (bD.mono bA.size)
            clear hHeld bD bA kc kp hCC
            go_wp2
            go_ret
            rw [HR.out]
            exact ⟨rfl, HW.out⟩
          | false =>
            refine hK.out _ _ ?_ (fun _ => ?_)
            · exact hHeld
            clear hK K
            try simp only [Act.put, List.setIfInBounds_toArray, List.set_cons_zero, List.set_cons_succ]
            refine tkY 28 ⟨some 33, .pick (.tmp 28) (.tmp 32) (.const (.bool false)), 4, "record.go:106", #[⟨23, .data⟩, ⟨27, .data⟩], none⟩ ?v28z27 hHeld ?y28z27 ?r28z27
            case y28z27 => (intro w hSw; (try dsimp only at hSw); go_simp) <;> with_reducible rfl
            try simp only [Act.put, List.setIfInBounds_toArray, List.set_cons_zero, List.set_cons_succ]
            refine tkY 29 ⟨some 4, .assign (.tmp 33), 4, "record.go:106", #[⟨28, .data⟩, ⟨27, .chain⟩, ⟨0, .phase⟩, ⟨1, .phase⟩, ⟨2, .phase⟩, ⟨3, .phase⟩, ⟨4, .phase⟩, ⟨5, .phase⟩, ⟨6, .phase⟩, ⟨7, .phase⟩, ⟨8, .phase⟩, ⟨9, .phase⟩, ⟨10, .phase⟩, ⟨11, .phase⟩, ⟨12, .phase⟩, ⟨13, .phase⟩, ⟨14, .phase⟩, ⟨15, .phase⟩, ⟨16, .phase⟩, ⟨17, .phase⟩, ⟨18, .phase⟩, ⟨19, .phase⟩, ⟨20, .phase⟩, ⟨21, .phase⟩, ⟨22, .phase⟩, ⟨23, .phase⟩, ⟨24, .phase⟩, ⟨25, .phase⟩, ⟨26, .phase⟩, ⟨27, .phase⟩, ⟨28, .phase⟩], none⟩ ?v29z28 hHeld ?y29z28 ?r29z28
            case y29z28 => (intro w hSw; (try dsimp only at hSw); go_simp) <;> with_reducible rfl
            try simp only [Act.put, List.setIfInBounds_toArray, List.set_cons_zero, List.set_cons_succ]
            refine wpAnyH_done (by kernel_rfl) ?_ _
            have HR : Hid (shpR size idx ls ps = false) := by
              show shpR _ _ _ _ = _
              simp only [shpR, HN.out, ← HI.out, f6.out, f7.out, ← HX.out, ← HY.out, Bool.true_and]
            have HW : Hid (Below w.heap.size w V.drew) := bA.trans (bD.mono bA.size)
            clear hHeld bD bA kc kp hCC
            go_wp2
            go_ret
            rw [HR.out]
            exact ⟨rfl, HW.out⟩
        | false =>
          refine hK.out _ _ ?_ (fun _ => ?_)
          · exact hHeld
          clear hK K
          try simp only [Act.put, List.setIfInBounds_toArray, List.set_cons_zero, List.set_cons_succ]
          refine tkY 22 ⟨some 27, .pick (.tmp 22) (.tmp 26) (.const (.bool false)), 4, "record.go:106", #[⟨17, .data⟩, ⟨21, .data⟩], none⟩ ?v22z29 hHeld ?y22z29 ?r22z29
          case y22z29 => (intro w hSw; (try dsimp only at hSw); go_simp) <;> with_reducible rfl
          try simp only [Act.put, List.setIfInBounds_toArray, List.set_cons_zero, List.set_cons_succ]
          refine tkY 23 ⟨some 28, .move (.tmp 27), 4, "record.go:106", #[⟨22, .data⟩, ⟨21, .chain⟩], none⟩ ?v23z30 hHeld ?y23z30 ?r23z30
          case y23z30 => (intro w hSw; (try dsimp only at hSw); go_simp) <;> with_reducible rfl
          try simp only [Act.put, List.setIfInBounds_toArray, List.set_cons_zero, List.set_cons_succ]
          refine tkN 24 ⟨some 29, .move (.tmp 0), 3, "record.go:106", #[⟨23, .guard⟩], some (23, true)⟩ hHeld ?_
          try simp only [Act.put, List.setIfInBounds_toArray, List.set_cons_zero, List.set_cons_succ]
          refine tkN 25 ⟨some 30, .fieldAddr 27 (.tmp 3) 2, 0, "record.go:106", #[⟨23, .guard⟩], some (23, true)⟩ hHeld ?_
          try simp only [Act.put, List.setIfInBounds_toArray, List.set_cons_zero, List.set_cons_succ]
          refine tkN 26 ⟨some 31, .load 23 (.tmp 30), 23, "record.go:106", #[⟨25, .data⟩, ⟨23, .guard⟩], some (23, true)⟩ hHeld ?_
          try simp only [Act.put, List.setIfInBounds_toArray, List.set_cons_zero, List.set_cons_succ]
          refine tkN 27 ⟨some 32, .call { callee := .value (.func 40), args := #[.tmp 29, .tmp 31], argTypes := #[3, 23] }, 4, "record.go:107", #[⟨24, .data⟩, ⟨26, .data⟩, ⟨23, .chain⟩, ⟨23, .guard⟩], some (23, true)⟩ hHeld ?_
          try simp only [Act.put, List.setIfInBounds_toArray, List.set_cons_zero, List.set_cons_succ]
          refine tkY 28 ⟨some 33, .pick (.tmp 28) (.tmp 32) (.const (.bool false)), 4, "record.go:106", #[⟨23, .data⟩, ⟨27, .data⟩], none⟩ ?v28z31 hHeld ?y28z31 ?r28z31
          case y28z31 => (intro w hSw; (try dsimp only at hSw); go_simp) <;> with_reducible rfl
          try simp only [Act.put, List.setIfInBounds_toArray, List.set_cons_zero, List.set_cons_succ]
          refine tkY 29 ⟨some 4, .assign (.tmp 33), 4, "record.go:106", #[⟨28, .data⟩, ⟨27, .chain⟩, ⟨0, .phase⟩, ⟨1, .phase⟩, ⟨2, .phase⟩, ⟨3, .phase⟩, ⟨4, .phase⟩, ⟨5, .phase⟩, ⟨6, .phase⟩, ⟨7, .phase⟩, ⟨8, .phase⟩, ⟨9, .phase⟩, ⟨10, .phase⟩, ⟨11, .phase⟩, ⟨12, .phase⟩, ⟨13, .phase⟩, ⟨14, .phase⟩, ⟨15, .phase⟩, ⟨16, .phase⟩, ⟨17, .phase⟩, ⟨18, .phase⟩, ⟨19, .phase⟩, ⟨20, .phase⟩, ⟨21, .phase⟩, ⟨22, .phase⟩, ⟨23, .phase⟩, ⟨24, .phase⟩, ⟨25, .phase⟩, ⟨26, .phase⟩, ⟨27, .phase⟩, ⟨28, .phase⟩], none⟩ ?v29z32 hHeld ?y29z32 ?r29z32
          case y29z32 => (intro w hSw; (try dsimp only at hSw); go_simp) <;> with_reducible rfl
          try simp only [Act.put, List.setIfInBounds_toArray, List.set_cons_zero, List.set_cons_succ]
          refine wpAnyH_done (by kernel_rfl) ?_ _
          have HR : Hid (shpR size idx ls ps = false) := by
            show shpR _ _ _ _ = _
            simp only [shpR, HN.out, ← HI.out, f6.out, f7.out, ← HX.out, Bool.true_and, Bool.false_and]
          have HW : Hid (Below w.heap.size w V.drew) := bA.trans (bD.mono bA.size)
          clear hHeld bD bA kc kp hCC
          go_wp2
          go_ret
          rw [HR.out]
          exact ⟨rfl, HW.out⟩
      · have n7 : decide ((ps.length : Int) ≤ 8) = false := by simpa using hc15
        have f7 : Hid (decide ((ps.length : Int) ≤ 8) = false) := n7
        refine tkY 15 ⟨some 20, .binOp .leq 3 (.tmp 19) (.const (.int .i64 8)) 3, 4, "record.go:106", #[⟨14, .data⟩, ⟨11, .guard⟩], some (11, true)⟩ ?v15z33 hHeld ?y15z33 ?r15z33
        case y15z33 => (intro w hSw; (try dsimp only at hSw); go_simp) <;> with_reducible rfl
        try simp only [Act.put, List.setIfInBounds_toArray, List.set_cons_zero, List.set_cons_succ]
        refine tkY 16 ⟨some 21, .pick (.tmp 16) (.tmp 20) (.const (.bool false)), 4, "record.go:106", #[⟨11, .data⟩, ⟨15, .data⟩], none⟩ ?v16z34 hHeld ?y16z34 ?r16z34
        case y16z34 => (intro w hSw; (try dsimp only at hSw); go_simp) <;> with_reducible rfl
        try simp only [Act.put, List.setIfInBounds_toArray, List.set_cons_zero, List.set_cons_succ]
        refine tkY 17 ⟨some 22, .move (.tmp 21), 4, "record.go:106", #[⟨16, .data⟩, ⟨11, .chain⟩], none⟩ ?v17z35 hHeld ?y17z35 ?r17z35
        case y17z35 => (intro w hSw; (try dsimp only at hSw); go_simp) <;> with_reducible rfl
        try simp only [Act.put, List.setIfInBounds_toArray, List.set_cons_zero, List.set_cons_succ]
        refine tkN 18 ⟨some 23, .move (.tmp 0), 3, "record.go:106", #[⟨17, .guard⟩], some (17, true)⟩ hHeld ?_
        try simp only [Act.put, List.setIfInBounds_toArray, List.set_cons_zero, List.set_cons_succ]
        refine tkN 19 ⟨some 24, .fieldAddr 27 (.tmp 3) 1, 0, "record.go:106", #[⟨17, .guard⟩], some (17, true)⟩ hHeld ?_
        try simp only [Act.put, List.setIfInBounds_toArray, List.set_cons_zero, List.set_cons_succ]
        refine tkN 20 ⟨some 25, .load 23 (.tmp 24), 23, "record.go:106", #[⟨19, .data⟩, ⟨17, .guard⟩], some (17, true)⟩ hHeld ?_
        try simp only [Act.put, List.setIfInBounds_toArray, List.set_cons_zero, List.set_cons_succ]
        refine tkN 21 ⟨some 26, .call { callee := .value (.func 40), args := #[.tmp 23, .tmp 25], argTypes := #[3, 23] }, 4, "record.go:107", #[⟨18, .data⟩, ⟨20, .data⟩, ⟨17, .chain⟩, ⟨17, .guard⟩], some (17, true)⟩ hHeld ?_
        try simp only [Act.put, List.setIfInBounds_toArray, List.set_cons_zero, List.set_cons_succ]
        refine tkY 22 ⟨some 27, .pick (.tmp 22) (.tmp 26) (.const (.bool false)), 4, "record.go:106", #[⟨17, .data⟩, ⟨21, .data⟩], none⟩ ?v22z36 hHeld ?y22z36 ?r22z36
        case y22z36 => (intro w hSw; (try dsimp only at hSw); go_simp) <;> with_reducible rfl
        try simp only [Act.put, List.setIfInBounds_toArray, List.set_cons_zero, List.set_cons_succ]
        refine tkY 23 ⟨some 28, .move (.tmp 27), 4, "record.go:106", #[⟨22, .data⟩, ⟨21, .chain⟩], none⟩ ?v23z37 hHeld ?y23z37 ?r23z37
        case y23z37 => (intro w hSw; (try dsimp only at hSw); go_simp) <;> with_reducible rfl
        try simp only [Act.put, List.setIfInBounds_toArray, List.set_cons_zero, List.set_cons_succ]
        refine tkN 24 ⟨some 29, .move (.tmp 0), 3, "record.go:106", #[⟨23, .guard⟩], some (23, true)⟩ hHeld ?_
        try simp only [Act.put, List.setIfInBounds_toArray, List.set_cons_zero, List.set_cons_succ]
        refine tkN 25 ⟨some 30, .fieldAddr 27 (.tmp 3) 2, 0, "record.go:106", #[⟨23, .guard⟩], some (23, true)⟩ hHeld ?_
        try simp only [Act.put, List.setIfInBounds_toArray, List.set_cons_zero, List.set_cons_succ]
        refine tkN 26 ⟨some 31, .load 23 (.tmp 30), 23, "record.go:106", #[⟨25, .data⟩, ⟨23, .guard⟩], some (23, true)⟩ hHeld ?_
        try simp only [Act.put, List.setIfInBounds_toArray, List.set_cons_zero, List.set_cons_succ]
        refine tkN 27 ⟨some 32, .call { callee := .value (.func 40), args := #[.tmp 29, .tmp 31], argTypes := #[3, 23] }, 4, "record.go:107", #[⟨24, .data⟩, ⟨26, .data⟩, ⟨23, .chain⟩, ⟨23, .guard⟩], some (23, true)⟩ hHeld ?_
        try simp only [Act.put, List.setIfInBounds_toArray, List.set_cons_zero, List.set_cons_succ]
        refine tkY 28 ⟨some 33, .pick (.tmp 28) (.tmp 32) (.const (.bool false)), 4, "record.go:106", #[⟨23, .data⟩, ⟨27, .data⟩], none⟩ ?v28z38 hHeld ?y28z38 ?r28z38
        case y28z38 => (intro w hSw; (try dsimp only at hSw); go_simp) <;> with_reducible rfl
        try simp only [Act.put, List.setIfInBounds_toArray, List.set_cons_zero, List.set_cons_succ]
        refine tkY 29 ⟨some 4, .assign (.tmp 33), 4, "record.go:106", #[⟨28, .data⟩, ⟨27, .chain⟩, ⟨0, .phase⟩, ⟨1, .phase⟩, ⟨2, .phase⟩, ⟨3, .phase⟩, ⟨4, .phase⟩, ⟨5, .phase⟩, ⟨6, .phase⟩, ⟨7, .phase⟩, ⟨8, .phase⟩, ⟨9, .phase⟩, ⟨10, .phase⟩, ⟨11, .phase⟩, ⟨12, .phase⟩, ⟨13, .phase⟩, ⟨14, .phase⟩, ⟨15, .phase⟩, ⟨16, .phase⟩, ⟨17, .phase⟩, ⟨18, .phase⟩, ⟨19, .phase⟩, ⟨20, .phase⟩, ⟨21, .phase⟩, ⟨22, .phase⟩, ⟨23, .phase⟩, ⟨24, .phase⟩, ⟨25, .phase⟩, ⟨26, .phase⟩, ⟨27, .phase⟩, ⟨28, .phase⟩], none⟩ ?v29z39 hHeld ?y29z39 ?r29z39
        case y29z39 => (intro w hSw; (try dsimp only at hSw); go_simp) <;> with_reducible rfl
        try simp only [Act.put, List.setIfInBounds_toArray, List.set_cons_zero, List.set_cons_succ]
        refine wpAnyH_done (by kernel_rfl) ?_ _
        have HR : Hid (shpR size idx ls ps = false) := by
          show shpR _ _ _ _ = _
          simp only [shpR, HN.out, ← HI.out, f6.out, f7.out, Bool.true_and, Bool.false_and]
        have HW : Hid (Below w.heap.size w V.drew) := bA.trans (bD.mono bA.size)
        clear hHeld bD bA kc kp hCC
        go_wp2
        go_ret
        rw [HR.out]
        exact ⟨rfl, HW.out⟩
    · have n6 : ((ls.length : Int) == N) = false := by simpa using hc9
      have f6 : Hid (decide ((ls.length : Int) = N) = false) := by simpa [Hid] using hc9
      clear hc9
      refine tkY 9 ⟨some 14, .binOp .eql 3 (.tmp 11) (.tmp 13) 3, 4, "record.go:106", #[⟨6, .data⟩, ⟨8, .data⟩, ⟨3, .guard⟩], some (3, true)⟩ ?v9z40 hHeld ?y9z40 ?r9z40
      case y9z40 => (intro w hSw; (try dsimp only at hSw); go_simp) <;> with_reducible rfl
      try simp only [Act.put, List.setIfInBounds_toArray, List.set_cons_zero, List.set_cons_succ]
      refine tkY 10 ⟨some 15, .pick (.tmp 8) (.tmp 14) (.const (.bool false)), 4, "record.go:106", #[⟨3, .data⟩, ⟨9, .data⟩], none⟩ ?v10z41 hHeld ?y10z41 ?r10z41
      case y10z41 => (intro w hSw; (try dsimp only at hSw); go_simp) <;> with_reducible rfl
      try simp only [Act.put, List.setIfInBounds_toArray, List.set_cons_zero, List.set_cons_succ]
      refine tkY 11 ⟨some 16, .move (.tmp 15), 4, "record.go:106", #[⟨10, .data⟩, ⟨8, .chain⟩], none⟩ ?v11z42 hHeld ?y11z42 ?r11z42
      case y11z42 => (intro w hSw; (try dsimp only at hSw); go_simp) <;> with_reducible rfl
      try simp only [Act.put, List.setIfInBounds_toArray, List.set_cons_zero, List.set_cons_succ]
      refine tkN 12 ⟨some 17, .fieldAddr 27 (.tmp 3) 2, 0, "record.go:106", #[⟨11, .guard⟩], some (11, true)⟩ hHeld ?_
      try simp only [Act.put, List.setIfInBounds_toArray, List.set_cons_zero, List.set_cons_succ]
      refine tkN 13 ⟨some 18, .load 23 (.tmp 17), 23, "record.go:106", #[⟨12, .data⟩, ⟨11, .guard⟩], some (11, true)⟩ hHeld ?_
      try simp only [Act.put, List.setIfInBounds_toArray, List.set_cons_zero, List.set_cons_succ]
      refine tkN 14 ⟨some 19, .call { callee := .builtin .len, args := #[.tmp 18], argTypes := #[23] }, 3, "record.go:106", #[⟨13, .data⟩, ⟨11, .guard⟩], some (11, true)⟩ hHeld ?_
      try simp only [Act.put, List.setIfInBounds_toArray, List.set_cons_zero, List.set_cons_succ]
      refine tkN 15 ⟨some 20, .binOp .leq 3 (.tmp 19) (.const (.int .i64 8)) 3, 4, "record.go:106", #[⟨14, .data⟩, ⟨11, .guard⟩], some (11, true)⟩ hHeld ?_
      try simp only [Act.put, List.setIfInBounds_toArray, List.set_cons_zero, List.set_cons_succ]
      refine tkY 16 ⟨some 21, .pick (.tmp 16) (.tmp 20) (.const (.bool false)), 4, "record.go:106", #[⟨11, .data⟩, ⟨15, .data⟩], none⟩ ?v16z43 hHeld ?y16z43 ?r16z43
      case y16z43 => (intro w hSw; (try dsimp only at hSw); go_simp) <;> with_reducible rfl
      try simp only [Act.put, List.setIfInBounds_toArray, List.set_cons_zero, List.set_cons_succ]
      refine tkY 17 ⟨some 22, .move (.tmp 21), 4, "record.go:106", #[⟨16, .data⟩, ⟨11, .chain⟩], none⟩ ?v17z44 hHeld ?y17z44 ?r17z44
      case y17z44 => (intro w hSw; (try dsimp only at hSw); go_simp) <;> with_reducible rfl
      try simp only [Act.put, List.setIfInBounds_toArray, List.set_cons_zero, List.set_cons_succ]
      refine tkN 18 ⟨some 23, .move (.tmp 0), 3, "record.go:106", #[⟨17, .guard⟩], some (17, true)⟩ hHeld ?_
      try simp only [Act.put, List.setIfInBounds_toArray, List.set_cons_zero, List.set_cons_succ]
      refine tkN 19 ⟨some 24, .fieldAddr 27 (.tmp 3) 1, 0, "record.go:106", #[⟨17, .guard⟩], some (17, true)⟩ hHeld ?_
      try simp only [Act.put, List.setIfInBounds_toArray, List.set_cons_zero, List.set_cons_succ]
      refine tkN 20 ⟨some 25, .load 23 (.tmp 24), 23, "record.go:106", #[⟨19, .data⟩, ⟨17, .guard⟩], some (17, true)⟩ hHeld ?_
      try simp only [Act.put, List.setIfInBounds_toArray, List.set_cons_zero, List.set_cons_succ]
      refine tkN 21 ⟨some 26, .call { callee := .value (.func 40), args := #[.tmp 23, .tmp 25], argTypes := #[3, 23] }, 4, "record.go:107", #[⟨18, .data⟩, ⟨20, .data⟩, ⟨17, .chain⟩, ⟨17, .guard⟩], some (17, true)⟩ hHeld ?_
      try simp only [Act.put, List.setIfInBounds_toArray, List.set_cons_zero, List.set_cons_succ]
      refine tkY 22 ⟨some 27, .pick (.tmp 22) (.tmp 26) (.const (.bool false)), 4, "record.go:106", #[⟨17, .data⟩, ⟨21, .data⟩], none⟩ ?v22z45 hHeld ?y22z45 ?r22z45
      case y22z45 => (intro w hSw; (try dsimp only at hSw); go_simp) <;> with_reducible rfl
      try simp only [Act.put, List.setIfInBounds_toArray, List.set_cons_zero, List.set_cons_succ]
      refine tkY 23 ⟨some 28, .move (.tmp 27), 4, "record.go:106", #[⟨22, .data⟩, ⟨21, .chain⟩], none⟩ ?v23z46 hHeld ?y23z46 ?r23z46
      case y23z46 => (intro w hSw; (try dsimp only at hSw); go_simp) <;> with_reducible rfl
      try simp only [Act.put, List.setIfInBounds_toArray, List.set_cons_zero, List.set_cons_succ]
      refine tkN 24 ⟨some 29, .move (.tmp 0), 3, "record.go:106", #[⟨23, .guard⟩], some (23, true)⟩ hHeld ?_
      try simp only [Act.put, List.setIfInBounds_toArray, List.set_cons_zero, List.set_cons_succ]
      refine tkN 25 ⟨some 30, .fieldAddr 27 (.tmp 3) 2, 0, "record.go:106", #[⟨23, .guard⟩], some (23, true)⟩ hHeld ?_
      try simp only [Act.put, List.setIfInBounds_toArray, List.set_cons_zero, List.set_cons_succ]
      refine tkN 26 ⟨some 31, .load 23 (.tmp 30), 23, "record.go:106", #[⟨25, .data⟩, ⟨23, .guard⟩], some (23, true)⟩ hHeld ?_
      try simp only [Act.put, List.setIfInBounds_toArray, List.set_cons_zero, List.set_cons_succ]
      refine tkN 27 ⟨some 32, .call { callee := .value (.func 40), args := #[.tmp 29, .tmp 31], argTypes := #[3, 23] }, 4, "record.go:107", #[⟨24, .data⟩, ⟨26, .data⟩, ⟨23, .chain⟩, ⟨23, .guard⟩], some (23, true)⟩ hHeld ?_
      try simp only [Act.put, List.setIfInBounds_toArray, List.set_cons_zero, List.set_cons_succ]
      refine tkY 28 ⟨some 33, .pick (.tmp 28) (.tmp 32) (.const (.bool false)), 4, "record.go:106", #[⟨23, .data⟩, ⟨27, .data⟩], none⟩ ?v28z47 hHeld ?y28z47 ?r28z47
      case y28z47 => (intro w hSw; (try dsimp only at hSw); go_simp) <;> with_reducible rfl
      try simp only [Act.put, List.setIfInBounds_toArray, List.set_cons_zero, List.set_cons_succ]
      refine tkY 29 ⟨some 4, .assign (.tmp 33), 4, "record.go:106", #[⟨28, .data⟩, ⟨27, .chain⟩, ⟨0, .phase⟩, ⟨1, .phase⟩, ⟨2, .phase⟩, ⟨3, .phase⟩, ⟨4, .phase⟩, ⟨5, .phase⟩, ⟨6, .phase⟩, ⟨7, .phase⟩, ⟨8, .phase⟩, ⟨9, .phase⟩, ⟨10, .phase⟩, ⟨11, .phase⟩, ⟨12, .phase⟩, ⟨13, .phase⟩, ⟨14, .phase⟩, ⟨15, .phase⟩, ⟨16, .phase⟩, ⟨17, .phase⟩, ⟨18, .phase⟩, ⟨19, .phase⟩, ⟨20, .phase⟩, ⟨21, .phase⟩, ⟨22, .phase⟩, ⟨23, .phase⟩, ⟨24, .phase⟩, ⟨25, .phase⟩, ⟨26, .phase⟩, ⟨27, .phase⟩, ⟨28, .phase⟩], none⟩ ?v29z48 hHeld ?y29z48 ?r29z48
      case y29z48 => (intro w hSw; (try dsimp only at hSw); go_simp) <;> with_reducible rfl
      try simp only [Act.put, List.setIfInBounds_toArray, List.set_cons_zero, List.set_cons_succ]
      refine wpAnyH_done (by kernel_rfl) ?_ _
      have HR : Hid (shpR size idx ls ps = false) := by
        show shpR _ _ _ _ = _
        simp only [shpR, HN.out, ← HI.out, f6.out, Bool.true_and, Bool.false_and]
      have HW : Hid (Below w.heap.size w V.drew) := bA.trans (bD.mono bA.size)
      clear hHeld bD bA kc kp hCC
      go_wp2
      go_ret
      rw [HR.out]
      exact ⟨rfl, HW.out⟩
  | false =>
    refine hK.out _ _ ?_ (fun _ => ?_)
    · exact hHeld
    clear hK K
    try simp only [Act.put, List.setIfInBounds_toArray, List.set_cons_zero, List.set_cons_succ]
    refine tkY 3 ⟨some 8, .move (.tmp 7), 4, "record.go:106", #[⟨2, .data⟩, ⟨2, .chain⟩], none⟩ ?v3z49 hHeld ?y3z49 ?r3z49
    case y3z49 => (intro w hSw; (try dsimp only at hSw); go_simp) <;> with_reducible rfl
    try simp only [Act.put, List.setIfInBounds_toArray, List.set_cons_zero, List.set_cons_succ]
    refine tkN 4 ⟨some 9, .fieldAddr 27 (.tmp 3) 1, 0, "record.go:106", #[⟨3, .guard⟩], some (3, true)⟩ hHeld ?_
    try simp only [Act.put, List.setIfInBounds_toArray, List.set_cons_zero, List.set_cons_succ]
    refine tkN 5 ⟨some 10, .load 23 (.tmp 9), 23, "record.go:106", #[⟨4, .data⟩, ⟨3, .guard⟩], some (3, true)⟩ hHeld ?_
    try simp only [Act.put, List.setIfInBounds_toArray, List.set_cons_zero, List.set_cons_succ]
    refine tkN 6 ⟨some 11, .call { callee := .builtin .len, args := #[.tmp 10], argTypes := #[23] }, 3, "record.go:106", #[⟨5, .data⟩, ⟨3, .guard⟩], some (3, true)⟩ hHeld ?_
    try simp only [Act.put, List.setIfInBounds_toArray, List.set_cons_zero, List.set_cons_succ]
    refine tkN 7 ⟨some 12, .move (.tmp 0), 3, "record.go:106", #[⟨3, .guard⟩], some (3, true)⟩ hHeld ?_
    try simp only [Act.put, List.setIfInBounds_toArray, List.set_cons_zero, List.set_cons_succ]
    refine tkN 8 ⟨some 13, .call { callee := .value (.func 39), args := #[.tmp 12], argTypes := #[3] }, 3, "record.go:106", #[⟨7, .data⟩, ⟨3, .chain⟩, ⟨3, .guard⟩], some (3, true)⟩ hHeld ?_
    try simp only [Act.put, List.setIfInBounds_toArray, List.set_cons_zero, List.set_cons_succ]
    refine tkN 9 ⟨some 14, .binOp .eql 3 (.tmp 11) (.tmp 13) 3, 4, "record.go:106", #[⟨6, .data⟩, ⟨8, .data⟩, ⟨3, .guard⟩], some (3, true)⟩ hHeld ?_
    try simp only [Act.put, List.setIfInBounds_toArray, List.set_cons_zero, List.set_cons_succ]
    refine tkY 10 ⟨some 15, .pick (.tmp 8) (.tmp 14) (.const (.bool false)), 4, "record.go:106", #[⟨3, .data⟩, ⟨9, .data⟩], none⟩ ?v10z50 hHeld ?y10z50 ?r10z50
    case y10z50 => (intro w hSw; (try dsimp only at hSw); go_simp) <;> with_reducible rfl
    try simp only [Act.put, List.setIfInBounds_toArray, List.set_cons_zero, List.set_cons_succ]
    refine tkY 11 ⟨some 16, .move (.tmp 15), 4, "record.go:106", #[⟨10, .data⟩, ⟨8, .chain⟩], none⟩ ?v11z51 hHeld ?y11z51 ?r11z51
    case y11z51 => (intro w hSw; (try dsimp only at hSw); go_simp) <;> with_reducible rfl
    try simp only [Act.put, List.setIfInBounds_toArray, List.set_cons_zero, List.set_cons_succ]
    refine tkN 12 ⟨some 17, .fieldAddr 27 (.tmp 3) 2, 0, "record.go:106", #[⟨11, .guard⟩], some (11, true)⟩ hHeld ?_
    try simp only [Act.put, List.setIfInBounds_toArray, List.set_cons_zero, List.set_cons_succ]
    refine tkN 13 ⟨some 18, .load 23 (.tmp 17), 23, "record.go:106", #[⟨12, .data⟩, ⟨11, .guard⟩], some (11, true)⟩ hHeld ?_
    try simp only [Act.put, List.setIfInBounds_toArray, List.set_cons_zero, List.set_cons_succ]
    refine tkN 14 ⟨some 19, .call { callee := .builtin .len, args := #[.tmp 18], argTypes := #[23] }, 3, "record.go:106", #[⟨13, .data⟩, ⟨11, .guard⟩], some (11, true)⟩ hHeld ?_
    try simp only [Act.put, List.setIfInBounds_toArray, List.set_cons_zero, List.set_cons_succ]
    refine tkN 15 ⟨some 20, .binOp .leq 3 (.tmp 19) (.const (.int .i64 8)) 3, 4, "record.go:106", #[⟨14, .data⟩, ⟨11, .guard⟩], some (11, true)⟩ hHeld ?_
    try simp only [Act.put, List.setIfInBounds_toArray, List.set_cons_zero, List.set_cons_succ]
    refine tkY 16 ⟨some 21, .pick (.tmp 16) (.tmp 20) (.const (.bool false)), 4, "record.go:106", #[⟨11, .data⟩, ⟨15, .data⟩], none⟩ ?v16z52 hHeld ?y16z52 ?r16z52
    case y16z52 => (intro w hSw; (try dsimp only at hSw); go_simp) <;> with_reducible rfl
    try simp only [Act.put, List.setIfInBounds_toArray, List.set_cons_zero, List.set_cons_succ]
    refine tkY 17 ⟨some 22, .move (.tmp 21), 4, "record.go:106", #[⟨16, .data⟩, ⟨11, .chain⟩], none⟩ ?v17z53 hHeld ?y17z53 ?r17z53
    case y17z53 => (intro w hSw; (try dsimp only at hSw); go_simp) <;> with_reducible rfl
    try simp only [Act.put, List.setIfInBounds_toArray, List.set_cons_zero, List.set_cons_succ]
    refine tkN 18 ⟨some 23, .move (.tmp 0), 3, "record.go:106", #[⟨17, .guard⟩], some (17, true)⟩ hHeld ?_
    try simp only [Act.put, List.setIfInBounds_toArray, List.set_cons_zero, List.set_cons_succ]
    refine tkN 19 ⟨some 24, .fieldAddr 27 (.tmp 3) 1, 0, "record.go:106", #[⟨17, .guard⟩], some (17, true)⟩ hHeld ?_
    try simp only [Act.put, List.setIfInBounds_toArray, List.set_cons_zero, List.set_cons_succ]
    refine tkN 20 ⟨some 25, .load 23 (.tmp 24), 23, "record.go:106", #[⟨19, .data⟩, ⟨17, .guard⟩], some (17, true)⟩ hHeld ?_
    try simp only [Act.put, List.setIfInBounds_toArray, List.set_cons_zero, List.set_cons_succ]
    refine tkN 21 ⟨some 26, .call { callee := .value (.func 40), args := #[.tmp 23, .tmp 25], argTypes := #[3, 23] }, 4, "record.go:107", #[⟨18, .data⟩, ⟨20, .data⟩, ⟨17, .chain⟩, ⟨17, .guard⟩], some (17, true)⟩ hHeld ?_
    try simp only [Act.put, List.setIfInBounds_toArray, List.set_cons_zero, List.set_cons_succ]
    refine tkY 22 ⟨some 27, .pick (.tmp 22) (.tmp 26) (.const (.bool false)), 4, "record.go:106", #[⟨17, .data⟩, ⟨21, .data⟩], none⟩ ?v22z54 hHeld ?y22z54 ?r22z54
    case y22z54 => (intro w hSw; (try dsimp only at hSw); go_simp) <;> with_reducible rfl
    try simp only [Act.put, List.setIfInBounds_toArray, List.set_cons_zero, List.set_cons_succ]
    refine tkY 23 ⟨some 28, .move (.tmp 27), 4, "record.go:106", #[⟨22, .data⟩, ⟨21, .chain⟩], none⟩ ?v23z55 hHeld ?y23z55 ?r23z55
    case y23z55 => (intro w hSw; (try dsimp only at hSw); go_simp) <;> with_reducible rfl
    try simp only [Act.put, List.setIfInBounds_toArray, List.set_cons_zero, List.set_cons_succ]
    refine tkN 24 ⟨some 29, .move (.tmp 0), 3, "record.go:106", #[⟨23, .guard⟩], some (23, true)⟩ hHeld ?_
    try simp only [Act.put, List.setIfInBounds_toArray, List.set_cons_zero, List.set_cons_succ]
    refine tkN 25 ⟨some 30, .fieldAddr 27 (.tmp 3) 2, 0, "record.go:106", #[⟨23, .guard⟩], some (23, true)⟩ hHeld ?_
    try simp only [Act.put, List.setIfInBounds_toArray, List.set_cons_zero, List.set_cons_succ]
    refine tkN 26 ⟨some 31, .load 23 (.tmp 30), 23, "record.go:106", #[⟨25, .data⟩, ⟨23, .guard⟩], some (23, true)⟩ hHeld ?_
    try simp only [Act.put, List.setIfInBounds_toArray, List.set_cons_zero, List.set_cons_succ]
    refine tkN 27 ⟨some 32, .call { callee := .value (.func 40), args := #[.tmp 29, .tmp 31], argTypes := #[3, 23] }, 4, "record.go:107", #[⟨24, .data⟩, ⟨26, .data⟩, ⟨23, .chain⟩, ⟨23, .guard⟩], some (23, true)⟩ hHeld ?_
    try simp only [Act.put, List.setIfInBounds_toArray, List.set_cons_zero, List.set_cons_succ]
    refine tkY 28 ⟨some 33, .pick (.tmp 28) (.tmp 32) (.const (.bool false)), 4, "record.go:106", #[⟨23, .data⟩, ⟨27, .data⟩], none⟩ ?v28z56 hHeld ?y28z56 ?r28z56
    case y28z56 => (intro w hSw; (try dsimp only at hSw); go_simp) <;> with_reducible rfl
    try simp only [Act.put, List.setIfInBounds_toArray, List.set_cons_zero, List.set_cons_succ]
    refine tkY 29 ⟨some 4, .assign (.tmp 33), 4, "record.go:106", #[⟨28, .data⟩, ⟨27, .chain⟩, ⟨0, .phase⟩, ⟨1, .phase⟩, ⟨2, .phase⟩, ⟨3, .phase⟩, ⟨4, .phase⟩, ⟨5, .phase⟩, ⟨6, .phase⟩, ⟨7, .phase⟩, ⟨8, .phase⟩, ⟨9, .phase⟩, ⟨10, .phase⟩, ⟨11, .phase⟩, ⟨12, .phase⟩, ⟨13, .phase⟩, ⟨14, .phase⟩, ⟨15, .phase⟩, ⟨16, .phase⟩, ⟨17, .phase⟩, ⟨18, .phase⟩, ⟨19, .phase⟩, ⟨20, .phase⟩, ⟨21, .phase⟩, ⟨22, .phase⟩, ⟨23, .phase⟩, ⟨24, .phase⟩, ⟨25, .phase⟩, ⟨26, .phase⟩, ⟨27, .phase⟩, ⟨28, .phase⟩], none⟩ ?v29z57 hHeld ?y29z57 ?r29z57
    case y29z57 => (intro w hSw; (try dsimp only at hSw); go_simp) <;> with_reducible rfl
    try simp only [Act.put, List.setIfInBounds_toArray, List.set_cons_zero, List.set_cons_succ]
    refine wpAnyH_done (by kernel_rfl) ?_ _
    have HR : Hid (shpR size idx ls ps = false) := by
      show shpR _ _ _ _ = _
      simp only [shpR, HN.out, ← HI.out, Bool.false_and]
    have HW : Hid (Below w.heap.size w V.drew) := bA.trans (bD.mono bA.size)
    clear hHeld bD bA kc kp hCC
    go_wp2
    go_ret
    rw [HR.out]
    exact ⟨rfl, HW.out⟩

end Go.Proofs.YtganajmhdpiipaaGreatDoor

namespace Go.Proofs.YtganajmhdpiipaaGreatDoor
open Go.RowKit

set_option maxRecDepth 100000 in
set_option maxHeartbeats 2000000 in
theorem whole_any (size idx : Int) (cv pv : Value) (ls ps : List (List UInt8)) (w : World) (h1 : PA w cv ls) (h2 : PA w pv ps) (h0 : 0 ≤ size) (h32 : size ≤ 32) :
    Calls Tryz.prog 19 #[.int .i64 size, .agg #[.int .i64 idx, cv, pv]] w fun x w' => x = .returned (.bool (shpR size idx ls ps)) ∧ Below w.heap.size w w' := by
  obtain ⟨pc, cc, rfl⟩ := h1.shape
  obtain ⟨pp, cp, rfl⟩ := h2.shape
  have bA := (Below.refl w.heap.size w).alloc (Nat.le_refl _) (.cells #[.int .i64 idx, .slice pc ls.length cc, .slice pp ps.length cp] 27)
  have gA := heap_alloc_new w (.cells #[.int .i64 idx, .slice pc ls.length cc, .slice pp ps.length cp] 27)
  obtain ⟨V, hV⟩ : ∃ V, w.alloc (.cells #[.int .i64 idx, .slice pc ls.length cc, .slice pp ps.length cp] 27) = V := ⟨_, rfl⟩
  rw [hV] at bA gA
  have q0 : V.cell? ⟨w.heap.size, 0, none⟩ = some (.int .i64 idx) := by rw [cell_of_row _ _ 0 _ _ _ gA]; rfl
  have q1 : V.cell? ⟨w.heap.size, 1, none⟩ = some (.slice pc ls.length cc) := by rw [cell_of_row _ _ 1 _ _ _ gA]; rfl
  have q2 : V.cell? ⟨w.heap.size, 2, none⟩ = some (.slice pp ps.length cp) := by rw [cell_of_row _ _ 2 _ _ _ gA]; rfl
  have hw4 : wrap64 (wrap64 (4 * size) + 5) = 4 * size + 5 := by unfold wrap64; omega
  have hm1 := h1.len
  have hm2 := h2.len
  unfold maxLen at hm1 hm2
  by_cases hc : (0 ≤ idx ∧ idx ≤ 255) ∧ (ls.length : Int) = 4 * size + 5 ∧ (ps.length : Int) ≤ 8
  case neg =>
    have HR : Hid (shpR size idx ls ps = false) := by
      show shpR _ _ _ _ = _
      cases hB : shpR size idx ls ps with
      | false => rfl
      | true =>
        unfold shpR at hB
        simp only [Bool.and_eq_true, decide_eq_true_eq] at hB
        exact absurd ⟨hB.1, hB.2.1, hB.2.2.1⟩ hc
    have HF : Hid (Below w.heap.size w V) := bA
    by_cases a1 : idx < 0
    · clear hc hm1 hm2 h1 h2 bA gA
      go_enter Tryz.func19, Tryz.ntmps19
      go_wp2
      go_ret
      rw [HR.out]
      exact ⟨rfl, HF.out⟩
    · by_cases a2 : 255 < idx
      · clear hc hm1 hm2 h1 h2 bA gA
        go_enter Tryz.func19, Tryz.ntmps19
        go_wp2
        go_ret
        rw [HR.out]
        exact ⟨rfl, HF.out⟩
      · by_cases a3 : (ls.length : Int) = 4 * size + 5
        · have a4 : ¬ (ps.length : Int) ≤ 8 := fun q => hc ⟨by omega, a3, q⟩
          have a5 : (8 : Int) < (ps.length : Int) := by omega
          have a3' : ((ls.length : Int) == 4 * size + 5) = true := by simpa using a3
          have a3'' : ((ls.length : Int) != 4 * size + 5) = false := by simpa using a3
          clear hc hm1 hm2 h1 h2 bA gA a3 a4
          go_enter Tryz.func19, Tryz.ntmps19
          go_wp2
          go_ret
          rw [HR.out]
          exact ⟨rfl, HF.out⟩
        · have a3' : ((ls.length : Int) == 4 * size + 5) = false := by simpa using a3
          have a3'' : ((ls.length : Int) != 4 * size + 5) = true := by simpa using a3
          clear hc hm1 hm2 h1 h2 bA gA a3
          go_enter Tryz.func19, Tryz.ntmps19
          go_wp2
          go_ret
          rw [HR.out]
          exact ⟨rfl, HF.out⟩
  case pos =>
    obtain ⟨⟨a1, a2⟩, a3, a4⟩ := hc
    have HR : Hid (shpR size idx ls ps = (sizedB size ls && sizedB size ps)) := by
      show shpR _ _ _ _ = _
      unfold shpR
      rw [decide_eq_true (show 0 ≤ idx ∧ idx ≤ 255 from ⟨a1, a2⟩), decide_eq_true a3, decide_eq_true a4]
      rfl
    have a3' : ((ls.length : Int) == 4 * size + 5) = true := by simpa using a3
    have a3'' : ((ls.length : Int) != 4 * size + 5) = false := by simpa using a3
    have hp2 : ∀ W, Below V.heap.size V W → PA W (.slice pc ls.length cc) ls ∧ PA W (.slice pp ps.length cp) ps := fun W hb => ⟨h1.later (bA.trans (hb.mono bA.size)), h2.later (bA.trans (hb.mono bA.size))⟩
    have bB := (Below.refl V.heap.size V).alloc (Nat.le_refl _) (.cells #[.slice pc ls.length cc, .slice pp ps.length cp] 23)
    have gB := heap_alloc_new V (.cells #[.slice pc ls.length cc, .slice pp ps.length cp] 23)
    have HF : Hid (Below w.heap.size w (V.alloc (.cells #[.slice pc ls.length cc, .slice pp ps.length cp] 23))) := bA.trans (bB.mono bA.size)
    have hsV : V.heap.size = w.heap.size + 1 := by rw [← hV]; simp
    obtain ⟨k1, k2⟩ := hp2 _ bB
    clear a3 h1 h2 bA gA hp2 hm1 hm2
    rw [hsV] at gB
    go_enter Tryz.func19, Tryz.ntmps19
    go_wp2
    obtain ⟨U, hU⟩ : ∃ U, V.alloc (.cells #[.slice pc ls.length cc, .slice pp ps.length cp] 23) = U := ⟨_, rfl⟩
    rw [hU] at gB HF k1 k2 ⊢
    clear hU bB hV q0 q1 q2
    go_loop [38] (fun i => ∃ n : Nat, n ≤ 2 ∧ i = .int .i64 (n : Int) ∧ Hid ((0 < n → sizedB size ls = true) ∧ (1 < n → sizedB size ps = true))) (fun i => 2 - (intOf i).toNat)
    case atStart => exact ⟨0, by omega, rfl, ⟨fun h => absurd h (by omega), fun h => absurd h (by omega)⟩⟩
    case round =>
      obtain ⟨n, hn, rfl, hI⟩ := hrel
      by_cases hlt : n < 2
      · have hlt2 : (n : Int) < 2 := by omega
        have hL : ∃ (pL : Option Addr) (cL : Nat) (L : List (List UInt8)), U.cell? ⟨w.heap.size + 1, n, none⟩ = some (.slice pL L.length cL) ∧ PA U (.slice pL L.length cL) L ∧ (sizedB size L = false → shpR size idx ls ps = false) ∧ (sizedB size L = true → ((0 < n + 1 → sizedB size ls = true) ∧ (1 < n + 1 → sizedB size ps = true))) := by
          have h01 : n = 0 ∨ n = 1 := by omega
          have hI' := hI.out
          rcases h01 with rfl | rfl
          · refine ⟨pc, cc, ls, by rw [cell_of_row _ _ 0 _ _ _ gB]; rfl, k1, fun q => by rw [HR.out, q]; rfl, fun q => ⟨fun _ => q, fun h => absurd h (by omega)⟩⟩
          · refine ⟨pp, cp, ps, by rw [cell_of_row _ _ 1 _ _ _ gB]; rfl, k2, fun q => by rw [HR.out, q]; simp, fun q => ⟨fun _ => hI'.1 (by omega), fun _ => q⟩⟩
        obtain ⟨pL, cL, L, hc, hP, hf, ht⟩ := hL
        have Hf := (show Hid _ from hf)
        have Ht := (show Hid _ from ht)
        have hmL := hP.len
        unfold maxLen at hmL
        clear hf ht gB k1 k2
        go_wp2
        go_loop [44] (fun i => ∃ k : Nat, k ≤ L.length ∧ i = .int .i64 (k : Int) ∧ Hid (sizedB size (L.take k) = true)) (fun i => L.length - (intOf i).toNat)
        case atStart => exact ⟨0, Nat.zero_le _, rfl, rfl⟩
        case round =>
          obtain ⟨k, hk, rfl, hS⟩ := hrel
          by_cases hkl : k < L.length
          · obtain ⟨b, o, rfl⟩ := hP.addr (by omega)
            obtain ⟨q, kc, l, hl, c1, h1⟩ := hP.get k hkl
            have hkl2 : (k : Int) < (L.length : Int) := by omega
            by_cases hz : (l.length : Int) = size
            · have HN : Hid (sizedB size (L.take (k + 1)) = true) := by
                show sizedB _ _ = true
                rw [List.take_add_one, hl.out]
                show sizedB size (L.take k ++ [l]) = true
                rw [sized_snoc, hS.out]
                simpa using hz
              have hne : ((l.length : Int) != size) = false := by simpa using hz
              clear hl h1 hS hz
              go_wp2
              go_round
              case rel => first | exact ⟨k + 1, by omega, by go_num, HN⟩ | ((repeat apply Exists.intro); exact ⟨⟨k + 1, by omega, by go_num, HN⟩, rfl⟩)
              case measure => simp [intOf]; omega
            · have HB : Hid (shpR size idx ls ps = false) := Hf.out (sized_no size L k l hl.out hz)
              have hne : ((l.length : Int) != size) = true := by simpa using hz
              clear hl h1 hS hz
              go_wp2
              go_ret
              rw [HB.out]
              exact ⟨rfl, HF.out⟩
          · obtain rfl : k = L.length := by omega
            have HT := (show Hid _ from Ht.out (by have := hS.out; rwa [List.take_length] at this))
            have hnk : ¬ (L.length : Int) < (L.length : Int) := by omega
            clear hS Ht Hf
            go_wp2
            go_round
            case rel => first | exact ⟨n + 1, by omega, by go_num, HT⟩ | ((repeat apply Exists.intro); exact ⟨⟨n + 1, by omega, by go_num, HT⟩, rfl⟩)
            case measure => simp [intOf]; omega
      · obtain rfl : n = 2 := by omega
        have HB : Hid (shpR size idx ls ps = true) := by
          show shpR _ _ _ _ = true
          rw [HR.out, hI.out.1 (by omega), hI.out.2 (by omega)]
          rfl
        clear gB k1 k2
        go_wp2
        go_ret
        rw [HB.out]
        exact ⟨rfl, HF.out⟩

end Go.Proofs.YtganajmhdpiipaaGreatDoor

namespace Go.Proofs.YtganajmhdpiipaaGreatDoor
open Go.RowKit

/-- A record's bytes. -/
def encL (r : Rc) : List UInt8 := numL (clampN r.e) ++ numL (clampN r.t) ++ bytesL r.tr ++ numL (clampN r.c) ++ bytesL r.li ++ putL r.lk

theorem numL_le (n : Int) : (numL (clampN n)).length ≤ 9 := by
  rw [numL_length]
  have h1 := clampN_le n
  have := cnt_le8 (clampN n) (by omega)
  omega

theorem cuint_hb (v : Value) (l : List UInt8) (n : Int) (w : World) (h : HB w v l) (hbig : l.length ≤ 1048576) :
    Calls Tryz.prog 36 #[v, .int .i64 n] w fun e w' => ∃ p c, e = .returned (.slice p (l ++ numL (clampN n)).length c) ∧ HB w' (.slice p (l ++ numL (clampN n)).length c) (l ++ numL (clampN n)) ∧ Below w.heap.size w w' :=
  (cuint_any v l n w h (by omega)).mono fun _ _ ⟨p, c, e1, e2, e3⟩ => ⟨p, c, e1, HB.of_owns e2, e3⟩

theorem PA.one' (w : World) (a : Value) (la : List UInt8) (ha : HB w a la) : PA (w.alloc (.cells #[a] 22)) (.slice (some ⟨w.heap.size, 0, none⟩) 1 1) [la] := by
  refine ⟨_, 1, [a], rfl, Nat.le_refl _, by decide, (fun h => by cases h), rfl, fun _ => ⟨_, 0, rfl, fun i x hx => ?_⟩, fun i x l hx hl => ?_⟩
  · rw [Nat.zero_add, cell_of_row _ _ i _ _ _ (heap_alloc_new w _)]
    simpa using hx
  · have hbe := (Below.refl w.heap.size w).alloc (Nat.le_refl _) (.cells #[a] 22)
    match i with
    | 0 => simp at hx hl; subst hx; subst hl; exact ha.later hbe
    | n + 1 => simp at hx

set_option maxRecDepth 100000 in
set_option maxHeartbeats 2000000 in
theorem encode_no (size e t c : Int) (tv lv kv : Value) (tr li : List UInt8) (lk : List (List UInt8)) (w : World) (h1 : HB w tv tr) (h2 : HB w lv li) (h3 : PA w kv lk) (hTD : TD w) (hcan : canB size ⟨e, t, c, tr, li, lk⟩ = false) :
    Calls Tryz.prog 14 #[.int .i64 size, .agg #[.int .i64 e, .int .i64 t, tv, .int .i64 c, lv, kv]] w fun x w' => x = .returned (.tuple #[.slice none 0 0, .int .i64 1]) ∧ Below w.heap.size w w' := by
  have bA := (Below.refl w.heap.size w).alloc (Nat.le_refl _) (.cells #[.int .i64 e, .int .i64 t, tv, .int .i64 c, lv, kv] 25)
  have hC := can_any size e t c tv lv kv tr li lk _ (h1.later bA) (h2.later bA) (h3.later bA) (hTD.later bA)
  rw [hcan] at hC
  obtain ⟨tp, tc, rfl⟩ := h1.shape
  obtain ⟨lp, lc, rfl⟩ := h2.shape
  obtain ⟨kp, kc, rfl⟩ := h3.shape
  clear h1 h2 h3 hTD hcan
  go_enter Tryz.func14, Tryz.ntmps14
  go_wp2_with fail
  refine hC.mono ?_
  rintro x w1 ⟨rfl, hb1⟩
  have hb := bA.trans (hb1.mono bA.size)
  clear hC bA hb1
  go_wp2
  go_ret2
  exact ⟨rfl, hb⟩

set_option maxRecDepth 100000 in
set_option maxHeartbeats 4000000 in
theorem encode_yes (size e t c : Int) (tv lv kv : Value) (tr li : List UInt8) (lk : List (List UInt8)) (w : World) (h1 : HB w tv tr) (h2 : HB w lv li) (h3 : PA w kv lk) (hTD : TD w) (hcan : canB size ⟨e, t, c, tr, li, lk⟩ = true) :
    Calls Tryz.prog 14 #[.int .i64 size, .agg #[.int .i64 e, .int .i64 t, tv, .int .i64 c, lv, kv]] w fun x w' => ∃ v, x = .returned (.tuple #[v, .int .i64 0]) ∧ HB w' v (encL ⟨e, t, c, tr, li, lk⟩) ∧ Below w.heap.size w w' := by
  have bA := (Below.refl w.heap.size w).alloc (Nat.le_refl _) (.cells #[.int .i64 e, .int .i64 t, tv, .int .i64 c, lv, kv] 25)
  have gA := heap_alloc_new w (.cells #[.int .i64 e, .int .i64 t, tv, .int .i64 c, lv, kv] 25)
  have hC := can_any size e t c tv lv kv tr li lk _ (h1.later bA) (h2.later bA) (h3.later bA) (hTD.later bA)
  rw [hcan] at hC
  obtain ⟨q1, q2, q3, q4, q5, q6, q7, q8, q9, q10, q11, q12⟩ := (canB_iff _ _).1 hcan
  dsimp only at q3 q4 q5 q6 q7 q8 q9 q10 q11 q12
  have hlk63 : lk.length ≤ 63 := by rw [q9]; exact linksL_len _ (by omega)
  have hlz := sized_le q12 q2
  have htr : tr.length ≤ 32 := by omega
  have hli : li.length ≤ 32 := by omega
  clear q9 q10 q11 q12 hcan
  obtain ⟨tp, tc, rfl⟩ := h1.shape
  obtain ⟨lp, lc, rfl⟩ := h2.shape
  obtain ⟨kp, kc, rfl⟩ := h3.shape
  obtain ⟨V, hV⟩ : ∃ V, V = w.alloc (.cells #[.int .i64 e, .int .i64 t, .slice tp tr.length tc, .int .i64 c, .slice lp li.length lc, .slice kp lk.length kc] 25) := ⟨_, rfl⟩
  rw [← hV] at bA gA hC
  have hg : w.heap.size < V.heap.size := (Array.getElem?_eq_some_iff.1 gA).1
  have hcells : ∀ W, Below V.heap.size V W → W.cell? ⟨w.heap.size, 0, none⟩ = some (.int .i64 e) ∧ W.cell? ⟨w.heap.size, 1, none⟩ = some (.int .i64 t) ∧ W.cell? ⟨w.heap.size, 2, none⟩ = some (.slice tp tr.length tc) ∧ W.cell? ⟨w.heap.size, 3, none⟩ = some (.int .i64 c) ∧ W.cell? ⟨w.heap.size, 4, none⟩ = some (.slice lp li.length lc) ∧ W.cell? ⟨w.heap.size, 5, none⟩ = some (.slice kp lk.length kc) := by
    intro W hB
    have g1 := (hB.block _ hg).trans gA
    refine ⟨?_, ?_, ?_, ?_, ?_, ?_⟩ <;> (rw [cell_of_row _ _ _ _ _ _ g1]; rfl)
  have k1 := h1.later bA
  have k2 := h2.later bA
  have k3 := h3.later bA
  have HE : Hid (∀ A, A = (((([] ++ numL (clampN e)) ++ numL (clampN t)) ++ putL [tr]) ++ numL (clampN c)) ++ putL [li] ++ putL lk → A = encL ⟨e, t, c, tr, li, lk⟩) := by
    intro A hA
    rw [hA]
    simp [encL, putL_one]
  have n1 := numL_le e
  have n2 := numL_le t
  have n3 := numL_le c
  have p1 := putL_len [tr] (by simpa using htr)
  have p2 := putL_len [li] (by simpa using hli)
  simp only [List.length_cons, List.length_nil] at p1 p2
  clear h1 h2 h3 hTD gA q1 q2 q3 q4 q5 q6 q7 q8
  go_enter Tryz.func14, Tryz.ntmps14
  go_wp2_with fail
  rw [← hV]
  refine hC.mono ?_
  rintro x w1 ⟨rfl, hb1⟩
  clear hC hV
  obtain ⟨c0, c1, c2, c3, c4, c5⟩ := hcells w1 hb1
  have hU := cuint_hb (.slice none 0 0) [] e w1 (HB.nil _) (by simp)
  go_wp2_with fail
  refine hU.mono ?_
  rintro x w2 ⟨p2', cc2, rfl, hh2, hb2'⟩
  have hb2 := hb1.trans (hb2'.mono hb1.size)
  clear hU c0 c1 c2 c3 c4 c5 hb1 hb2'
  obtain ⟨c0, c1, c2, c3, c4, c5⟩ := hcells w2 hb2
  have hl2 : ([] ++ numL (clampN e)).length ≤ 9 := by simpa using n1
  have HF2 : Hid ([] ++ numL (clampN e) = [] ++ numL (clampN e)) := rfl
  generalize hF2 : [] ++ numL (clampN e) = F2 at hh2 hl2 HE ⊢
  clear hF2 HF2 n1
  have hU := cuint_hb _ F2 t w2 hh2 (by omega)
  go_wp2_with fail
  refine hU.mono ?_
  rintro x w3 ⟨p3', cc3, rfl, hh3, hb3'⟩
  have hb3 := hb2.trans (hb3'.mono hb2.size)
  clear hU c0 c1 c2 c3 c4 c5 hb2 hb3' hh2
  obtain ⟨c0, c1, c2, c3, c4, c5⟩ := hcells w3 hb3
  have hl3 : (F2 ++ numL (clampN t)).length ≤ 18 := by rw [List.length_append]; omega
  generalize hF3 : F2 ++ numL (clampN t) = F3 at hh3 hl3 HE ⊢
  clear hF3 n2 hl2
  have bB3 := hb3.alloc hb3.size (.cells #[.slice tp tr.length tc] 22)
  have bC3 := (Below.refl w3.heap.size w3).alloc (Nat.le_refl _) (.cells #[.slice tp tr.length tc] 22)
  have hP := rput_any _ _ F3 [tr] _ (hh3.later bC3) (PA.one' w3 _ tr (k1.later hb3)) (by omega) (by simp) (by simpa using htr)
  go_wp2_with fail
  refine hP.mono ?_
  rintro x w4 ⟨v4, rfl, hh4, hb4'⟩
  have hb4 := bB3.trans (hb4'.mono bB3.size)
  clear hP c0 c1 c2 c3 c4 c5 hb3 hb4' hh3 bB3 bC3
  obtain ⟨c0, c1, c2, c3, c4, c5⟩ := hcells w4 hb4
  have hl4 : (F3 ++ putL [tr]).length ≤ 100 := by rw [List.length_append]; omega
  generalize hF4 : F3 ++ putL [tr] = F4 at hh4 hl4 HE ⊢
  clear hF4 p1 hl3
  have hU := cuint_hb _ F4 c w4 hh4 (by omega)
  go_wp2_with fail
  refine hU.mono ?_
  rintro x w5 ⟨p5', cc5, rfl, hh5, hb5'⟩
  have hb5 := hb4.trans (hb5'.mono hb4.size)
  clear hU c0 c1 c2 c3 c4 c5 hb4 hb5' hh4
  obtain ⟨c0, c1, c2, c3, c4, c5⟩ := hcells w5 hb5
  have hl5 : (F4 ++ numL (clampN c)).length ≤ 120 := by rw [List.length_append]; omega
  generalize hF5 : F4 ++ numL (clampN c) = F5 at hh5 hl5 HE ⊢
  clear hF5 n3 hl4
  have bB5 := hb5.alloc hb5.size (.cells #[.slice lp li.length lc] 22)
  have bC5 := (Below.refl w5.heap.size w5).alloc (Nat.le_refl _) (.cells #[.slice lp li.length lc] 22)
  have hP := rput_any _ _ F5 [li] _ (hh5.later bC5) (PA.one' w5 _ li (k2.later hb5)) (by omega) (by simp) (by simpa using hli)
  go_wp2_with fail
  refine hP.mono ?_
  rintro x w6 ⟨v6, rfl, hh6, hb6'⟩
  have hb6 := bB5.trans (hb6'.mono bB5.size)
  clear hP c0 c1 c2 c3 c4 c5 hb5 hb6' hh5 bB5 bC5
  obtain ⟨c0, c1, c2, c3, c4, c5⟩ := hcells w6 hb6
  have hl6 : (F5 ++ putL [li]).length ≤ 200 := by rw [List.length_append]; omega
  generalize hF6 : F5 ++ putL [li] = F6 at hh6 hl6 HE ⊢
  clear hF6 p2 hl5
  have hP := rput_any _ _ F6 lk _ hh6 (k3.later hb6) (by omega) (by omega) hlz
  go_wp2_with fail
  refine hP.mono ?_
  rintro x w7 ⟨v7, rfl, hh7, hb7'⟩
  have hb7 := bA.trans ((hb6.trans (hb7'.mono hb6.size)).mono bA.size)
  rw [HE.out _ rfl] at hh7
  clear hP c0 c1 c2 c3 c4 c5 hb6 hb7' hh6 hcells HE
  go_wp2
  go_ret2
  exact ⟨_, rfl, hh7, hb7⟩

end Go.Proofs.YtganajmhdpiipaaGreatDoor

namespace Go.Proofs.YtganajmhdpiipaaGreatDoor
open Go.RowKit

def natOf : Value → Nat | .int _ i => i.toNat | _ => 0

/-- One byte in a new block is a row that the call owns. -/
theorem owns_one (w : World) (base : Nat) (e : TypeId) (y : UInt8) (V : Value) (hV : V = bc y) (hb : base ≤ w.heap.size) : (w.alloc (.cells #[V] e)).ownsRow base e 1 (.slice (some ⟨w.heap.size, 0, none⟩) 1 1) 1 (bcs [y]) := by
  subst hV
  exact ⟨rfl, .inr ⟨w.heap.size, 1, #[bc y], rfl, hb, heap_alloc_new w _, Nat.le_refl _, by unfold maxLen; omega, rfl, rfl⟩⟩

theorem low_byte (m : Nat) : Value.int .u8 ((m : Int) % 256) = bc (UInt8.ofNat m) := by
  unfold bc
  rw [show (m : Int) % 256 = ((m % 256 : Nat) : Int) by omega]
  simp

set_option maxRecDepth 100000 in
set_option maxHeartbeats 2000000 in
theorem ruint_any (v : Value) (l : List UInt8) (n : Int) (w : World) (h : HB w v l) (hbig : l.length ≤ 140737488355300) :
    Calls Tryz.prog 44 #[v, .int .i64 n] w fun e w' => ∃ p c, e = .returned (.slice p (l ++ numL (clampN n)).length c) ∧ w'.ownsRow w.heap.size 5 1 (.slice p (l ++ numL (clampN n)).length c) (l ++ numL (clampN n)).length (bcs (l ++ numL (clampN n))) ∧ Below w.heap.size w w' := by
  obtain ⟨p, c, rfl⟩ := h.shape
  obtain ⟨i0, hi, hz0, hz1, hz2⟩ := info_parts i_u8
  have hNle := clampN_le n
  have hcl : max 0 (min n 4611686018427387904) = (clampN n : Int) := by unfold clampN; omega
  generalize clampN n = N at *
  have hc8 := cnt_le8 N (by omega)
  have HNL : Hid (numL N = UInt8.ofNat (ndigs N).length :: ndigs N) := by show _ = _; unfold numL; rw [ndigs_length]
  have hdl : (ndigs N).length ≤ 8 := by rw [ndigs_length]; exact hc8
  go_enter Tryz.func44, Tryz.ntmps44
  go_wp2
  go_loopw [1, 5] (fun i v wr => ∃ (m : Nat) (L : List UInt8) (p5 : Option Addr) (c5 : Nat), m ≤ N ∧ i = .int .i64 (m : Int) ∧ v = .slice p5 L.length c5 ∧ HB wr (.slice p5 L.length c5) L ∧ ndigs N = ndigs m ++ L ∧ Below w.heap.size w wr)
    (fun i _ _ => natOf i)
  case atStart => exact ⟨N, [], none, 0, Nat.le_refl _, rfl, rfl, HB.nil _, by simp, Below.refl _ _⟩
  case round =>
    obtain ⟨m, L, p5, c5, hmN, rfl, rfl, hL, hdig, hbe⟩ := hrel
    have hsz := hbe.size
    have hLl : L.length ≤ 8 := by
      have := congrArg List.length hdig
      rw [List.length_append] at this
      omega
    by_cases hm : 0 < m
    · have HD : Hid (ndigs N = ndigs (m / 256) ++ (UInt8.ofNat m :: L)) := by
        show _ = _
        rw [hdig, ndigs_step m (by omega) (by omega)]
        simp
      have hm2 : (0 : Int) < (m : Int) := by omega
      have hown0 := owns_one wr w.heap.size 5 (UInt8.ofNat m) _ (low_byte m) hsz
      have hL0 := hL.later ((Below.refl _ wr).alloc (Nat.le_refl _) (.cells #[Value.int .u8 ((m : Int) % 256)] 5))
      clear hdig hL h HNL
      go_wp2_with (first | (at_builtin; refine wpList_append_hb rfl (.tmp 14) (.tmp 15) 22 rfl w.heap.size 5 Tryz.underlying22 i_u8 _ _ _ rfl hown0 _ _ _ L rfl hL0 ?sa ?sb ?_))
      case sa => omega
      case sb => simp; omega
      intro v2 w2 hown2 hgrow2
      have hb2 : Below w.heap.size w w2 := (hbe.alloc hsz _).grown hgrow2 (by simp; omega) (by intro k hk; cases hk; exact hsz)
      have hh : HB w2 v2 (UInt8.ofNat m :: L) := by
        rw [← bcs_append] at hown2
        exact HB.of_owns hown2
      obtain ⟨p2, c2, rfl⟩ := hh.shape
      have HH : Hid (HB w2 (.slice p2 (UInt8.ofNat m :: L).length c2) (UInt8.ofNat m :: L)) := hh
      clear hgrow2 hown2 hown0 hL0 hbe hh
      go_wp2
      exact ⟨⟨m / 256, UInt8.ofNat m :: L, p2, c2, by omega, by rw [show ((m / 256 : Nat) : Int) = (m : Int) / 256 by omega], rfl, HH.out, HD.out, hb2⟩, by simp [natOf]; omega⟩
    · obtain rfl : m = 0 := by omega
      rw [ndigs_zero, List.nil_append] at hdig
      rw [hdig] at HNL
      have hl1 := h.later hbe
      have h2 : HB (wr.alloc (.cells #[] 5)) (.slice p l.length c) l := hl1.later ((Below.refl _ wr).alloc (Nat.le_refl _) _)
      have hb1 : Below w.heap.size w (wr.alloc (.cells #[] 5)) := hbe.alloc hsz _
      have hL1 : HB (wr.alloc (.cells #[] 5)) (.slice p5 L.length c5) L := hL.later ((Below.refl _ wr).alloc (Nat.le_refl _) _)
      clear hdig h hl1 hmN
      go_wp2_with (first | (at_builtin; refine wpList_append_hb rfl (.tmp 19) (.tmp 20) 22 rfl wr.heap.size 5 Tryz.underlying22 i_u8 _ 0 [] rfl (World.ownsRow_made wr #[] 0 (Nat.le_refl _) (Nat.zero_le _) rfl) _ _ _ l rfl h2 ?qa ?qb ?_))
      case qa => omega
      case qb => simp
      intro v3 w3 hown3 hgrow3
      have hbr3 : Below wr.heap.size wr w3 := ((Below.refl _ wr).alloc (Nat.le_refl _) _).grown hgrow3 (by simp) (by intro k hk; cases hk; exact Nat.le_refl _)
      have hb3 : Below w.heap.size w w3 := hbe.trans (hbr3.mono hsz)
      have hs3 := hb3.size
      have hown3' : w3.ownsRow wr.heap.size 5 1 v3 l.length (bcs l) := by simpa using hown3
      obtain ⟨p3, c3, rfl⟩ := owns_shape hown3'
      have hsr3 := hbr3.size
      clear hown3 hgrow3 h2 hL1 hb1
      have HV : Hid (Value.int .u8 (L.length : Int) = bc (UInt8.ofNat L.length)) := by show Value.int .u8 (L.length : Int) = bc (UInt8.ofNat L.length); simp [bc]; omega
      go_wp2_with (first | (at_builtin; refine wpList_append_own _ rfl (.tmp 21) (.tmp 25) 22 rfl wr.heap.size 5 i0 (.int .u8 0) 1 1 Tryz.underlying22 hi hz0 hz1 hz2 rfl (by decide) _ _ _ rfl (hown3'.alloc _) ⟨w3.heap.size, 0, none⟩ 1 1 [.int .u8 (L.length : Int)] rfl rfl ?ua ?ub ?uc ?ud ?ue ?_))
      case ua => exact cell_one_new _ _ _
      case ub => intro u hu; simp at hu; subst hu; rfl
      case uc => unfold maxLen; omega
      case ud => omega
      case ue => simp; omega
      intro v4 w4 hown4 hgrow4 _
      have hbr4 : Below wr.heap.size wr w4 := (hbr3.alloc hsr3 _).grown hgrow4 (by simp; omega) (fun k hk => (hown3'.lt k hk).1)
      have hL4 := hL.later hbr4
      have hb4 : Below w.heap.size w w4 := hbe.trans (hbr4.mono hsz)
      have hsr4 := hbr4.size
      have hs4 := hb4.size
      rw [HV.out, show bcs l ++ [bc (UInt8.ofNat L.length)] = bcs (l ++ [UInt8.ofNat L.length]) by simp [bcs]] at hown4
      obtain ⟨p4, c4, rfl⟩ := owns_shape hown4
      clear hgrow4 hown3' hbr3 hb3 hs3 HV hL hbe
      go_wp2_with (first | (at_builtin; refine wpList_append_hb rfl (.tmp 27) (.tmp 28) 22 rfl wr.heap.size 5 Tryz.underlying22 i_u8 _ _ _ rfl hown4 _ _ _ L rfl hL4 ?ra ?rb ?_))
      case ra => omega
      case rb => exact hsr4
      intro v5 w5 hown5 hgrow5
      have hb5 : Below w.heap.size w w5 := hb4.grown hgrow5 hs4 (fun k hk => Nat.le_trans hsz (hown4.lt k hk).1)
      have HE : Hid (l ++ [UInt8.ofNat L.length] ++ L = l ++ numL N) := by show _ = _; rw [HNL.out]; simp
      have HQ : Hid ((l ++ numL N).length = l.length + 1 + L.length) := by show _ = _; rw [← HE.out]; simp; omega
      rw [← bcs_append, HE.out, ← HQ.out] at hown5
      have hown6 := owns_mono hown5 hsz
      obtain ⟨p6, c6, rfl⟩ := owns_shape hown6
      have H6 : Hid (w5.ownsRow w.heap.size 5 1 (.slice p6 (l ++ numL N).length c6) (l ++ numL N).length (bcs (l ++ numL N))) := hown6
      clear hgrow5 hown4 hown5 hown6 hL4 hb4 HE HQ
      go_wp2
      go_ret
      exact ⟨_, _, rfl, H6.out, hb5⟩

set_option maxRecDepth 100000 in
set_option maxHeartbeats 1000000 in
theorem rbytes_any (v u : Value) (l s : List UInt8) (w : World) (h : HB w v l) (hs : HB w u s) (hbig : l.length + s.length ≤ 140737488355200) :
    Calls Tryz.prog 21 #[v, u] w fun e w' => ∃ p c, e = .returned (.slice p (l ++ bytesL s).length c) ∧ w'.ownsRow w.heap.size 5 1 (.slice p (l ++ bytesL s).length c) (l ++ bytesL s).length (bcs (l ++ bytesL s)) ∧ Below w.heap.size w w' := by
  obtain ⟨p, c, rfl⟩ := h.shape
  obtain ⟨q, d, rfl⟩ := hs.shape
  have hc9 := cnt_le8 s.length (by omega)
  have HR : Hid ((l ++ numL s.length) ++ s = l ++ bytesL s) := by show _ = _; unfold bytesL; simp
  have HRL : Hid ((l ++ numL s.length).length ≤ l.length + 9) := by show _ ≤ _; rw [List.length_append, numL_length]; omega
  have HQ : Hid ((l ++ bytesL s).length = (l ++ numL s.length).length + s.length) := by show _ = _; rw [← HR.out, List.length_append]
  have hc := ruint_any _ l (s.length : Int) w h (by omega)
  rw [clampN_nat s.length (by omega)] at hc
  generalize hM : l ++ bytesL s = M at HR HQ ⊢
  generalize l ++ numL s.length = R at *
  clear hM h hc9
  go_enter Tryz.func21, Tryz.ntmps21
  go_wp2_with fail
  refine hc.mono ?_
  rintro e w2 ⟨p2, c2, rfl, hown2, hb02⟩
  have hs2 := hs.later hb02
  have hsz := hb02.size
  clear hc hs
  go_wp2_with (first | (at_builtin; refine wpList_append_hb rfl (.tmp 8) (.tmp 9) 22 rfl w.heap.size 5 Tryz.underlying22 i_u8 _ _ _ rfl hown2 _ _ _ s rfl hs2 ?sa ?sb ?_))
  case sa => have := HRL.out; omega
  case sb => exact hsz
  intro v3 w3 hown3 hgrow3
  have hb3 : Below w.heap.size w w3 := hb02.grown hgrow3 hsz (fun k hk => (hown2.lt k hk).1)
  rw [← bcs_append, HR.out, ← HQ.out] at hown3
  obtain ⟨p3, c3, rfl⟩ := owns_shape hown3
  clear hgrow3 hown2 hs2 hb02
  go_wp2
  go_ret
  exact ⟨_, _, rfl, hown3, hb3⟩

end Go.Proofs.YtganajmhdpiipaaGreatDoor

namespace Go.Proofs.YtganajmhdpiipaaGreatDoor
open Go.RowKit

theorem ruint_hb (v : Value) (l : List UInt8) (n : Int) (w : World) (h : HB w v l) (hbig : l.length ≤ 1048576) :
    Calls Tryz.prog 44 #[v, .int .i64 n] w fun e w' => ∃ p c, e = .returned (.slice p (l ++ numL (clampN n)).length c) ∧ HB w' (.slice p (l ++ numL (clampN n)).length c) (l ++ numL (clampN n)) ∧ Below w.heap.size w w' :=
  (ruint_any v l n w h (by omega)).mono fun _ _ ⟨p, c, e1, e2, e3⟩ => ⟨p, c, e1, HB.of_owns e2, e3⟩

theorem rbytes_hb (v u : Value) (l s : List UInt8) (w : World) (h : HB w v l) (hs : HB w u s) (hbig : l.length + s.length ≤ 1048576) :
    Calls Tryz.prog 21 #[v, u] w fun e w' => ∃ p c, e = .returned (.slice p (l ++ bytesL s).length c) ∧ HB w' (.slice p (l ++ bytesL s).length c) (l ++ bytesL s) ∧ Below w.heap.size w w' :=
  (rbytes_any v u l s w h hs (by omega)).mono fun _ _ ⟨p, c, e1, e2, e3⟩ => ⟨p, c, e1, HB.of_owns e2, e3⟩

set_option maxRecDepth 100000 in
set_option maxHeartbeats 2000000 in
theorem rencode_no (size e t c : Int) (tv lv kv : Value) (tr li : List UInt8) (lk : List (List UInt8)) (w : World) (h1 : HB w tv tr) (h2 : HB w lv li) (h3 : PA w kv lk) (hcan : canB size ⟨e, t, c, tr, li, lk⟩ = false) :
    Calls Tryz.prog 18 #[.int .i64 size, .agg #[.int .i64 e, .int .i64 t, tv, .int .i64 c, lv, kv]] w fun x w' => x = .returned (.tuple #[.slice none 0 0, .int .i64 1]) ∧ Below w.heap.size w w' := by
  have bA := (Below.refl w.heap.size w).alloc (Nat.le_refl _) (.cells #[.int .i64 e, .int .i64 t, tv, .int .i64 c, lv, kv] 25)
  have hC := rcan_any size e t c tv lv kv tr li lk _ (h1.later bA) (h2.later bA) (h3.later bA)
  rw [hcan] at hC
  obtain ⟨tp, tc, rfl⟩ := h1.shape
  obtain ⟨lp, lc, rfl⟩ := h2.shape
  obtain ⟨kp, kc, rfl⟩ := h3.shape
  clear h1 h2 h3 hcan
  go_enter Tryz.func18, Tryz.ntmps18
  go_wp2_with fail
  refine hC.mono ?_
  rintro x w1 ⟨rfl, hb1⟩
  have hb := bA.trans (hb1.mono bA.size)
  clear hC bA hb1
  go_wp2
  go_ret2
  exact ⟨rfl, hb⟩

set_option maxRecDepth 100000 in
set_option maxHeartbeats 8000000 in
theorem rencode_yes (size e t c : Int) (tv lv kv : Value) (tr li : List UInt8) (lk : List (List UInt8)) (w : World) (h1 : HB w tv tr) (h2 : HB w lv li) (h3 : PA w kv lk) (hcan : canB size ⟨e, t, c, tr, li, lk⟩ = true) :
    Calls Tryz.prog 18 #[.int .i64 size, .agg #[.int .i64 e, .int .i64 t, tv, .int .i64 c, lv, kv]] w fun x w' => ∃ v, x = .returned (.tuple #[v, .int .i64 0]) ∧ HB w' v (encL ⟨e, t, c, tr, li, lk⟩) ∧ Below w.heap.size w w' := by
  have bA := (Below.refl w.heap.size w).alloc (Nat.le_refl _) (.cells #[.int .i64 e, .int .i64 t, tv, .int .i64 c, lv, kv] 25)
  have gA := heap_alloc_new w (.cells #[.int .i64 e, .int .i64 t, tv, .int .i64 c, lv, kv] 25)
  have hC := rcan_any size e t c tv lv kv tr li lk _ (h1.later bA) (h2.later bA) (h3.later bA)
  rw [hcan] at hC
  obtain ⟨q1, q2, q3, q4, q5, q6, q7, q8, q9, q10, q11, q12⟩ := (canB_iff _ _).1 hcan
  dsimp only at q3 q4 q5 q6 q7 q8 q9 q10 q11 q12
  have hlk63 : lk.length ≤ 63 := by rw [q9]; exact linksL_len _ (by omega)
  have hlz := sized_le q12 q2
  have htr : tr.length ≤ 32 := by omega
  have hli : li.length ≤ 32 := by omega
  clear q9 q10 q11 q12 hcan
  obtain ⟨tp, tc, rfl⟩ := h1.shape
  obtain ⟨lp, lc, rfl⟩ := h2.shape
  obtain ⟨kp, kc, rfl⟩ := h3.shape
  obtain ⟨V, hV⟩ : ∃ V, V = w.alloc (.cells #[.int .i64 e, .int .i64 t, .slice tp tr.length tc, .int .i64 c, .slice lp li.length lc, .slice kp lk.length kc] 25) := ⟨_, rfl⟩
  rw [← hV] at bA gA hC
  have hg : w.heap.size < V.heap.size := (Array.getElem?_eq_some_iff.1 gA).1
  have hcells : ∀ W, Below V.heap.size V W → W.cell? ⟨w.heap.size, 0, none⟩ = some (.int .i64 e) ∧ W.cell? ⟨w.heap.size, 1, none⟩ = some (.int .i64 t) ∧ W.cell? ⟨w.heap.size, 2, none⟩ = some (.slice tp tr.length tc) ∧ W.cell? ⟨w.heap.size, 3, none⟩ = some (.int .i64 c) ∧ W.cell? ⟨w.heap.size, 4, none⟩ = some (.slice lp li.length lc) ∧ W.cell? ⟨w.heap.size, 5, none⟩ = some (.slice kp lk.length kc) := by
    intro W hB
    have g1 := (hB.block _ hg).trans gA
    refine ⟨?_, ?_, ?_, ?_, ?_, ?_⟩ <;> (rw [cell_of_row _ _ _ _ _ _ g1]; rfl)
  have k1 := h1.later bA
  have k2 := h2.later bA
  have k3 := h3.later bA
  have HE : Hid (∀ A, A = (((([] ++ numL (clampN e)) ++ numL (clampN t)) ++ bytesL tr) ++ numL (clampN c)) ++ bytesL li ++ putL lk → A = encL ⟨e, t, c, tr, li, lk⟩) := by
    intro A hA
    rw [hA]
    simp [encL]
  have n1 := numL_le e
  have n2 := numL_le t
  have n3 := numL_le c
  have p1 := bytesL_len tr htr
  have p2 := bytesL_len li hli
  clear h1 h2 h3 gA q1 q2 q3 q4 q5 q6 q7 q8
  go_enter Tryz.func18, Tryz.ntmps18
  go_wp2_with fail
  rw [← hV]
  refine hC.mono ?_
  rintro x w1 ⟨rfl, hb1⟩
  clear hC hV
  go_wp2
  have bD : Below V.heap.size V w1.drew := hb1.drew
  have hHeld := hcells w1.drew bD
  refine wp_region_heldN (by kernel_rfl) (fun W => W.cell? ⟨w.heap.size, 0, none⟩ = some (.int .i64 e) ∧ W.cell? ⟨w.heap.size, 1, none⟩ = some (.int .i64 t) ∧ W.cell? ⟨w.heap.size, 2, none⟩ = some (.slice tp tr.length tc) ∧ W.cell? ⟨w.heap.size, 3, none⟩ = some (.int .i64 c) ∧ W.cell? ⟨w.heap.size, 4, none⟩ = some (.slice lp li.length lc) ∧ W.cell? ⟨w.heap.size, 5, none⟩ = some (.slice kp lk.length kc)) 7 rfl ?_
  refine tkY 0 ⟨some 13, .fieldAddr 25 (.tmp 3) 0, 0, "ref.go:38", #[], none⟩ ?v0z1 hHeld ?y0z1 ?r0z1
  case y0z1 => (intro w hSw; (try dsimp only at hSw); go_simp) <;> with_reducible rfl
  try simp only [Act.put, List.setIfInBounds_toArray, List.set_cons_zero, List.set_cons_succ]
  refine tkY 1 ⟨some 14, .load 3 (.tmp 13), 3, "ref.go:38", #[⟨0, .data⟩], none⟩ ?v1z2 hHeld ?y1z2 ?r1z2
  case y1z2 => (intro w hSw; (try dsimp only at hSw); go_simp) <;> with_reducible rfl
  try simp only [Act.put, List.setIfInBounds_toArray, List.set_cons_zero, List.set_cons_succ]
  refine tkY 3 ⟨some 16, .fieldAddr 25 (.tmp 3) 1, 0, "ref.go:38", #[], none⟩ ?v3z3 hHeld ?y3z3 ?r3z3
  case y3z3 => (intro w hSw; (try dsimp only at hSw); go_simp) <;> with_reducible rfl
  try simp only [Act.put, List.setIfInBounds_toArray, List.set_cons_zero, List.set_cons_succ]
  refine tkY 4 ⟨some 17, .load 3 (.tmp 16), 3, "ref.go:38", #[⟨3, .data⟩], none⟩ ?v4z4 hHeld ?y4z4 ?r4z4
  case y4z4 => (intro w hSw; (try dsimp only at hSw); go_simp) <;> with_reducible rfl
  try simp only [Act.put, List.setIfInBounds_toArray, List.set_cons_zero, List.set_cons_succ]
  refine wpAnyH_ready (rs := [2]) (by kernel_rfl) (by simp) ?_
  refine AllReadyH.cons (o := ⟨some 15, .call { callee := .value (.func 44), args := #[.const (.slice none 0 0), .tmp 14], argTypes := #[22, 3] }, 22, "ref.go:38", #[⟨1, .data⟩], none⟩) rfl (fun K hK => ?_) AllReadyH.nil
  go_simp
  refine (ruint_hb (.slice none 0 0) [] e _ (HB.nil _) (by simp)).mono ?_
  rintro x w2 ⟨p2', cc2, rfl, hh2, hb2'⟩
  have hb2 := bD.trans (hb2'.mono bD.size)
  replace hHeld := hcells w2 hb2
  have hl2 : ([] ++ numL (clampN e)).length ≤ 9 := by simpa using n1
  generalize hF2 : [] ++ numL (clampN e) = F2 at hh2 hl2 HE ⊢
  clear hF2 n1
  refine hK.out _ _ ?_ (fun _ => ?_)
  · exact hHeld
  clear hK K
  try simp only [Act.put, List.setIfInBounds_toArray, List.set_cons_zero, List.set_cons_succ]
  refine wpAnyH_ready (rs := [5]) (by kernel_rfl) (by simp) ?_
  refine AllReadyH.cons (o := ⟨some 18, .call { callee := .value (.func 44), args := #[.tmp 15, .tmp 17], argTypes := #[22, 3] }, 22, "ref.go:38", #[⟨2, .data⟩, ⟨4, .data⟩, ⟨2, .chain⟩], none⟩) rfl (fun K hK => ?_) AllReadyH.nil
  go_simp
  refine (ruint_hb _ F2 t _ hh2 (by omega)).mono ?_
  rintro x w3 ⟨p3', cc3, rfl, hh3, hb3'⟩
  have hb3 := hb2.trans (hb3'.mono hb2.size)
  replace hHeld := hcells w3 hb3
  have hl3 : (F2 ++ numL (clampN t)).length ≤ 18 := by rw [List.length_append]; omega
  generalize hF3 : F2 ++ numL (clampN t) = F3 at hh3 hl3 HE ⊢
  clear hF3 n2
  refine hK.out _ _ ?_ (fun _ => ?_)
  · exact hHeld
  clear hK K
  try simp only [Act.put, List.setIfInBounds_toArray, List.set_cons_zero, List.set_cons_succ]
  refine tkY 6 ⟨some 6, .assign (.tmp 18), 22, "ref.go:38", #[⟨5, .data⟩, ⟨5, .chain⟩, ⟨0, .phase⟩, ⟨1, .phase⟩, ⟨2, .phase⟩, ⟨3, .phase⟩, ⟨4, .phase⟩, ⟨5, .phase⟩], none⟩ ?v6z5 hHeld ?y6z5 ?r6z5
  case y6z5 => (intro w hSw; (try dsimp only at hSw); go_simp) <;> with_reducible rfl
  try simp only [Act.put, List.setIfInBounds_toArray, List.set_cons_zero, List.set_cons_succ]
  refine wpAnyH_done (by kernel_rfl) ?_ _
  go_wp2
  have bE : Below V.heap.size V w3.drew := hb3.drew
  have bE' : Below w3.heap.size w3 w3.drew := (Below.refl _ w3).drew
  replace hHeld := hcells w3.drew bE
  refine wp_region_heldN (by kernel_rfl) (fun W => W.cell? ⟨w.heap.size, 0, none⟩ = some (.int .i64 e) ∧ W.cell? ⟨w.heap.size, 1, none⟩ = some (.int .i64 t) ∧ W.cell? ⟨w.heap.size, 2, none⟩ = some (.slice tp tr.length tc) ∧ W.cell? ⟨w.heap.size, 3, none⟩ = some (.int .i64 c) ∧ W.cell? ⟨w.heap.size, 4, none⟩ = some (.slice lp li.length lc) ∧ W.cell? ⟨w.heap.size, 5, none⟩ = some (.slice kp lk.length kc)) 8 rfl ?_
  refine tkY 0 ⟨some 19, .move (.tmp 6), 22, "ref.go:39", #[], none⟩ ?v0z6 hHeld ?y0z6 ?r0z6
  case y0z6 => (intro w hSw; (try dsimp only at hSw); go_simp) <;> with_reducible rfl
  try simp only [Act.put, List.setIfInBounds_toArray, List.set_cons_zero, List.set_cons_succ]
  refine tkY 1 ⟨some 20, .fieldAddr 25 (.tmp 3) 2, 0, "ref.go:39", #[], none⟩ ?v1z7 hHeld ?y1z7 ?r1z7
  case y1z7 => (intro w hSw; (try dsimp only at hSw); go_simp) <;> with_reducible rfl
  try simp only [Act.put, List.setIfInBounds_toArray, List.set_cons_zero, List.set_cons_succ]
  refine tkY 2 ⟨some 21, .load 22 (.tmp 20), 22, "ref.go:39", #[⟨1, .data⟩], none⟩ ?v2z8 hHeld ?y2z8 ?r2z8
  case y2z8 => (intro w hSw; (try dsimp only at hSw); go_simp) <;> with_reducible rfl
  try simp only [Act.put, List.setIfInBounds_toArray, List.set_cons_zero, List.set_cons_succ]
  refine tkY 4 ⟨some 23, .fieldAddr 25 (.tmp 3) 3, 0, "ref.go:39", #[], none⟩ ?v4z9 hHeld ?y4z9 ?r4z9
  case y4z9 => (intro w hSw; (try dsimp only at hSw); go_simp) <;> with_reducible rfl
  try simp only [Act.put, List.setIfInBounds_toArray, List.set_cons_zero, List.set_cons_succ]
  refine tkY 5 ⟨some 24, .load 3 (.tmp 23), 3, "ref.go:39", #[⟨4, .data⟩], none⟩ ?v5z10 hHeld ?y5z10 ?r5z10
  case y5z10 => (intro w hSw; (try dsimp only at hSw); go_simp) <;> with_reducible rfl
  try simp only [Act.put, List.setIfInBounds_toArray, List.set_cons_zero, List.set_cons_succ]
  refine wpAnyH_ready (rs := [3]) (by kernel_rfl) (by simp) ?_
  refine AllReadyH.cons (o := ⟨some 22, .call { callee := .value (.func 21), args := #[.tmp 19, .tmp 21], argTypes := #[22, 22] }, 22, "ref.go:39", #[⟨0, .data⟩, ⟨2, .data⟩], none⟩) rfl (fun K hK => ?_) AllReadyH.nil
  go_simp
  refine (rbytes_hb _ _ F3 tr _ (hh3.later bE') (k1.later bE) (by omega)).mono ?_
  rintro x w4 ⟨p4', cc4, rfl, hh4, hb4'⟩
  have hb4 := bE.trans (hb4'.mono bE.size)
  replace hHeld := hcells w4 hb4
  have hl4 : (F3 ++ bytesL tr).length ≤ 100 := by rw [List.length_append]; omega
  generalize hF4 : F3 ++ bytesL tr = F4 at hh4 hl4 HE ⊢
  clear hF4 p1
  refine hK.out _ _ ?_ (fun _ => ?_)
  · exact hHeld
  clear hK K
  try simp only [Act.put, List.setIfInBounds_toArray, List.set_cons_zero, List.set_cons_succ]
  refine wpAnyH_ready (rs := [6]) (by kernel_rfl) (by simp) ?_
  refine AllReadyH.cons (o := ⟨some 25, .call { callee := .value (.func 44), args := #[.tmp 22, .tmp 24], argTypes := #[22, 3] }, 22, "ref.go:39", #[⟨3, .data⟩, ⟨5, .data⟩, ⟨3, .chain⟩], none⟩) rfl (fun K hK => ?_) AllReadyH.nil
  go_simp
  refine (ruint_hb _ F4 c _ hh4 (by omega)).mono ?_
  rintro x w5 ⟨p5', cc5, rfl, hh5, hb5'⟩
  have hb5 := hb4.trans (hb5'.mono hb4.size)
  replace hHeld := hcells w5 hb5
  have hl5 : (F4 ++ numL (clampN c)).length ≤ 120 := by rw [List.length_append]; omega
  generalize hF5 : F4 ++ numL (clampN c) = F5 at hh5 hl5 HE ⊢
  clear hF5 n3
  refine hK.out _ _ ?_ (fun _ => ?_)
  · exact hHeld
  clear hK K
  try simp only [Act.put, List.setIfInBounds_toArray, List.set_cons_zero, List.set_cons_succ]
  refine tkY 7 ⟨some 6, .assign (.tmp 25), 22, "ref.go:39", #[⟨6, .data⟩, ⟨6, .chain⟩, ⟨0, .phase⟩, ⟨1, .phase⟩, ⟨2, .phase⟩, ⟨3, .phase⟩, ⟨4, .phase⟩, ⟨5, .phase⟩, ⟨6, .phase⟩], none⟩ ?v7z11 hHeld ?y7z11 ?r7z11
  case y7z11 => (intro w hSw; (try dsimp only at hSw); go_simp) <;> with_reducible rfl
  try simp only [Act.put, List.setIfInBounds_toArray, List.set_cons_zero, List.set_cons_succ]
  refine wpAnyH_done (by kernel_rfl) ?_ _
  obtain ⟨c0, c1, c2, c3, c4, c5⟩ := hHeld
  have hP := rbytes_hb _ _ F5 li w5 hh5 (k2.later hb5) (by omega)
  go_wp2_with fail
  refine hP.mono ?_
  rintro x w6 ⟨p6', cc6, rfl, hh6, hb6'⟩
  have hb6 := hb5.trans (hb6'.mono hb5.size)
  clear hP c0 c1 c2 c3 c4 c5 hb5 hb6' hh5
  obtain ⟨c0, c1, c2, c3, c4, c5⟩ := hcells w6 hb6
  have hl6 : (F5 ++ bytesL li).length ≤ 200 := by rw [List.length_append]; omega
  generalize hF6 : F5 ++ bytesL li = F6 at hh6 hl6 HE ⊢
  clear hF6 p2 hcells
  have k6 := k3.later hb6
  have bA6 := bA.trans (hb6.mono bA.size)
  clear hb6 bA k1 k2 k3
  go_wp2
  go_loopw [6, 33] (fun v i wr => ∃ k : Nat, k ≤ lk.length ∧ i = .int .i64 k ∧ HB wr v (F6 ++ putL (lk.take k)) ∧ Below w6.heap.size w6 wr) (fun _ i _ => lk.length - (intOf i).toNat)
  case atStart => exact ⟨0, Nat.zero_le _, rfl, by simpa [putL] using hh6, Below.refl _ _⟩
  case round =>
    obtain ⟨k, hk, rfl, hH, hbe⟩ := hrel
    by_cases hlt : k < lk.length
    · obtain ⟨b, o, rfl⟩ := k6.addr (by omega)
      obtain ⟨q, qc, x, hx, e1, h1⟩ := (k6.later hbe).get k hlt
      have hlt2 : (k : Int) < (lk.length : Int) := by omega
      have hx32 := hlz x (List.mem_of_getElem? hx.out)
      have hpl := putL_len (lk.take k) (fun y hy => hlz y (List.mem_of_mem_take hy))
      have htl : (lk.take k).length ≤ 63 := by simp; omega
      have hC := rbytes_hb _ _ _ _ wr hH h1 (by rw [List.length_append]; omega)
      have HM : Hid (F6 ++ putL (lk.take k) ++ bytesL x = F6 ++ putL (lk.take (k + 1))) := by
        show _ = _
        rw [List.take_add_one, hx.out]
        show _ = F6 ++ putL (lk.take k ++ [x])
        rw [putL_snoc, List.append_assoc]
      have hC' := hC.mono (R' := fun y w' => ∃ v2, y = .returned v2 ∧ HB w' v2 (F6 ++ putL (lk.take (k + 1))) ∧ Below wr.heap.size wr w') fun y w' ⟨p7, c7, e7, hv7, hb7⟩ => ⟨_, e7, by rw [← HM.out]; exact hv7, hb7⟩
      clear hx h1 hH hpl htl hx32 HE hC HM
      go_wp2_with fail
      refine hC'.mono ?_
      rintro y w7 ⟨v7, rfl, hv7, hb7⟩
      have hb8 := hbe.trans (hb7.mono hbe.size)
      clear hC' hb7
      go_wp2
      go_roundw
      case rel => first | exact ⟨k + 1, by omega, by go_num, hv7, hb8⟩ | ((repeat apply Exists.intro); exact ⟨⟨k + 1, by omega, by go_num, hv7, hb8⟩, rfl⟩)
      case measure => simp [intOf]; omega
    · rw [List.take_of_length_le (by omega), HE.out _ rfl] at hH
      have hb := bA6.trans (hbe.mono bA6.size)
      clear HE
      go_wp2
      go_ret2
      exact ⟨_, rfl, hH, hb⟩

end Go.Proofs.YtganajmhdpiipaaGreatDoor
