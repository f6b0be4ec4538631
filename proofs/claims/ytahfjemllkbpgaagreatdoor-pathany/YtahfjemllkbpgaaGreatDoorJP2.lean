/- What this text proves: the walk of parts.isFork over this program: whether what each fork has is within the limits, and its prefix just as many bits as its depth tells. (By program: held.py, mkptfork.py.) What this text proves: the walk of parts.Shaped over this program: whether a part, its kids not looked at, has just what its kind has. (By program: mkptshaped.py.) -/
import Derived.Test.YtahfjemllkbpgaaGreatDoorJP1
import Derived.Test.YtahfjemllkbpgaaGreatDoorJC1
import Derived.Test.YtahfjemllkbpgaaGreatDoorEqual
import Derived.Test.YtahfjemllkbpgaaGreatDoorRegHeld
namespace Go.Proofs.YtahfjemllkbpgaaGreatDoor
open Go.RowKit

def forkE (d : Int) (pre : List UInt8) (nw : Int) : Bool := decide (0 ≤ d) && (decide (d ≤ 2048) && (epB nw && (decide ((pre.length : Int) = (d + 7) / 8) && (pre == firstF pre d))))

set_option maxRecDepth 100000 in
set_option maxHeartbeats 8000000 in
theorem isFork_any (k si d nw : Int) (pi pk pp pl pr pq : Option Addr) (a b e f n ci ck cp cl cr cq : Nat) (pre : List UInt8) (w : World) (hp : HB w (.slice pp pre.length cp) pre) :
    Calls Tryz.prog 91 #[.agg #[.int .i64 k, .slice pi a ci, .slice pk b ck, .int .i64 si, .int .i64 d, .slice pp pre.length cp, .int .i64 nw, .slice pl e cl, .slice pr f cr, .slice pq n cq]] w fun x w' => x = .returned (.bool (forkE d pre nw)) ∧ Below w.heap.size w w' := by
  have bA := (Below.refl w.heap.size w).alloc (Nat.le_refl _) (.cells #[.int .i64 k, .slice pi a ci, .slice pk b ck, .int .i64 si, .int .i64 d, .slice pp pre.length cp, .int .i64 nw, .slice pl e cl, .slice pr f cr, .slice pq n cq] 26)
  have gA := heap_alloc_new w (.cells #[.int .i64 k, .slice pi a ci, .slice pk b ck, .int .i64 si, .int .i64 d, .slice pp pre.length cp, .int .i64 nw, .slice pl e cl, .slice pr f cr, .slice pq n cq] 26)
  obtain ⟨V, hV⟩ : ∃ V, w.alloc (.cells #[.int .i64 k, .slice pi a ci, .slice pk b ck, .int .i64 si, .int .i64 d, .slice pp pre.length cp, .int .i64 nw, .slice pl e cl, .slice pr f cr, .slice pq n cq] 26) = V := ⟨_, rfl⟩
  rw [hV] at bA gA
  have kp := hp.later bA
  have bD : Below V.heap.size V V.drew := (Below.refl _ V).drew
  have hcells : ∀ W, Below V.heap.size V W → W.cell? ⟨w.heap.size, 4, none⟩ = some (.int .i64 d) ∧ W.cell? ⟨w.heap.size, 5, none⟩ = some (.slice pp pre.length cp) ∧ W.cell? ⟨w.heap.size, 6, none⟩ = some (.int .i64 nw) := by
    intro W hb
    have g := (hb.block _ (Array.getElem?_eq_some_iff.1 gA).1).trans gA
    exact ⟨by rw [cell_of_row _ _ _ _ _ _ g]; rfl, by rw [cell_of_row _ _ _ _ _ _ g]; rfl, by rw [cell_of_row _ _ _ _ _ _ g]; rfl⟩
  have hHeld := hcells _ bD
  clear hp gA
  go_enter Tryz.func91, Tryz.ntmps91
  go_wp2
  refine wp_region_heldN (by kernel_rfl) (fun W => W.cell? ⟨w.heap.size, 4, none⟩ = some (.int .i64 d) ∧ W.cell? ⟨w.heap.size, 5, none⟩ = some (.slice pp pre.length cp) ∧ W.cell? ⟨w.heap.size, 6, none⟩ = some (.int .i64 nw)) 35 rfl ?_
  refine tkY 0 ⟨some 3, .fieldAddr 26 (.tmp 1) 4, 0, "parts.go:75", #[], none⟩ ?v0z1 hHeld ?y0z1 ?r0z1
  case y0z1 => (intro w hSw; (try dsimp only at hSw); go_simp) <;> with_reducible rfl
  try simp only [Act.put, List.setIfInBounds_toArray, List.set_cons_zero, List.set_cons_succ]
  refine tkY 1 ⟨some 4, .load 3 (.tmp 3), 3, "parts.go:75", #[⟨0, .data⟩], none⟩ ?v1z2 hHeld ?y1z2 ?r1z2
  case y1z2 => (intro w hSw; (try dsimp only at hSw); go_simp) <;> with_reducible rfl
  try simp only [Act.put, List.setIfInBounds_toArray, List.set_cons_zero, List.set_cons_succ]
  by_cases hc2 : 0 ≤ d
  · have f0 : Hid (decide (0 ≤ d) = true) := by simpa [Hid] using hc2
    refine tkY 2 ⟨some 5, .binOp .geq 3 (.tmp 4) (.const (.int .i64 0)) 3, 4, "parts.go:75", #[⟨1, .data⟩], none⟩ ?v2z3 hHeld ?y2z3 ?r2z3
    case y2z3 => (intro w hSw; (try dsimp only at hSw); go_simp) <;> with_reducible rfl
    try simp only [Act.put, List.setIfInBounds_toArray, List.set_cons_zero, List.set_cons_succ]
    refine tkY 3 ⟨some 6, .move (.tmp 5), 4, "parts.go:75", #[⟨2, .data⟩], none⟩ ?v3z4 hHeld ?y3z4 ?r3z4
    case y3z4 => (intro w hSw; (try dsimp only at hSw); go_simp) <;> with_reducible rfl
    try simp only [Act.put, List.setIfInBounds_toArray, List.set_cons_zero, List.set_cons_succ]
    refine tkY 4 ⟨some 7, .fieldAddr 26 (.tmp 1) 4, 0, "parts.go:75", #[⟨3, .guard⟩], some (3, true)⟩ ?v4z5 hHeld ?y4z5 ?r4z5
    case y4z5 => (intro w hSw; (try dsimp only at hSw); go_simp) <;> with_reducible rfl
    try simp only [Act.put, List.setIfInBounds_toArray, List.set_cons_zero, List.set_cons_succ]
    refine tkY 5 ⟨some 8, .load 3 (.tmp 7), 3, "parts.go:75", #[⟨4, .data⟩, ⟨3, .guard⟩], some (3, true)⟩ ?v5z6 hHeld ?y5z6 ?r5z6
    case y5z6 => (intro w hSw; (try dsimp only at hSw); go_simp) <;> with_reducible rfl
    try simp only [Act.put, List.setIfInBounds_toArray, List.set_cons_zero, List.set_cons_succ]
    by_cases hc6 : d ≤ 2048
    · have f1 : Hid (decide (d ≤ 2048) = true) := by simpa [Hid] using hc6
      have ew1 : IntKind.i64.wrap (d + 8) = d + 8 := by rw [IntKind.wrap_i64]; omega
      have ew2 : IntKind.i64.wrap (d + 8 - 1) = d + 7 := by rw [IntKind.wrap_i64]; omega
      obtain ⟨N, hN⟩ : ∃ N, (d + 7) / 8 = N := ⟨_, rfl⟩
      have HN : Hid ((d + 7) / 8 = N) := hN
      have ht : (d + 7).tdiv 8 = N := by rw [Int.tdiv_eq_ediv_of_nonneg (by omega)]; exact hN
      have ew3 : IntKind.i64.wrap N = N := by rw [IntKind.wrap_i64]; omega
      clear hN
      refine tkY 6 ⟨some 9, .binOp .leq 3 (.tmp 8) (.const (.int .i64 2048)) 3, 4, "parts.go:75", #[⟨5, .data⟩, ⟨3, .guard⟩], some (3, true)⟩ ?v6z7 hHeld ?y6z7 ?r6z7
      case y6z7 => (intro w hSw; (try dsimp only at hSw); go_simp) <;> with_reducible rfl
      try simp only [Act.put, List.setIfInBounds_toArray, List.set_cons_zero, List.set_cons_succ]
      refine tkY 7 ⟨some 10, .pick (.tmp 6) (.tmp 9) (.const (.bool false)), 4, "parts.go:75", #[⟨3, .data⟩, ⟨6, .data⟩], none⟩ ?v7z8 hHeld ?y7z8 ?r7z8
      case y7z8 => (intro w hSw; (try dsimp only at hSw); go_simp) <;> with_reducible rfl
      try simp only [Act.put, List.setIfInBounds_toArray, List.set_cons_zero, List.set_cons_succ]
      refine tkY 8 ⟨some 11, .move (.tmp 10), 4, "parts.go:75", #[⟨7, .data⟩, ⟨3, .chain⟩], none⟩ ?v8z9 hHeld ?y8z9 ?r8z9
      case y8z9 => (intro w hSw; (try dsimp only at hSw); go_simp) <;> with_reducible rfl
      try simp only [Act.put, List.setIfInBounds_toArray, List.set_cons_zero, List.set_cons_succ]
      refine tkY 9 ⟨some 12, .fieldAddr 26 (.tmp 1) 6, 0, "parts.go:75", #[⟨8, .guard⟩], some (8, true)⟩ ?v9z10 hHeld ?y9z10 ?r9z10
      case y9z10 => (intro w hSw; (try dsimp only at hSw); go_simp) <;> with_reducible rfl
      try simp only [Act.put, List.setIfInBounds_toArray, List.set_cons_zero, List.set_cons_succ]
      refine tkY 10 ⟨some 13, .load 3 (.tmp 12), 3, "parts.go:75", #[⟨9, .data⟩, ⟨8, .guard⟩], some (8, true)⟩ ?v10z11 hHeld ?y10z11 ?r10z11
      case y10z11 => (intro w hSw; (try dsimp only at hSw); go_simp) <;> with_reducible rfl
      try simp only [Act.put, List.setIfInBounds_toArray, List.set_cons_zero, List.set_cons_succ]
      refine wpAnyH_ready (rs := [11]) (by kernel_rfl) (by simp) ?_
      refine AllReadyH.cons (o := ⟨some 14, .call { callee := .value (.func 45), args := #[.tmp 13], argTypes := #[3] }, 4, "parts.go:75", #[⟨10, .data⟩, ⟨8, .chain⟩, ⟨8, .guard⟩], some (8, true)⟩) rfl (fun K hK => ?_) AllReadyH.nil
      go_simp
      refine (isEpoch_any nw _).mono ?_
      rintro x w2 ⟨rfl, hw2⟩
      subst hw2
      obtain ⟨B, hB⟩ : ∃ B, B = epB nw := ⟨_, rfl⟩
      rw [← hB]
      have HE : Hid (B = epB nw) := hB
      clear hB
      cases B with
      | true =>
        refine hK.out _ _ ?_ (fun _ => ?_)
        · exact hHeld
        clear hK K
        try simp only [Act.put, List.setIfInBounds_toArray, List.set_cons_zero, List.set_cons_succ]
        refine tkY 12 ⟨some 15, .pick (.tmp 11) (.tmp 14) (.const (.bool false)), 4, "parts.go:75", #[⟨8, .data⟩, ⟨11, .data⟩], none⟩ ?v12z12 hHeld ?y12z12 ?r12z12
        case y12z12 => (intro w hSw; (try dsimp only at hSw); go_simp) <;> with_reducible rfl
        try simp only [Act.put, List.setIfInBounds_toArray, List.set_cons_zero, List.set_cons_succ]
        refine tkY 13 ⟨some 16, .move (.tmp 15), 4, "parts.go:75", #[⟨12, .data⟩, ⟨11, .chain⟩], none⟩ ?v13z13 hHeld ?y13z13 ?r13z13
        case y13z13 => (intro w hSw; (try dsimp only at hSw); go_simp) <;> with_reducible rfl
        try simp only [Act.put, List.setIfInBounds_toArray, List.set_cons_zero, List.set_cons_succ]
        refine tkY 14 ⟨some 17, .fieldAddr 26 (.tmp 1) 5, 0, "parts.go:75", #[⟨13, .guard⟩], some (13, true)⟩ ?v14z14 hHeld ?y14z14 ?r14z14
        case y14z14 => (intro w hSw; (try dsimp only at hSw); go_simp) <;> with_reducible rfl
        try simp only [Act.put, List.setIfInBounds_toArray, List.set_cons_zero, List.set_cons_succ]
        refine tkY 15 ⟨some 18, .load 22 (.tmp 17), 22, "parts.go:75", #[⟨14, .data⟩, ⟨13, .guard⟩], some (13, true)⟩ ?v15z15 hHeld ?y15z15 ?r15z15
        case y15z15 => (intro w hSw; (try dsimp only at hSw); go_simp) <;> with_reducible rfl
        try simp only [Act.put, List.setIfInBounds_toArray, List.set_cons_zero, List.set_cons_succ]
        refine tkY 16 ⟨some 19, .call { callee := .builtin .len, args := #[.tmp 18], argTypes := #[22] }, 3, "parts.go:75", #[⟨15, .data⟩, ⟨13, .guard⟩], some (13, true)⟩ ?v16z16 hHeld ?y16z16 ?r16z16
        case y16z16 => (intro w hSw; (try dsimp only at hSw); go_simp) <;> with_reducible rfl
        try simp only [Act.put, List.setIfInBounds_toArray, List.set_cons_zero, List.set_cons_succ]
        refine tkY 17 ⟨some 20, .fieldAddr 26 (.tmp 1) 4, 0, "parts.go:75", #[⟨13, .guard⟩], some (13, true)⟩ ?v17z17 hHeld ?y17z17 ?r17z17
        case y17z17 => (intro w hSw; (try dsimp only at hSw); go_simp) <;> with_reducible rfl
        try simp only [Act.put, List.setIfInBounds_toArray, List.set_cons_zero, List.set_cons_succ]
        refine tkY 18 ⟨some 21, .load 3 (.tmp 20), 3, "parts.go:75", #[⟨17, .data⟩, ⟨13, .guard⟩], some (13, true)⟩ ?v18z18 hHeld ?y18z18 ?r18z18
        case y18z18 => (intro w hSw; (try dsimp only at hSw); go_simp) <;> with_reducible rfl
        try simp only [Act.put, List.setIfInBounds_toArray, List.set_cons_zero, List.set_cons_succ]
        refine tkY 19 ⟨some 22, .binOp .add 3 (.tmp 21) (.const (.int .i64 8)) 3, 3, "parts.go:75", #[⟨18, .data⟩, ⟨13, .guard⟩], some (13, true)⟩ ?v19z19 hHeld ?y19z19 ?r19z19
        case y19z19 => (intro w hSw; (try dsimp only at hSw); go_simp) <;> with_reducible rfl
        try simp only [Act.put, List.setIfInBounds_toArray, List.set_cons_zero, List.set_cons_succ]
        refine tkY 20 ⟨some 23, .binOp .sub 3 (.tmp 22) (.const (.int .i64 1)) 3, 3, "parts.go:75", #[⟨19, .data⟩, ⟨13, .guard⟩], some (13, true)⟩ ?v20z20 hHeld ?y20z20 ?r20z20
        case y20z20 => (intro w hSw; (try dsimp only at hSw); go_simp) <;> with_reducible rfl
        try simp only [Act.put, List.setIfInBounds_toArray, List.set_cons_zero, List.set_cons_succ]
        refine tkY 21 ⟨some 24, .binOp .quo 3 (.tmp 23) (.const (.int .i64 8)) 3, 3, "parts.go:75", #[⟨20, .data⟩, ⟨13, .guard⟩], some (13, true)⟩ ?v21z21 hHeld ?y21z21 ?r21z21
        case y21z21 => (intro w hSw; (try dsimp only at hSw); go_simp) <;> with_reducible rfl
        try simp only [Act.put, List.setIfInBounds_toArray, List.set_cons_zero, List.set_cons_succ]
        by_cases hc22 : (pre.length : Int) = N
        · have n2 : ((pre.length : Int) == N) = true := by simpa using hc22
          have f2 : Hid (decide ((pre.length : Int) = N) = true) := by simpa [Hid] using hc22
          have hbigL : Hid (pre.length ≤ 1000) := by have := HN.out; show _ ≤ _; omega
          clear hc22
          refine tkY 22 ⟨some 25, .binOp .eql 3 (.tmp 19) (.tmp 24) 3, 4, "parts.go:75", #[⟨16, .data⟩, ⟨21, .data⟩, ⟨13, .guard⟩], some (13, true)⟩ ?v22z22 hHeld ?y22z22 ?r22z22
          case y22z22 => (intro w hSw; (try dsimp only at hSw); go_simp) <;> with_reducible rfl
          try simp only [Act.put, List.setIfInBounds_toArray, List.set_cons_zero, List.set_cons_succ]
          refine tkY 23 ⟨some 26, .pick (.tmp 16) (.tmp 25) (.const (.bool false)), 4, "parts.go:75", #[⟨13, .data⟩, ⟨22, .data⟩], none⟩ ?v23z23 hHeld ?y23z23 ?r23z23
          case y23z23 => (intro w hSw; (try dsimp only at hSw); go_simp) <;> with_reducible rfl
          try simp only [Act.put, List.setIfInBounds_toArray, List.set_cons_zero, List.set_cons_succ]
          refine tkY 24 ⟨some 27, .move (.tmp 26), 4, "parts.go:75", #[⟨23, .data⟩, ⟨13, .chain⟩], none⟩ ?v24z24 hHeld ?y24z24 ?r24z24
          case y24z24 => (intro w hSw; (try dsimp only at hSw); go_simp) <;> with_reducible rfl
          try simp only [Act.put, List.setIfInBounds_toArray, List.set_cons_zero, List.set_cons_succ]
          refine tkY 25 ⟨some 28, .fieldAddr 26 (.tmp 1) 5, 0, "parts.go:75", #[⟨24, .guard⟩], some (24, true)⟩ ?v25z25 hHeld ?y25z25 ?r25z25
          case y25z25 => (intro w hSw; (try dsimp only at hSw); go_simp) <;> with_reducible rfl
          try simp only [Act.put, List.setIfInBounds_toArray, List.set_cons_zero, List.set_cons_succ]
          refine tkY 26 ⟨some 29, .load 22 (.tmp 28), 22, "parts.go:75", #[⟨25, .data⟩, ⟨24, .guard⟩], some (24, true)⟩ ?v26z26 hHeld ?y26z26 ?r26z26
          case y26z26 => (intro w hSw; (try dsimp only at hSw); go_simp) <;> with_reducible rfl
          try simp only [Act.put, List.setIfInBounds_toArray, List.set_cons_zero, List.set_cons_succ]
          refine tkY 27 ⟨some 30, .fieldAddr 26 (.tmp 1) 5, 0, "parts.go:75", #[⟨24, .guard⟩], some (24, true)⟩ ?v27z27 hHeld ?y27z27 ?r27z27
          case y27z27 => (intro w hSw; (try dsimp only at hSw); go_simp) <;> with_reducible rfl
          try simp only [Act.put, List.setIfInBounds_toArray, List.set_cons_zero, List.set_cons_succ]
          refine tkY 28 ⟨some 31, .load 22 (.tmp 30), 22, "parts.go:75", #[⟨27, .data⟩, ⟨24, .guard⟩], some (24, true)⟩ ?v28z28 hHeld ?y28z28 ?r28z28
          case y28z28 => (intro w hSw; (try dsimp only at hSw); go_simp) <;> with_reducible rfl
          try simp only [Act.put, List.setIfInBounds_toArray, List.set_cons_zero, List.set_cons_succ]
          refine tkY 29 ⟨some 32, .fieldAddr 26 (.tmp 1) 4, 0, "parts.go:75", #[⟨24, .guard⟩], some (24, true)⟩ ?v29z29 hHeld ?y29z29 ?r29z29
          case y29z29 => (intro w hSw; (try dsimp only at hSw); go_simp) <;> with_reducible rfl
          try simp only [Act.put, List.setIfInBounds_toArray, List.set_cons_zero, List.set_cons_succ]
          refine tkY 30 ⟨some 33, .load 3 (.tmp 32), 3, "parts.go:75", #[⟨29, .data⟩, ⟨24, .guard⟩], some (24, true)⟩ ?v30z30 hHeld ?y30z30 ?r30z30
          case y30z30 => (intro w hSw; (try dsimp only at hSw); go_simp) <;> with_reducible rfl
          try simp only [Act.put, List.setIfInBounds_toArray, List.set_cons_zero, List.set_cons_succ]
          refine wpAnyH_ready (rs := [31]) (by kernel_rfl) (by simp) ?_
          refine AllReadyH.cons (o := ⟨some 34, .call { callee := .value (.func 55), args := #[.tmp 31, .tmp 33], argTypes := #[22, 3] }, 22, "parts.go:76", #[⟨28, .data⟩, ⟨30, .data⟩, ⟨24, .chain⟩, ⟨24, .guard⟩], some (24, true)⟩) rfl (fun K hK => ?_) AllReadyH.nil
          go_simp
          refine (first_any _ pre d _ (kp.later bD) (by omega) (by omega) (by have := hbigL.out; omega)).mono ?_
          rintro x w2 ⟨p2, c2, rfl, kf, hb2'⟩
          have hb2 := bD.trans (hb2'.mono bD.size)
          replace hHeld := hcells w2 hb2
          clear hb2'
          refine hK.out _ _ ?_ (fun _ => ?_)
          · exact hHeld
          clear hK K
          try simp only [Act.put, List.setIfInBounds_toArray, List.set_cons_zero, List.set_cons_succ]
          refine wpAnyH_ready (rs := [32]) (by kernel_rfl) (by simp) ?_
          refine AllReadyH.cons (o := ⟨some 35, .call { callee := .value (.func 14), args := #[.tmp 29, .tmp 34], argTypes := #[22, 22] }, 4, "parts.go:76", #[⟨26, .data⟩, ⟨31, .data⟩, ⟨31, .chain⟩, ⟨24, .guard⟩], some (24, true)⟩) rfl (fun K hK => ?_) AllReadyH.nil
          go_simp
          refine (equal_any _ _ pre (firstF pre d) _ (kp.later hb2) kf).mono ?_
          rintro x w3 ⟨rfl, hw3⟩
          subst hw3
          obtain ⟨C, hC⟩ : ∃ C, C = (pre == firstF pre d) := ⟨_, rfl⟩
          rw [← hC]
          have HQ : Hid (C = (pre == firstF pre d)) := hC
          clear hC
          cases C with
          | true =>
            refine hK.out _ _ ?_ (fun _ => ?_)
            · exact hHeld
            clear hK K
            try simp only [Act.put, List.setIfInBounds_toArray, List.set_cons_zero, List.set_cons_succ]
            refine tkY 33 ⟨some 36, .pick (.tmp 27) (.tmp 35) (.const (.bool false)), 4, "parts.go:75", #[⟨24, .data⟩, ⟨32, .data⟩], none⟩ ?v33z31 hHeld ?y33z31 ?r33z31
            case y33z31 => (intro w hSw; (try dsimp only at hSw); go_simp) <;> with_reducible rfl
            try simp only [Act.put, List.setIfInBounds_toArray, List.set_cons_zero, List.set_cons_succ]
            refine tkY 34 ⟨some 2, .assign (.tmp 36), 4, "parts.go:75", #[⟨33, .data⟩, ⟨32, .chain⟩, ⟨0, .phase⟩, ⟨1, .phase⟩, ⟨2, .phase⟩, ⟨3, .phase⟩, ⟨4, .phase⟩, ⟨5, .phase⟩, ⟨6, .phase⟩, ⟨7, .phase⟩, ⟨8, .phase⟩, ⟨9, .phase⟩, ⟨10, .phase⟩, ⟨11, .phase⟩, ⟨12, .phase⟩, ⟨13, .phase⟩, ⟨14, .phase⟩, ⟨15, .phase⟩, ⟨16, .phase⟩, ⟨17, .phase⟩, ⟨18, .phase⟩, ⟨19, .phase⟩, ⟨20, .phase⟩, ⟨21, .phase⟩, ⟨22, .phase⟩, ⟨23, .phase⟩, ⟨24, .phase⟩, ⟨25, .phase⟩, ⟨26, .phase⟩, ⟨27, .phase⟩, ⟨28, .phase⟩, ⟨29, .phase⟩, ⟨30, .phase⟩, ⟨31, .phase⟩, ⟨32, .phase⟩, ⟨33, .phase⟩], none⟩ ?v34z32 hHeld ?y34z32 ?r34z32
            case y34z32 => (intro w hSw; (try dsimp only at hSw); go_simp) <;> with_reducible rfl
            try simp only [Act.put, List.setIfInBounds_toArray, List.set_cons_zero, List.set_cons_succ]
            refine wpAnyH_done (by kernel_rfl) ?_ _
            have HR : Hid (forkE d pre nw = true) := by
              show forkE _ _ _ = _
              simp only [forkE, HN.out, f0.out, f1.out, ← HE.out, f2.out, ← HQ.out, Bool.true_and]
            have HW : Hid (Below w.heap.size w w3) := bA.trans (hb2.mono bA.size)
            clear hHeld bD bA kp hcells
            go_wp2
            go_ret
            rw [HR.out]
            exact ⟨rfl, HW.out⟩
          | false =>
            refine hK.out _ _ ?_ (fun _ => ?_)
            · exact hHeld
            clear hK K
            try simp only [Act.put, List.setIfInBounds_toArray, List.set_cons_zero, List.set_cons_succ]
            refine tkY 33 ⟨some 36, .pick (.tmp 27) (.tmp 35) (.const (.bool false)), 4, "parts.go:75", #[⟨24, .data⟩, ⟨32, .data⟩], none⟩ ?v33z33 hHeld ?y33z33 ?r33z33
            case y33z33 => (intro w hSw; (try dsimp only at hSw); go_simp) <;> with_reducible rfl
            try simp only [Act.put, List.setIfInBounds_toArray, List.set_cons_zero, List.set_cons_succ]
            refine tkY 34 ⟨some 2, .assign (.tmp 36), 4, "parts.go:75", #[⟨33, .data⟩, ⟨32, .chain⟩, ⟨0, .phase⟩, ⟨1, .phase⟩, ⟨2, .phase⟩, ⟨3, .phase⟩, ⟨4, .phase⟩, ⟨5, .phase⟩, ⟨6, .phase⟩, ⟨7, .phase⟩, ⟨8, .phase⟩, ⟨9, .phase⟩, ⟨10, .phase⟩, ⟨11, .phase⟩, ⟨12, .phase⟩, ⟨13, .phase⟩, ⟨14, .phase⟩, ⟨15, .phase⟩, ⟨16, .phase⟩, ⟨17, .phase⟩, ⟨18, .phase⟩, ⟨19, .phase⟩, ⟨20, .phase⟩, ⟨21, .phase⟩, ⟨22, .phase⟩, ⟨23, .phase⟩, ⟨24, .phase⟩, ⟨25, .phase⟩, ⟨26, .phase⟩, ⟨27, .phase⟩, ⟨28, .phase⟩, ⟨29, .phase⟩, ⟨30, .phase⟩, ⟨31, .phase⟩, ⟨32, .phase⟩, ⟨33, .phase⟩], none⟩ ?v34z34 hHeld ?y34z34 ?r34z34
            case y34z34 => (intro w hSw; (try dsimp only at hSw); go_simp) <;> with_reducible rfl
            try simp only [Act.put, List.setIfInBounds_toArray, List.set_cons_zero, List.set_cons_succ]
            refine wpAnyH_done (by kernel_rfl) ?_ _
            have HR : Hid (forkE d pre nw = false) := by
              show forkE _ _ _ = _
              simp only [forkE, HN.out, f0.out, f1.out, ← HE.out, f2.out, ← HQ.out, Bool.true_and]
            have HW : Hid (Below w.heap.size w w3) := bA.trans (hb2.mono bA.size)
            clear hHeld bD bA kp hcells
            go_wp2
            go_ret
            rw [HR.out]
            exact ⟨rfl, HW.out⟩
        · have n2 : ((pre.length : Int) == N) = false := by simpa using hc22
          have f2 : Hid (decide ((pre.length : Int) = N) = false) := by simpa [Hid] using hc22
          clear hc22
          refine tkY 22 ⟨some 25, .binOp .eql 3 (.tmp 19) (.tmp 24) 3, 4, "parts.go:75", #[⟨16, .data⟩, ⟨21, .data⟩, ⟨13, .guard⟩], some (13, true)⟩ ?v22z35 hHeld ?y22z35 ?r22z35
          case y22z35 => (intro w hSw; (try dsimp only at hSw); go_simp) <;> with_reducible rfl
          try simp only [Act.put, List.setIfInBounds_toArray, List.set_cons_zero, List.set_cons_succ]
          refine tkY 23 ⟨some 26, .pick (.tmp 16) (.tmp 25) (.const (.bool false)), 4, "parts.go:75", #[⟨13, .data⟩, ⟨22, .data⟩], none⟩ ?v23z36 hHeld ?y23z36 ?r23z36
          case y23z36 => (intro w hSw; (try dsimp only at hSw); go_simp) <;> with_reducible rfl
          try simp only [Act.put, List.setIfInBounds_toArray, List.set_cons_zero, List.set_cons_succ]
          refine tkY 24 ⟨some 27, .move (.tmp 26), 4, "parts.go:75", #[⟨23, .data⟩, ⟨13, .chain⟩], none⟩ ?v24z37 hHeld ?y24z37 ?r24z37
          case y24z37 => (intro w hSw; (try dsimp only at hSw); go_simp) <;> with_reducible rfl
          try simp only [Act.put, List.setIfInBounds_toArray, List.set_cons_zero, List.set_cons_succ]
          refine tkN 25 ⟨some 28, .fieldAddr 26 (.tmp 1) 5, 0, "parts.go:75", #[⟨24, .guard⟩], some (24, true)⟩ hHeld ?_
          try simp only [Act.put, List.setIfInBounds_toArray, List.set_cons_zero, List.set_cons_succ]
          refine tkN 26 ⟨some 29, .load 22 (.tmp 28), 22, "parts.go:75", #[⟨25, .data⟩, ⟨24, .guard⟩], some (24, true)⟩ hHeld ?_
          try simp only [Act.put, List.setIfInBounds_toArray, List.set_cons_zero, List.set_cons_succ]
          refine tkN 27 ⟨some 30, .fieldAddr 26 (.tmp 1) 5, 0, "parts.go:75", #[⟨24, .guard⟩], some (24, true)⟩ hHeld ?_
          try simp only [Act.put, List.setIfInBounds_toArray, List.set_cons_zero, List.set_cons_succ]
          refine tkN 28 ⟨some 31, .load 22 (.tmp 30), 22, "parts.go:75", #[⟨27, .data⟩, ⟨24, .guard⟩], some (24, true)⟩ hHeld ?_
          try simp only [Act.put, List.setIfInBounds_toArray, List.set_cons_zero, List.set_cons_succ]
          refine tkN 29 ⟨some 32, .fieldAddr 26 (.tmp 1) 4, 0, "parts.go:75", #[⟨24, .guard⟩], some (24, true)⟩ hHeld ?_
          try simp only [Act.put, List.setIfInBounds_toArray, List.set_cons_zero, List.set_cons_succ]
          refine tkN 30 ⟨some 33, .load 3 (.tmp 32), 3, "parts.go:75", #[⟨29, .data⟩, ⟨24, .guard⟩], some (24, true)⟩ hHeld ?_
          try simp only [Act.put, List.setIfInBounds_toArray, List.set_cons_zero, List.set_cons_succ]
          refine tkN 31 ⟨some 34, .call { callee := .value (.func 55), args := #[.tmp 31, .tmp 33], argTypes := #[22, 3] }, 22, "parts.go:76", #[⟨28, .data⟩, ⟨30, .data⟩, ⟨24, .chain⟩, ⟨24, .guard⟩], some (24, true)⟩ hHeld ?_
          try simp only [Act.put, List.setIfInBounds_toArray, List.set_cons_zero, List.set_cons_succ]
          refine tkN 32 ⟨some 35, .call { callee := .value (.func 14), args := #[.tmp 29, .tmp 34], argTypes := #[22, 22] }, 4, "parts.go:76", #[⟨26, .data⟩, ⟨31, .data⟩, ⟨31, .chain⟩, ⟨24, .guard⟩], some (24, true)⟩ hHeld ?_
          try simp only [Act.put, List.setIfInBounds_toArray, List.set_cons_zero, List.set_cons_succ]
          refine tkY 33 ⟨some 36, .pick (.tmp 27) (.tmp 35) (.const (.bool false)), 4, "parts.go:75", #[⟨24, .data⟩, ⟨32, .data⟩], none⟩ ?v33z38 hHeld ?y33z38 ?r33z38
          case y33z38 => (intro w hSw; (try dsimp only at hSw); go_simp) <;> with_reducible rfl
          try simp only [Act.put, List.setIfInBounds_toArray, List.set_cons_zero, List.set_cons_succ]
          refine tkY 34 ⟨some 2, .assign (.tmp 36), 4, "parts.go:75", #[⟨33, .data⟩, ⟨32, .chain⟩, ⟨0, .phase⟩, ⟨1, .phase⟩, ⟨2, .phase⟩, ⟨3, .phase⟩, ⟨4, .phase⟩, ⟨5, .phase⟩, ⟨6, .phase⟩, ⟨7, .phase⟩, ⟨8, .phase⟩, ⟨9, .phase⟩, ⟨10, .phase⟩, ⟨11, .phase⟩, ⟨12, .phase⟩, ⟨13, .phase⟩, ⟨14, .phase⟩, ⟨15, .phase⟩, ⟨16, .phase⟩, ⟨17, .phase⟩, ⟨18, .phase⟩, ⟨19, .phase⟩, ⟨20, .phase⟩, ⟨21, .phase⟩, ⟨22, .phase⟩, ⟨23, .phase⟩, ⟨24, .phase⟩, ⟨25, .phase⟩, ⟨26, .phase⟩, ⟨27, .phase⟩, ⟨28, .phase⟩, ⟨29, .phase⟩, ⟨30, .phase⟩, ⟨31, .phase⟩, ⟨32, .phase⟩, ⟨33, .phase⟩], none⟩ ?v34z39 hHeld ?y34z39 ?r34z39
          case y34z39 => (intro w hSw; (try dsimp only at hSw); go_simp) <;> with_reducible rfl
          try simp only [Act.put, List.setIfInBounds_toArray, List.set_cons_zero, List.set_cons_succ]
          refine wpAnyH_done (by kernel_rfl) ?_ _
          have HR : Hid (forkE d pre nw = false) := by
            show forkE _ _ _ = _
            simp only [forkE, HN.out, f0.out, f1.out, ← HE.out, f2.out, Bool.true_and, Bool.false_and]
          have HW : Hid (Below w.heap.size w V.drew) := bA.trans (bD.mono bA.size)
          clear hHeld bD bA kp hcells
          go_wp2
          go_ret
          rw [HR.out]
          exact ⟨rfl, HW.out⟩
      | false =>
        refine hK.out _ _ ?_ (fun _ => ?_)
        · exact hHeld
        clear hK K
        try simp only [Act.put, List.setIfInBounds_toArray, List.set_cons_zero, List.set_cons_succ]
        refine tkY 12 ⟨some 15, .pick (.tmp 11) (.tmp 14) (.const (.bool false)), 4, "parts.go:75", #[⟨8, .data⟩, ⟨11, .data⟩], none⟩ ?v12z40 hHeld ?y12z40 ?r12z40
        case y12z40 => (intro w hSw; (try dsimp only at hSw); go_simp) <;> with_reducible rfl
        try simp only [Act.put, List.setIfInBounds_toArray, List.set_cons_zero, List.set_cons_succ]
        refine tkY 13 ⟨some 16, .move (.tmp 15), 4, "parts.go:75", #[⟨12, .data⟩, ⟨11, .chain⟩], none⟩ ?v13z41 hHeld ?y13z41 ?r13z41
        case y13z41 => (intro w hSw; (try dsimp only at hSw); go_simp) <;> with_reducible rfl
        try simp only [Act.put, List.setIfInBounds_toArray, List.set_cons_zero, List.set_cons_succ]
        refine tkN 14 ⟨some 17, .fieldAddr 26 (.tmp 1) 5, 0, "parts.go:75", #[⟨13, .guard⟩], some (13, true)⟩ hHeld ?_
        try simp only [Act.put, List.setIfInBounds_toArray, List.set_cons_zero, List.set_cons_succ]
        refine tkN 15 ⟨some 18, .load 22 (.tmp 17), 22, "parts.go:75", #[⟨14, .data⟩, ⟨13, .guard⟩], some (13, true)⟩ hHeld ?_
        try simp only [Act.put, List.setIfInBounds_toArray, List.set_cons_zero, List.set_cons_succ]
        refine tkN 16 ⟨some 19, .call { callee := .builtin .len, args := #[.tmp 18], argTypes := #[22] }, 3, "parts.go:75", #[⟨15, .data⟩, ⟨13, .guard⟩], some (13, true)⟩ hHeld ?_
        try simp only [Act.put, List.setIfInBounds_toArray, List.set_cons_zero, List.set_cons_succ]
        refine tkN 17 ⟨some 20, .fieldAddr 26 (.tmp 1) 4, 0, "parts.go:75", #[⟨13, .guard⟩], some (13, true)⟩ hHeld ?_
        try simp only [Act.put, List.setIfInBounds_toArray, List.set_cons_zero, List.set_cons_succ]
        refine tkN 18 ⟨some 21, .load 3 (.tmp 20), 3, "parts.go:75", #[⟨17, .data⟩, ⟨13, .guard⟩], some (13, true)⟩ hHeld ?_
        try simp only [Act.put, List.setIfInBounds_toArray, List.set_cons_zero, List.set_cons_succ]
        refine tkN 19 ⟨some 22, .binOp .add 3 (.tmp 21) (.const (.int .i64 8)) 3, 3, "parts.go:75", #[⟨18, .data⟩, ⟨13, .guard⟩], some (13, true)⟩ hHeld ?_
        try simp only [Act.put, List.setIfInBounds_toArray, List.set_cons_zero, List.set_cons_succ]
        refine tkN 20 ⟨some 23, .binOp .sub 3 (.tmp 22) (.const (.int .i64 1)) 3, 3, "parts.go:75", #[⟨19, .data⟩, ⟨13, .guard⟩], some (13, true)⟩ hHeld ?_
        try simp only [Act.put, List.setIfInBounds_toArray, List.set_cons_zero, List.set_cons_succ]
        refine tkN 21 ⟨some 24, .binOp .quo 3 (.tmp 23) (.const (.int .i64 8)) 3, 3, "parts.go:75", #[⟨20, .data⟩, ⟨13, .guard⟩], some (13, true)⟩ hHeld ?_
        try simp only [Act.put, List.setIfInBounds_toArray, List.set_cons_zero, List.set_cons_succ]
        refine tkN 22 ⟨some 25, .binOp .eql 3 (.tmp 19) (.tmp 24) 3, 4, "parts.go:75", #[⟨16, .data⟩, ⟨21, .data⟩, ⟨13, .guard⟩], some (13, true)⟩ hHeld ?_
        try simp only [Act.put, List.setIfInBounds_toArray, List.set_cons_zero, List.set_cons_succ]
        refine tkY 23 ⟨some 26, .pick (.tmp 16) (.tmp 25) (.const (.bool false)), 4, "parts.go:75", #[⟨13, .data⟩, ⟨22, .data⟩], none⟩ ?v23z42 hHeld ?y23z42 ?r23z42
        case y23z42 => (intro w hSw; (try dsimp only at hSw); go_simp) <;> with_reducible rfl
        try simp only [Act.put, List.setIfInBounds_toArray, List.set_cons_zero, List.set_cons_succ]
        refine tkY 24 ⟨some 27, .move (.tmp 26), 4, "parts.go:75", #[⟨23, .data⟩, ⟨13, .chain⟩], none⟩ ?v24z43 hHeld ?y24z43 ?r24z43
        case y24z43 => (intro w hSw; (try dsimp only at hSw); go_simp) <;> with_reducible rfl
        try simp only [Act.put, List.setIfInBounds_toArray, List.set_cons_zero, List.set_cons_succ]
        refine tkN 25 ⟨some 28, .fieldAddr 26 (.tmp 1) 5, 0, "parts.go:75", #[⟨24, .guard⟩], some (24, true)⟩ hHeld ?_
        try simp only [Act.put, List.setIfInBounds_toArray, List.set_cons_zero, List.set_cons_succ]
        refine tkN 26 ⟨some 29, .load 22 (.tmp 28), 22, "parts.go:75", #[⟨25, .data⟩, ⟨24, .guard⟩], some (24, true)⟩ hHeld ?_
        try simp only [Act.put, List.setIfInBounds_toArray, List.set_cons_zero, List.set_cons_succ]
        refine tkN 27 ⟨some 30, .fieldAddr 26 (.tmp 1) 5, 0, "parts.go:75", #[⟨24, .guard⟩], some (24, true)⟩ hHeld ?_
        try simp only [Act.put, List.setIfInBounds_toArray, List.set_cons_zero, List.set_cons_succ]
        refine tkN 28 ⟨some 31, .load 22 (.tmp 30), 22, "parts.go:75", #[⟨27, .data⟩, ⟨24, .guard⟩], some (24, true)⟩ hHeld ?_
        try simp only [Act.put, List.setIfInBounds_toArray, List.set_cons_zero, List.set_cons_succ]
        refine tkN 29 ⟨some 32, .fieldAddr 26 (.tmp 1) 4, 0, "parts.go:75", #[⟨24, .guard⟩], some (24, true)⟩ hHeld ?_
        try simp only [Act.put, List.setIfInBounds_toArray, List.set_cons_zero, List.set_cons_succ]
        refine tkN 30 ⟨some 33, .load 3 (.tmp 32), 3, "parts.go:75", #[⟨29, .data⟩, ⟨24, .guard⟩], some (24, true)⟩ hHeld ?_
        try simp only [Act.put, List.setIfInBounds_toArray, List.set_cons_zero, List.set_cons_succ]
        refine tkN 31 ⟨some 34, .call { callee := .value (.func 55), args := #[.tmp 31, .tmp 33], argTypes := #[22, 3] }, 22, "parts.go:76", #[⟨28, .data⟩, ⟨30, .data⟩, ⟨24, .chain⟩, ⟨24, .guard⟩], some (24, true)⟩ hHeld ?_
        try simp only [Act.put, List.setIfInBounds_toArray, List.set_cons_zero, List.set_cons_succ]
        refine tkN 32 ⟨some 35, .call { callee := .value (.func 14), args := #[.tmp 29, .tmp 34], argTypes := #[22, 22] }, 4, "parts.go:76", #[⟨26, .data⟩, ⟨31, .data⟩, ⟨31, .chain⟩, ⟨24, .guard⟩], some (24, true)⟩ hHeld ?_
        try simp only [Act.put, List.setIfInBounds_toArray, List.set_cons_zero, List.set_cons_succ]
        refine tkY 33 ⟨some 36, .pick (.tmp 27) (.tmp 35) (.const (.bool false)), 4, "parts.go:75", #[⟨24, .data⟩, ⟨32, .data⟩], none⟩ ?v33z44 hHeld ?y33z44 ?r33z44
        case y33z44 => (intro w hSw; (try dsimp only at hSw); go_simp) <;> with_reducible rfl
        try simp only [Act.put, List.setIfInBounds_toArray, List.set_cons_zero, List.set_cons_succ]
        refine tkY 34 ⟨some 2, .assign (.tmp 36), 4, "parts.go:75", #[⟨33, .data⟩, ⟨32, .chain⟩, ⟨0, .phase⟩, ⟨1, .phase⟩, ⟨2, .phase⟩, ⟨3, .phase⟩, ⟨4, .phase⟩, ⟨5, .phase⟩, ⟨6, .phase⟩, ⟨7, .phase⟩, ⟨8, .phase⟩, ⟨9, .phase⟩, ⟨10, .phase⟩, ⟨11, .phase⟩, ⟨12, .phase⟩, ⟨13, .phase⟩, ⟨14, .phase⟩, ⟨15, .phase⟩, ⟨16, .phase⟩, ⟨17, .phase⟩, ⟨18, .phase⟩, ⟨19, .phase⟩, ⟨20, .phase⟩, ⟨21, .phase⟩, ⟨22, .phase⟩, ⟨23, .phase⟩, ⟨24, .phase⟩, ⟨25, .phase⟩, ⟨26, .phase⟩, ⟨27, .phase⟩, ⟨28, .phase⟩, ⟨29, .phase⟩, ⟨30, .phase⟩, ⟨31, .phase⟩, ⟨32, .phase⟩, ⟨33, .phase⟩], none⟩ ?v34z45 hHeld ?y34z45 ?r34z45
        case y34z45 => (intro w hSw; (try dsimp only at hSw); go_simp) <;> with_reducible rfl
        try simp only [Act.put, List.setIfInBounds_toArray, List.set_cons_zero, List.set_cons_succ]
        refine wpAnyH_done (by kernel_rfl) ?_ _
        have HR : Hid (forkE d pre nw = false) := by
          show forkE _ _ _ = _
          simp only [forkE, f0.out, f1.out, ← HE.out, Bool.true_and, Bool.false_and]
        have HW : Hid (Below w.heap.size w V.drew) := bA.trans (bD.mono bA.size)
        clear hHeld bD bA kp hcells
        go_wp2
        go_ret
        rw [HR.out]
        exact ⟨rfl, HW.out⟩
    · have n1 : decide (d ≤ 2048) = false := by simpa using hc6
      have f1 : Hid (decide (d ≤ 2048) = false) := n1
      refine tkY 6 ⟨some 9, .binOp .leq 3 (.tmp 8) (.const (.int .i64 2048)) 3, 4, "parts.go:75", #[⟨5, .data⟩, ⟨3, .guard⟩], some (3, true)⟩ ?v6z46 hHeld ?y6z46 ?r6z46
      case y6z46 => (intro w hSw; (try dsimp only at hSw); go_simp) <;> with_reducible rfl
      try simp only [Act.put, List.setIfInBounds_toArray, List.set_cons_zero, List.set_cons_succ]
      refine tkY 7 ⟨some 10, .pick (.tmp 6) (.tmp 9) (.const (.bool false)), 4, "parts.go:75", #[⟨3, .data⟩, ⟨6, .data⟩], none⟩ ?v7z47 hHeld ?y7z47 ?r7z47
      case y7z47 => (intro w hSw; (try dsimp only at hSw); go_simp) <;> with_reducible rfl
      try simp only [Act.put, List.setIfInBounds_toArray, List.set_cons_zero, List.set_cons_succ]
      refine tkY 8 ⟨some 11, .move (.tmp 10), 4, "parts.go:75", #[⟨7, .data⟩, ⟨3, .chain⟩], none⟩ ?v8z48 hHeld ?y8z48 ?r8z48
      case y8z48 => (intro w hSw; (try dsimp only at hSw); go_simp) <;> with_reducible rfl
      try simp only [Act.put, List.setIfInBounds_toArray, List.set_cons_zero, List.set_cons_succ]
      refine tkN 9 ⟨some 12, .fieldAddr 26 (.tmp 1) 6, 0, "parts.go:75", #[⟨8, .guard⟩], some (8, true)⟩ hHeld ?_
      try simp only [Act.put, List.setIfInBounds_toArray, List.set_cons_zero, List.set_cons_succ]
      refine tkN 10 ⟨some 13, .load 3 (.tmp 12), 3, "parts.go:75", #[⟨9, .data⟩, ⟨8, .guard⟩], some (8, true)⟩ hHeld ?_
      try simp only [Act.put, List.setIfInBounds_toArray, List.set_cons_zero, List.set_cons_succ]
      refine tkN 11 ⟨some 14, .call { callee := .value (.func 45), args := #[.tmp 13], argTypes := #[3] }, 4, "parts.go:75", #[⟨10, .data⟩, ⟨8, .chain⟩, ⟨8, .guard⟩], some (8, true)⟩ hHeld ?_
      try simp only [Act.put, List.setIfInBounds_toArray, List.set_cons_zero, List.set_cons_succ]
      refine tkY 12 ⟨some 15, .pick (.tmp 11) (.tmp 14) (.const (.bool false)), 4, "parts.go:75", #[⟨8, .data⟩, ⟨11, .data⟩], none⟩ ?v12z49 hHeld ?y12z49 ?r12z49
      case y12z49 => (intro w hSw; (try dsimp only at hSw); go_simp) <;> with_reducible rfl
      try simp only [Act.put, List.setIfInBounds_toArray, List.set_cons_zero, List.set_cons_succ]
      refine tkY 13 ⟨some 16, .move (.tmp 15), 4, "parts.go:75", #[⟨12, .data⟩, ⟨11, .chain⟩], none⟩ ?v13z50 hHeld ?y13z50 ?r13z50
      case y13z50 => (intro w hSw; (try dsimp only at hSw); go_simp) <;> with_reducible rfl
      try simp only [Act.put, List.setIfInBounds_toArray, List.set_cons_zero, List.set_cons_succ]
      refine tkN 14 ⟨some 17, .fieldAddr 26 (.tmp 1) 5, 0, "parts.go:75", #[⟨13, .guard⟩], some (13, true)⟩ hHeld ?_
      try simp only [Act.put, List.setIfInBounds_toArray, List.set_cons_zero, List.set_cons_succ]
      refine tkN 15 ⟨some 18, .load 22 (.tmp 17), 22, "parts.go:75", #[⟨14, .data⟩, ⟨13, .guard⟩], some (13, true)⟩ hHeld ?_
      try simp only [Act.put, List.setIfInBounds_toArray, List.set_cons_zero, List.set_cons_succ]
      refine tkN 16 ⟨some 19, .call { callee := .builtin .len, args := #[.tmp 18], argTypes := #[22] }, 3, "parts.go:75", #[⟨15, .data⟩, ⟨13, .guard⟩], some (13, true)⟩ hHeld ?_
      try simp only [Act.put, List.setIfInBounds_toArray, List.set_cons_zero, List.set_cons_succ]
      refine tkN 17 ⟨some 20, .fieldAddr 26 (.tmp 1) 4, 0, "parts.go:75", #[⟨13, .guard⟩], some (13, true)⟩ hHeld ?_
      try simp only [Act.put, List.setIfInBounds_toArray, List.set_cons_zero, List.set_cons_succ]
      refine tkN 18 ⟨some 21, .load 3 (.tmp 20), 3, "parts.go:75", #[⟨17, .data⟩, ⟨13, .guard⟩], some (13, true)⟩ hHeld ?_
      try simp only [Act.put, List.setIfInBounds_toArray, List.set_cons_zero, List.set_cons_succ]
      refine tkN 19 ⟨some 22, .binOp .add 3 (.tmp 21) (.const (.int .i64 8)) 3, 3, "parts.go:75", #[⟨18, .data⟩, ⟨13, .guard⟩], some (13, true)⟩ hHeld ?_
      try simp only [Act.put, List.setIfInBounds_toArray, List.set_cons_zero, List.set_cons_succ]
      refine tkN 20 ⟨some 23, .binOp .sub 3 (.tmp 22) (.const (.int .i64 1)) 3, 3, "parts.go:75", #[⟨19, .data⟩, ⟨13, .guard⟩], some (13, true)⟩ hHeld ?_
      try simp only [Act.put, List.setIfInBounds_toArray, List.set_cons_zero, List.set_cons_succ]
      refine tkN 21 ⟨some 24, .binOp .quo 3 (.tmp 23) (.const (.int .i64 8)) 3, 3, "parts.go:75", #[⟨20, .data⟩, ⟨13, .guard⟩], some (13, true)⟩ hHeld ?_
      try simp only [Act.put, List.setIfInBounds_toArray, List.set_cons_zero, List.set_cons_succ]
      refine tkN 22 ⟨some 25, .binOp .eql 3 (.tmp 19) (.tmp 24) 3, 4, "parts.go:75", #[⟨16, .data⟩, ⟨21, .data⟩, ⟨13, .guard⟩], some (13, true)⟩ hHeld ?_
      try simp only [Act.put, List.setIfInBounds_toArray, List.set_cons_zero, List.set_cons_succ]
      refine tkY 23 ⟨some 26, .pick (.tmp 16) (.tmp 25) (.const (.bool false)), 4, "parts.go:75", #[⟨13, .data⟩, ⟨22, .data⟩], none⟩ ?v23z51 hHeld ?y23z51 ?r23z51
      case y23z51 => (intro w hSw; (try dsimp only at hSw); go_simp) <;> with_reducible rfl
      try simp only [Act.put, List.setIfInBounds_toArray, List.set_cons_zero, List.set_cons_succ]
      refine tkY 24 ⟨some 27, .move (.tmp 26), 4, "parts.go:75", #[⟨23, .data⟩, ⟨13, .chain⟩], none⟩ ?v24z52 hHeld ?y24z52 ?r24z52
      case y24z52 => (intro w hSw; (try dsimp only at hSw); go_simp) <;> with_reducible rfl
      try simp only [Act.put, List.setIfInBounds_toArray, List.set_cons_zero, List.set_cons_succ]
      refine tkN 25 ⟨some 28, .fieldAddr 26 (.tmp 1) 5, 0, "parts.go:75", #[⟨24, .guard⟩], some (24, true)⟩ hHeld ?_
      try simp only [Act.put, List.setIfInBounds_toArray, List.set_cons_zero, List.set_cons_succ]
      refine tkN 26 ⟨some 29, .load 22 (.tmp 28), 22, "parts.go:75", #[⟨25, .data⟩, ⟨24, .guard⟩], some (24, true)⟩ hHeld ?_
      try simp only [Act.put, List.setIfInBounds_toArray, List.set_cons_zero, List.set_cons_succ]
      refine tkN 27 ⟨some 30, .fieldAddr 26 (.tmp 1) 5, 0, "parts.go:75", #[⟨24, .guard⟩], some (24, true)⟩ hHeld ?_
      try simp only [Act.put, List.setIfInBounds_toArray, List.set_cons_zero, List.set_cons_succ]
      refine tkN 28 ⟨some 31, .load 22 (.tmp 30), 22, "parts.go:75", #[⟨27, .data⟩, ⟨24, .guard⟩], some (24, true)⟩ hHeld ?_
      try simp only [Act.put, List.setIfInBounds_toArray, List.set_cons_zero, List.set_cons_succ]
      refine tkN 29 ⟨some 32, .fieldAddr 26 (.tmp 1) 4, 0, "parts.go:75", #[⟨24, .guard⟩], some (24, true)⟩ hHeld ?_
      try simp only [Act.put, List.setIfInBounds_toArray, List.set_cons_zero, List.set_cons_succ]
      refine tkN 30 ⟨some 33, .load 3 (.tmp 32), 3, "parts.go:75", #[⟨29, .data⟩, ⟨24, .guard⟩], some (24, true)⟩ hHeld ?_
      try simp only [Act.put, List.setIfInBounds_toArray, List.set_cons_zero, List.set_cons_succ]
      refine tkN 31 ⟨some 34, .call { callee := .value (.func 55), args := #[.tmp 31, .tmp 33], argTypes := #[22, 3] }, 22, "parts.go:76", #[⟨28, .data⟩, ⟨30, .data⟩, ⟨24, .chain⟩, ⟨24, .guard⟩], some (24, true)⟩ hHeld ?_
      try simp only [Act.put, List.setIfInBounds_toArray, List.set_cons_zero, List.set_cons_succ]
      refine tkN 32 ⟨some 35, .call { callee := .value (.func 14), args := #[.tmp 29, .tmp 34], argTypes := #[22, 22] }, 4, "parts.go:76", #[⟨26, .data⟩, ⟨31, .data⟩, ⟨31, .chain⟩, ⟨24, .guard⟩], some (24, true)⟩ hHeld ?_
      try simp only [Act.put, List.setIfInBounds_toArray, List.set_cons_zero, List.set_cons_succ]
      refine tkY 33 ⟨some 36, .pick (.tmp 27) (.tmp 35) (.const (.bool false)), 4, "parts.go:75", #[⟨24, .data⟩, ⟨32, .data⟩], none⟩ ?v33z53 hHeld ?y33z53 ?r33z53
      case y33z53 => (intro w hSw; (try dsimp only at hSw); go_simp) <;> with_reducible rfl
      try simp only [Act.put, List.setIfInBounds_toArray, List.set_cons_zero, List.set_cons_succ]
      refine tkY 34 ⟨some 2, .assign (.tmp 36), 4, "parts.go:75", #[⟨33, .data⟩, ⟨32, .chain⟩, ⟨0, .phase⟩, ⟨1, .phase⟩, ⟨2, .phase⟩, ⟨3, .phase⟩, ⟨4, .phase⟩, ⟨5, .phase⟩, ⟨6, .phase⟩, ⟨7, .phase⟩, ⟨8, .phase⟩, ⟨9, .phase⟩, ⟨10, .phase⟩, ⟨11, .phase⟩, ⟨12, .phase⟩, ⟨13, .phase⟩, ⟨14, .phase⟩, ⟨15, .phase⟩, ⟨16, .phase⟩, ⟨17, .phase⟩, ⟨18, .phase⟩, ⟨19, .phase⟩, ⟨20, .phase⟩, ⟨21, .phase⟩, ⟨22, .phase⟩, ⟨23, .phase⟩, ⟨24, .phase⟩, ⟨25, .phase⟩, ⟨26, .phase⟩, ⟨27, .phase⟩, ⟨28, .phase⟩, ⟨29, .phase⟩, ⟨30, .phase⟩, ⟨31, .phase⟩, ⟨32, .phase⟩, ⟨33, .phase⟩], none⟩ ?v34z54 hHeld ?y34z54 ?r34z54
      case y34z54 => (intro w hSw; (try dsimp only at hSw); go_simp) <;> with_reducible rfl
      try simp only [Act.put, List.setIfInBounds_toArray, List.set_cons_zero, List.set_cons_succ]
      refine wpAnyH_done (by kernel_rfl) ?_ _
      have HR : Hid (forkE d pre nw = false) := by
        show forkE _ _ _ = _
        simp only [forkE, f0.out, f1.out, Bool.true_and, Bool.false_and]
      have HW : Hid (Below w.heap.size w V.drew) := bA.trans (bD.mono bA.size)
      clear hHeld bD bA kp hcells
      go_wp2
      go_ret
      rw [HR.out]
      exact ⟨rfl, HW.out⟩
  · have n0 : decide (0 ≤ d) = false := by simpa using hc2
    have f0 : Hid (decide (0 ≤ d) = false) := n0
    refine tkY 2 ⟨some 5, .binOp .geq 3 (.tmp 4) (.const (.int .i64 0)) 3, 4, "parts.go:75", #[⟨1, .data⟩], none⟩ ?v2z55 hHeld ?y2z55 ?r2z55
    case y2z55 => (intro w hSw; (try dsimp only at hSw); go_simp) <;> with_reducible rfl
    try simp only [Act.put, List.setIfInBounds_toArray, List.set_cons_zero, List.set_cons_succ]
    refine tkY 3 ⟨some 6, .move (.tmp 5), 4, "parts.go:75", #[⟨2, .data⟩], none⟩ ?v3z56 hHeld ?y3z56 ?r3z56
    case y3z56 => (intro w hSw; (try dsimp only at hSw); go_simp) <;> with_reducible rfl
    try simp only [Act.put, List.setIfInBounds_toArray, List.set_cons_zero, List.set_cons_succ]
    refine tkN 4 ⟨some 7, .fieldAddr 26 (.tmp 1) 4, 0, "parts.go:75", #[⟨3, .guard⟩], some (3, true)⟩ hHeld ?_
    try simp only [Act.put, List.setIfInBounds_toArray, List.set_cons_zero, List.set_cons_succ]
    refine tkN 5 ⟨some 8, .load 3 (.tmp 7), 3, "parts.go:75", #[⟨4, .data⟩, ⟨3, .guard⟩], some (3, true)⟩ hHeld ?_
    try simp only [Act.put, List.setIfInBounds_toArray, List.set_cons_zero, List.set_cons_succ]
    refine tkN 6 ⟨some 9, .binOp .leq 3 (.tmp 8) (.const (.int .i64 2048)) 3, 4, "parts.go:75", #[⟨5, .data⟩, ⟨3, .guard⟩], some (3, true)⟩ hHeld ?_
    try simp only [Act.put, List.setIfInBounds_toArray, List.set_cons_zero, List.set_cons_succ]
    refine tkY 7 ⟨some 10, .pick (.tmp 6) (.tmp 9) (.const (.bool false)), 4, "parts.go:75", #[⟨3, .data⟩, ⟨6, .data⟩], none⟩ ?v7z57 hHeld ?y7z57 ?r7z57
    case y7z57 => (intro w hSw; (try dsimp only at hSw); go_simp) <;> with_reducible rfl
    try simp only [Act.put, List.setIfInBounds_toArray, List.set_cons_zero, List.set_cons_succ]
    refine tkY 8 ⟨some 11, .move (.tmp 10), 4, "parts.go:75", #[⟨7, .data⟩, ⟨3, .chain⟩], none⟩ ?v8z58 hHeld ?y8z58 ?r8z58
    case y8z58 => (intro w hSw; (try dsimp only at hSw); go_simp) <;> with_reducible rfl
    try simp only [Act.put, List.setIfInBounds_toArray, List.set_cons_zero, List.set_cons_succ]
    refine tkN 9 ⟨some 12, .fieldAddr 26 (.tmp 1) 6, 0, "parts.go:75", #[⟨8, .guard⟩], some (8, true)⟩ hHeld ?_
    try simp only [Act.put, List.setIfInBounds_toArray, List.set_cons_zero, List.set_cons_succ]
    refine tkN 10 ⟨some 13, .load 3 (.tmp 12), 3, "parts.go:75", #[⟨9, .data⟩, ⟨8, .guard⟩], some (8, true)⟩ hHeld ?_
    try simp only [Act.put, List.setIfInBounds_toArray, List.set_cons_zero, List.set_cons_succ]
    refine tkN 11 ⟨some 14, .call { callee := .value (.func 45), args := #[.tmp 13], argTypes := #[3] }, 4, "parts.go:75", #[⟨10, .data⟩, ⟨8, .chain⟩, ⟨8, .guard⟩], some (8, true)⟩ hHeld ?_
    try simp only [Act.put, List.setIfInBounds_toArray, List.set_cons_zero, List.set_cons_succ]
    refine tkY 12 ⟨some 15, .pick (.tmp 11) (.tmp 14) (.const (.bool false)), 4, "parts.go:75", #[⟨8, .data⟩, ⟨11, .data⟩], none⟩ ?v12z59 hHeld ?y12z59 ?r12z59
    case y12z59 => (intro w hSw; (try dsimp only at hSw); go_simp) <;> with_reducible rfl
    try simp only [Act.put, List.setIfInBounds_toArray, List.set_cons_zero, List.set_cons_succ]
    refine tkY 13 ⟨some 16, .move (.tmp 15), 4, "parts.go:75", #[⟨12, .data⟩, ⟨11, .chain⟩], none⟩ ?v13z60 hHeld ?y13z60 ?r13z60
    case y13z60 => (intro w hSw; (try dsimp only at hSw); go_simp) <;> with_reducible rfl
    try simp only [Act.put, List.setIfInBounds_toArray, List.set_cons_zero, List.set_cons_succ]
    refine tkN 14 ⟨some 17, .fieldAddr 26 (.tmp 1) 5, 0, "parts.go:75", #[⟨13, .guard⟩], some (13, true)⟩ hHeld ?_
    try simp only [Act.put, List.setIfInBounds_toArray, List.set_cons_zero, List.set_cons_succ]
    refine tkN 15 ⟨some 18, .load 22 (.tmp 17), 22, "parts.go:75", #[⟨14, .data⟩, ⟨13, .guard⟩], some (13, true)⟩ hHeld ?_
    try simp only [Act.put, List.setIfInBounds_toArray, List.set_cons_zero, List.set_cons_succ]
    refine tkN 16 ⟨some 19, .call { callee := .builtin .len, args := #[.tmp 18], argTypes := #[22] }, 3, "parts.go:75", #[⟨15, .data⟩, ⟨13, .guard⟩], some (13, true)⟩ hHeld ?_
    try simp only [Act.put, List.setIfInBounds_toArray, List.set_cons_zero, List.set_cons_succ]
    refine tkN 17 ⟨some 20, .fieldAddr 26 (.tmp 1) 4, 0, "parts.go:75", #[⟨13, .guard⟩], some (13, true)⟩ hHeld ?_
    try simp only [Act.put, List.setIfInBounds_toArray, List.set_cons_zero, List.set_cons_succ]
    refine tkN 18 ⟨some 21, .load 3 (.tmp 20), 3, "parts.go:75", #[⟨17, .data⟩, ⟨13, .guard⟩], some (13, true)⟩ hHeld ?_
    try simp only [Act.put, List.setIfInBounds_toArray, List.set_cons_zero, List.set_cons_succ]
    refine tkN 19 ⟨some 22, .binOp .add 3 (.tmp 21) (.const (.int .i64 8)) 3, 3, "parts.go:75", #[⟨18, .data⟩, ⟨13, .guard⟩], some (13, true)⟩ hHeld ?_
    try simp only [Act.put, List.setIfInBounds_toArray, List.set_cons_zero, List.set_cons_succ]
    refine tkN 20 ⟨some 23, .binOp .sub 3 (.tmp 22) (.const (.int .i64 1)) 3, 3, "parts.go:75", #[⟨19, .data⟩, ⟨13, .guard⟩], some (13, true)⟩ hHeld ?_
    try simp only [Act.put, List.setIfInBounds_toArray, List.set_cons_zero, List.set_cons_succ]
    refine tkN 21 ⟨some 24, .binOp .quo 3 (.tmp 23) (.const (.int .i64 8)) 3, 3, "parts.go:75", #[⟨20, .data⟩, ⟨13, .guard⟩], some (13, true)⟩ hHeld ?_
    try simp only [Act.put, List.setIfInBounds_toArray, List.set_cons_zero, List.set_cons_succ]
    refine tkN 22 ⟨some 25, .binOp .eql 3 (.tmp 19) (.tmp 24) 3, 4, "parts.go:75", #[⟨16, .data⟩, ⟨21, .data⟩, ⟨13, .guard⟩], some (13, true)⟩ hHeld ?_
    try simp only [Act.put, List.setIfInBounds_toArray, List.set_cons_zero, List.set_cons_succ]
    refine tkY 23 ⟨some 26, .pick (.tmp 16) (.tmp 25) (.const (.bool false)), 4, "parts.go:75", #[⟨13, .data⟩, ⟨22, .data⟩], none⟩ ?v23z61 hHeld ?y23z61 ?r23z61
    case y23z61 => (intro w hSw; (try dsimp only at hSw); go_simp) <;> with_reducible rfl
    try simp only [Act.put, List.setIfInBounds_toArray, List.set_cons_zero, List.set_cons_succ]
    refine tkY 24 ⟨some 27, .move (.tmp 26), 4, "parts.go:75", #[⟨23, .data⟩, ⟨13, .chain⟩], none⟩ ?v24z62 hHeld ?y24z62 ?r24z62
    case y24z62 => (intro w hSw; (try dsimp only at hSw); go_simp) <;> with_reducible rfl
    try simp only [Act.put, List.setIfInBounds_toArray, List.set_cons_zero, List.set_cons_succ]
    refine tkN 25 ⟨some 28, .fieldAddr 26 (.tmp 1) 5, 0, "parts.go:75", #[⟨24, .guard⟩], some (24, true)⟩ hHeld ?_
    try simp only [Act.put, List.setIfInBounds_toArray, List.set_cons_zero, List.set_cons_succ]
    refine tkN 26 ⟨some 29, .load 22 (.tmp 28), 22, "parts.go:75", #[⟨25, .data⟩, ⟨24, .guard⟩], some (24, true)⟩ hHeld ?_
    try simp only [Act.put, List.setIfInBounds_toArray, List.set_cons_zero, List.set_cons_succ]
    refine tkN 27 ⟨some 30, .fieldAddr 26 (.tmp 1) 5, 0, "parts.go:75", #[⟨24, .guard⟩], some (24, true)⟩ hHeld ?_
    try simp only [Act.put, List.setIfInBounds_toArray, List.set_cons_zero, List.set_cons_succ]
    refine tkN 28 ⟨some 31, .load 22 (.tmp 30), 22, "parts.go:75", #[⟨27, .data⟩, ⟨24, .guard⟩], some (24, true)⟩ hHeld ?_
    try simp only [Act.put, List.setIfInBounds_toArray, List.set_cons_zero, List.set_cons_succ]
    refine tkN 29 ⟨some 32, .fieldAddr 26 (.tmp 1) 4, 0, "parts.go:75", #[⟨24, .guard⟩], some (24, true)⟩ hHeld ?_
    try simp only [Act.put, List.setIfInBounds_toArray, List.set_cons_zero, List.set_cons_succ]
    refine tkN 30 ⟨some 33, .load 3 (.tmp 32), 3, "parts.go:75", #[⟨29, .data⟩, ⟨24, .guard⟩], some (24, true)⟩ hHeld ?_
    try simp only [Act.put, List.setIfInBounds_toArray, List.set_cons_zero, List.set_cons_succ]
    refine tkN 31 ⟨some 34, .call { callee := .value (.func 55), args := #[.tmp 31, .tmp 33], argTypes := #[22, 3] }, 22, "parts.go:76", #[⟨28, .data⟩, ⟨30, .data⟩, ⟨24, .chain⟩, ⟨24, .guard⟩], some (24, true)⟩ hHeld ?_
    try simp only [Act.put, List.setIfInBounds_toArray, List.set_cons_zero, List.set_cons_succ]
    refine tkN 32 ⟨some 35, .call { callee := .value (.func 14), args := #[.tmp 29, .tmp 34], argTypes := #[22, 22] }, 4, "parts.go:76", #[⟨26, .data⟩, ⟨31, .data⟩, ⟨31, .chain⟩, ⟨24, .guard⟩], some (24, true)⟩ hHeld ?_
    try simp only [Act.put, List.setIfInBounds_toArray, List.set_cons_zero, List.set_cons_succ]
    refine tkY 33 ⟨some 36, .pick (.tmp 27) (.tmp 35) (.const (.bool false)), 4, "parts.go:75", #[⟨24, .data⟩, ⟨32, .data⟩], none⟩ ?v33z63 hHeld ?y33z63 ?r33z63
    case y33z63 => (intro w hSw; (try dsimp only at hSw); go_simp) <;> with_reducible rfl
    try simp only [Act.put, List.setIfInBounds_toArray, List.set_cons_zero, List.set_cons_succ]
    refine tkY 34 ⟨some 2, .assign (.tmp 36), 4, "parts.go:75", #[⟨33, .data⟩, ⟨32, .chain⟩, ⟨0, .phase⟩, ⟨1, .phase⟩, ⟨2, .phase⟩, ⟨3, .phase⟩, ⟨4, .phase⟩, ⟨5, .phase⟩, ⟨6, .phase⟩, ⟨7, .phase⟩, ⟨8, .phase⟩, ⟨9, .phase⟩, ⟨10, .phase⟩, ⟨11, .phase⟩, ⟨12, .phase⟩, ⟨13, .phase⟩, ⟨14, .phase⟩, ⟨15, .phase⟩, ⟨16, .phase⟩, ⟨17, .phase⟩, ⟨18, .phase⟩, ⟨19, .phase⟩, ⟨20, .phase⟩, ⟨21, .phase⟩, ⟨22, .phase⟩, ⟨23, .phase⟩, ⟨24, .phase⟩, ⟨25, .phase⟩, ⟨26, .phase⟩, ⟨27, .phase⟩, ⟨28, .phase⟩, ⟨29, .phase⟩, ⟨30, .phase⟩, ⟨31, .phase⟩, ⟨32, .phase⟩, ⟨33, .phase⟩], none⟩ ?v34z64 hHeld ?y34z64 ?r34z64
    case y34z64 => (intro w hSw; (try dsimp only at hSw); go_simp) <;> with_reducible rfl
    try simp only [Act.put, List.setIfInBounds_toArray, List.set_cons_zero, List.set_cons_succ]
    refine wpAnyH_done (by kernel_rfl) ?_ _
    have HR : Hid (forkE d pre nw = false) := by
      show forkE _ _ _ = _
      simp only [forkE, f0.out, Bool.false_and]
    have HW : Hid (Below w.heap.size w V.drew) := bA.trans (bD.mono bA.size)
    clear hHeld bD bA kp hcells
    go_wp2
    go_ret
    rw [HR.out]
    exact ⟨rfl, HW.out⟩

end Go.Proofs.YtahfjemllkbpgaaGreatDoor

namespace Go.Proofs.YtahfjemllkbpgaaGreatDoor
open Go.RowKit

theorem forkE_eq (x : Pt) : forkE x.d x.pre x.nw = isForkB x := by
  unfold forkE isForkB
  have : (x.pre == firstF x.pre x.d) = decide (x.pre = firstF x.pre x.d) := by
    by_cases h : x.pre = firstF x.pre x.d
    · rw [decide_eq_true h, ← h]; simp
    · rw [decide_eq_false h, beq_eq_false_iff_ne.2 h]
  rw [this]

theorem cells10 {W : World} {g : Nat} {t : TypeId} {c0 c1 c2 c3 c4 c5 c6 c7 c8 c9 : Value} (h : W.heap[g]? = some (.cells #[c0, c1, c2, c3, c4, c5, c6, c7, c8, c9] t (0, 0))) :
    W.cell? ⟨g, 0, none⟩ = some c0 ∧ W.cell? ⟨g, 1, none⟩ = some c1 ∧ W.cell? ⟨g, 2, none⟩ = some c2 ∧ W.cell? ⟨g, 3, none⟩ = some c3 ∧ W.cell? ⟨g, 4, none⟩ = some c4 ∧ W.cell? ⟨g, 5, none⟩ = some c5 ∧ W.cell? ⟨g, 6, none⟩ = some c6 ∧ W.cell? ⟨g, 7, none⟩ = some c7 ∧ W.cell? ⟨g, 8, none⟩ = some c8 ∧ W.cell? ⟨g, 9, none⟩ = some c9 := by
  refine ⟨?_, ?_, ?_, ?_, ?_, ?_, ?_, ?_, ?_, ?_⟩ <;> (rw [cell_of_row _ _ _ _ _ _ h]; rfl)

set_option maxRecDepth 100000 in
set_option maxHeartbeats 4000000 in
theorem shaped_K0 (size : Int) (x : Pt) (pi pk pp pl pr pq : Option Addr) (ci ck cp cl cr cq : Nat) (w : World) (hp : HB w (.slice pp x.pre.length cp) x.pre) (ml : x.l.length ≤ maxLen) (mr : x.r.length ≤ maxLen) (hk : x.k = 0) :
    Calls Tryz.prog 46 #[.int .i64 size, .agg #[.int .i64 x.k, .slice pi x.id.length ci, .slice pk x.key.length ck, .int .i64 x.si, .int .i64 x.d, .slice pp x.pre.length cp, .int .i64 x.nw, .slice pl x.l.length cl, .slice pr x.r.length cr, .slice pq x.kids cq]] w fun e w' => e = .returned (.bool (shapedB size x)) ∧ Below w.heap.size w w' := by
  obtain ⟨k, id, key, si, d, pre, nw, l, r, n⟩ := x
  dsimp only at *
  subst hk
  have F1 := fun W => noLeaf_any 0 si d nw pi pk pp pl pr pq id.length key.length pre.length l.length r.length n ci ck cp cl cr cq W
  have F2 := fun W => noFork_any 0 si d nw pi pk pp pl pr pq id.length key.length pre.length l.length r.length n ci ck cp cl cr cq W
  have F3 := fun W => isLeaf_any 0 si d nw pi pk pp pl pr pq id.length key.length pre.length l.length r.length n ci ck cp cl cr cq W
  have F4 := fun W h => isFork_any 0 si d nw pi pk pp pl pr pq id.length key.length l.length r.length n ci ck cp cl cr cq pre W h
  have E4 : forkE d pre nw = isForkB ⟨0, id, key, si, d, pre, nw, l, r, n⟩ := forkE_eq ⟨0, id, key, si, d, pre, nw, l, r, n⟩
  have E1 : (decide (id.length = 0) && (decide (key.length = 0) && decide (si = 0))) = noLeafB ⟨0, id, key, si, d, pre, nw, l, r, n⟩ := rfl
  have E2 : (decide (d = 0) && (decide (pre.length = 0) && decide (nw = 0))) = noForkB ⟨0, id, key, si, d, pre, nw, l, r, n⟩ := rfl
  have E3 : (decide (id.length ≤ 255) && (decide (key.length ≤ 48) && epB si)) = isLeafB ⟨0, id, key, si, d, pre, nw, l, r, n⟩ := rfl
  rw [E1] at F1
  rw [E2] at F2
  rw [E3] at F3
  rw [E4] at F4
  clear E1 E2 E3 E4
  have HS : Hid (shapedB size ⟨0, id, key, si, d, pre, nw, l, r, n⟩ = (noLeafB ⟨0, id, key, si, d, pre, nw, l, r, n⟩ && (noForkB ⟨0, id, key, si, d, pre, nw, l, r, n⟩ && (decide (l.length + r.length = 0) && decide (n = 0))))) := by
    show _ = _
    unfold shapedB
    dsimp only
    rw [if_pos rfl]
  generalize shapedB size ⟨0, id, key, si, d, pre, nw, l, r, n⟩ = R at *
  generalize noLeafB ⟨0, id, key, si, d, pre, nw, l, r, n⟩ = b1 at *
  generalize noForkB ⟨0, id, key, si, d, pre, nw, l, r, n⟩ = b2 at *
  generalize isLeafB ⟨0, id, key, si, d, pre, nw, l, r, n⟩ = b3 at *
  generalize isForkB ⟨0, id, key, si, d, pre, nw, l, r, n⟩ = b4 at *
  obtain ⟨s, hs⟩ : ∃ s, IntKind.i64.wrap ((l.length : Int) + (r.length : Int)) = s := ⟨_, rfl⟩
  have hsz : decide (l.length + r.length = 0) = decide (s = 0) := by
    rw [IntKind.wrap_i64] at hs
    unfold maxLen at ml mr
    exact decide_eq_decide.2 (by omega)
  try rw [hsz] at HS
  have hsum := hs
  clear hs hsz ml mr
  have bA := (Below.refl w.heap.size w).alloc (Nat.le_refl _) (.cells #[.int .i64 0, .slice pi id.length ci, .slice pk key.length ck, .int .i64 si, .int .i64 d, .slice pp pre.length cp, .int .i64 nw, .slice pl l.length cl, .slice pr r.length cr, .slice pq n cq] 26)
  have gA := heap_alloc_new w (.cells #[.int .i64 0, .slice pi id.length ci, .slice pk key.length ck, .int .i64 si, .int .i64 d, .slice pp pre.length cp, .int .i64 nw, .slice pl l.length cl, .slice pr r.length cr, .slice pq n cq] 26)
  obtain ⟨V, hV⟩ : ∃ V, w.alloc (.cells #[.int .i64 0, .slice pi id.length ci, .slice pk key.length ck, .int .i64 si, .int .i64 d, .slice pp pre.length cp, .int .i64 nw, .slice pl l.length cl, .slice pr r.length cr, .slice pq n cq] 26) = V := ⟨_, rfl⟩
  rw [hV] at bA gA
  have kp := hp.later bA
  have hbD : Below V.heap.size V V.drew := (Below.refl _ V).drew
  have hcells : ∀ W, Below V.heap.size V W → W.heap[w.heap.size]? = some (.cells #[.int .i64 0, .slice pi id.length ci, .slice pk key.length ck, .int .i64 si, .int .i64 d, .slice pp pre.length cp, .int .i64 nw, .slice pl l.length cl, .slice pr r.length cr, .slice pq n cq] 26 (0, 0)) := fun W hb => (hb.block _ (Array.getElem?_eq_some_iff.1 gA).1).trans gA
  have hbV : Below V.heap.size V V := Below.refl _ V
  obtain ⟨q0, q1, q2, q3, q4, q5, q6, q7, q8, q9⟩ := cells10 (hcells _ hbV)
  clear hp gA
  go_enter Tryz.func46, Tryz.ntmps46
  go_wp2
  go_region
  clear q0 q1 q2 q3 q4 q5 q6 q7 q8 q9 hbV
  obtain ⟨q0, q1, q2, q3, q4, q5, q6, q7, q8, q9⟩ := cells10 (hcells _ hbD)
  go_wp2_with fail
  refine (F1 _).mono ?_
  rintro e w1 ⟨rfl, hxw1⟩
  have hbw1 := hbD.trans (hxw1.mono hbD.size)
  clear hxw1 q0 q1 q2 q3 q4 q5 q6 q7 q8 q9
  obtain ⟨q0, q1, q2, q3, q4, q5, q6, q7, q8, q9⟩ := cells10 (hcells w1 hbw1)
  cases b1 with
  | false =>
    have HW := bA.trans (hbw1.mono bA.size)
    clear hcells hbw1 bA kp F1 F2 F3 F4
    go_wp2
    go_ret
    rw [HS.out]
    exact ⟨by simp [*], HW⟩
  | true =>
    go_wp2_with fail
    refine (F2 _).mono ?_
    rintro e w2 ⟨rfl, hxw2⟩
    have hbw2 := hbw1.trans (hxw2.mono hbw1.size)
    clear hxw2 q0 q1 q2 q3 q4 q5 q6 q7 q8 q9
    obtain ⟨q0, q1, q2, q3, q4, q5, q6, q7, q8, q9⟩ := cells10 (hcells w2 hbw2)
    cases b2 with
    | false =>
      have HW := bA.trans (hbw2.mono bA.size)
      clear hcells hbw2 bA kp F1 F2 F3 F4
      go_wp2
      go_ret
      rw [HS.out]
      exact ⟨by simp [*], HW⟩
    | true =>
      by_cases h1 : s = 0
      · have th1 : ((s : Int) == 0) = true := by simp [h1]
        by_cases h2 : n = 0
        · have th2 : ((n : Int) == 0) = true := by simp [h2]
          have HW := bA.trans (hbw2.mono bA.size)
          clear hcells hbw2 bA kp F1 F2 F3 F4
          go_wp2
          go_ret
          rw [HS.out]
          exact ⟨by simp [*], HW⟩
        · have nh2 : ((n : Int) == 0) = false := by simpa using h2
          have HW := bA.trans (hbw2.mono bA.size)
          clear hcells hbw2 bA kp F1 F2 F3 F4
          go_wp2
          go_ret
          rw [HS.out]
          exact ⟨by simp [*], HW⟩
      · have nh1 : ((s : Int) == 0) = false := by simpa using h1
        have HW := bA.trans (hbw2.mono bA.size)
        clear hcells hbw2 bA kp F1 F2 F3 F4
        go_wp2
        go_ret
        rw [HS.out]
        exact ⟨by simp [*], HW⟩

set_option maxRecDepth 100000 in
set_option maxHeartbeats 4000000 in
theorem shaped_K1 (size : Int) (x : Pt) (pi pk pp pl pr pq : Option Addr) (ci ck cp cl cr cq : Nat) (w : World) (hp : HB w (.slice pp x.pre.length cp) x.pre) (ml : x.l.length ≤ maxLen) (mr : x.r.length ≤ maxLen) (hk : x.k = 1) :
    Calls Tryz.prog 46 #[.int .i64 size, .agg #[.int .i64 x.k, .slice pi x.id.length ci, .slice pk x.key.length ck, .int .i64 x.si, .int .i64 x.d, .slice pp x.pre.length cp, .int .i64 x.nw, .slice pl x.l.length cl, .slice pr x.r.length cr, .slice pq x.kids cq]] w fun e w' => e = .returned (.bool (shapedB size x)) ∧ Below w.heap.size w w' := by
  obtain ⟨k, id, key, si, d, pre, nw, l, r, n⟩ := x
  dsimp only at *
  subst hk
  have F1 := fun W => noLeaf_any 1 si d nw pi pk pp pl pr pq id.length key.length pre.length l.length r.length n ci ck cp cl cr cq W
  have F2 := fun W => noFork_any 1 si d nw pi pk pp pl pr pq id.length key.length pre.length l.length r.length n ci ck cp cl cr cq W
  have F3 := fun W => isLeaf_any 1 si d nw pi pk pp pl pr pq id.length key.length pre.length l.length r.length n ci ck cp cl cr cq W
  have F4 := fun W h => isFork_any 1 si d nw pi pk pp pl pr pq id.length key.length l.length r.length n ci ck cp cl cr cq pre W h
  have E4 : forkE d pre nw = isForkB ⟨1, id, key, si, d, pre, nw, l, r, n⟩ := forkE_eq ⟨1, id, key, si, d, pre, nw, l, r, n⟩
  have E1 : (decide (id.length = 0) && (decide (key.length = 0) && decide (si = 0))) = noLeafB ⟨1, id, key, si, d, pre, nw, l, r, n⟩ := rfl
  have E2 : (decide (d = 0) && (decide (pre.length = 0) && decide (nw = 0))) = noForkB ⟨1, id, key, si, d, pre, nw, l, r, n⟩ := rfl
  have E3 : (decide (id.length ≤ 255) && (decide (key.length ≤ 48) && epB si)) = isLeafB ⟨1, id, key, si, d, pre, nw, l, r, n⟩ := rfl
  rw [E1] at F1
  rw [E2] at F2
  rw [E3] at F3
  rw [E4] at F4
  clear E1 E2 E3 E4
  have HS : Hid (shapedB size ⟨1, id, key, si, d, pre, nw, l, r, n⟩ = (isLeafB ⟨1, id, key, si, d, pre, nw, l, r, n⟩ && (noForkB ⟨1, id, key, si, d, pre, nw, l, r, n⟩ && (decide (l.length + r.length = 0) && decide (n = 0))))) := by
    show _ = _
    unfold shapedB
    dsimp only
    rw [if_neg (show ¬ (1 : Int) = 0 by decide), if_pos rfl]
  generalize shapedB size ⟨1, id, key, si, d, pre, nw, l, r, n⟩ = R at *
  generalize noLeafB ⟨1, id, key, si, d, pre, nw, l, r, n⟩ = b1 at *
  generalize noForkB ⟨1, id, key, si, d, pre, nw, l, r, n⟩ = b2 at *
  generalize isLeafB ⟨1, id, key, si, d, pre, nw, l, r, n⟩ = b3 at *
  generalize isForkB ⟨1, id, key, si, d, pre, nw, l, r, n⟩ = b4 at *
  obtain ⟨s, hs⟩ : ∃ s, IntKind.i64.wrap ((l.length : Int) + (r.length : Int)) = s := ⟨_, rfl⟩
  have hsz : decide (l.length + r.length = 0) = decide (s = 0) := by
    rw [IntKind.wrap_i64] at hs
    unfold maxLen at ml mr
    exact decide_eq_decide.2 (by omega)
  try rw [hsz] at HS
  have hsum := hs
  clear hs hsz ml mr
  have bA := (Below.refl w.heap.size w).alloc (Nat.le_refl _) (.cells #[.int .i64 1, .slice pi id.length ci, .slice pk key.length ck, .int .i64 si, .int .i64 d, .slice pp pre.length cp, .int .i64 nw, .slice pl l.length cl, .slice pr r.length cr, .slice pq n cq] 26)
  have gA := heap_alloc_new w (.cells #[.int .i64 1, .slice pi id.length ci, .slice pk key.length ck, .int .i64 si, .int .i64 d, .slice pp pre.length cp, .int .i64 nw, .slice pl l.length cl, .slice pr r.length cr, .slice pq n cq] 26)
  obtain ⟨V, hV⟩ : ∃ V, w.alloc (.cells #[.int .i64 1, .slice pi id.length ci, .slice pk key.length ck, .int .i64 si, .int .i64 d, .slice pp pre.length cp, .int .i64 nw, .slice pl l.length cl, .slice pr r.length cr, .slice pq n cq] 26) = V := ⟨_, rfl⟩
  rw [hV] at bA gA
  have kp := hp.later bA
  have hbD : Below V.heap.size V V.drew := (Below.refl _ V).drew
  have hcells : ∀ W, Below V.heap.size V W → W.heap[w.heap.size]? = some (.cells #[.int .i64 1, .slice pi id.length ci, .slice pk key.length ck, .int .i64 si, .int .i64 d, .slice pp pre.length cp, .int .i64 nw, .slice pl l.length cl, .slice pr r.length cr, .slice pq n cq] 26 (0, 0)) := fun W hb => (hb.block _ (Array.getElem?_eq_some_iff.1 gA).1).trans gA
  have hbV : Below V.heap.size V V := Below.refl _ V
  obtain ⟨q0, q1, q2, q3, q4, q5, q6, q7, q8, q9⟩ := cells10 (hcells _ hbV)
  clear hp gA
  go_enter Tryz.func46, Tryz.ntmps46
  go_wp2
  go_region
  clear q0 q1 q2 q3 q4 q5 q6 q7 q8 q9 hbV
  obtain ⟨q0, q1, q2, q3, q4, q5, q6, q7, q8, q9⟩ := cells10 (hcells _ hbD)
  go_wp2_with fail
  refine (F3 _).mono ?_
  rintro e w1 ⟨rfl, hxw1⟩
  have hbw1 := hbD.trans (hxw1.mono hbD.size)
  clear hxw1 q0 q1 q2 q3 q4 q5 q6 q7 q8 q9
  obtain ⟨q0, q1, q2, q3, q4, q5, q6, q7, q8, q9⟩ := cells10 (hcells w1 hbw1)
  cases b3 with
  | false =>
    have HW := bA.trans (hbw1.mono bA.size)
    clear hcells hbw1 bA kp F1 F2 F3 F4
    go_wp2
    go_ret
    rw [HS.out]
    exact ⟨by simp [*], HW⟩
  | true =>
    go_wp2_with fail
    refine (F2 _).mono ?_
    rintro e w2 ⟨rfl, hxw2⟩
    have hbw2 := hbw1.trans (hxw2.mono hbw1.size)
    clear hxw2 q0 q1 q2 q3 q4 q5 q6 q7 q8 q9
    obtain ⟨q0, q1, q2, q3, q4, q5, q6, q7, q8, q9⟩ := cells10 (hcells w2 hbw2)
    cases b2 with
    | false =>
      have HW := bA.trans (hbw2.mono bA.size)
      clear hcells hbw2 bA kp F1 F2 F3 F4
      go_wp2
      go_ret
      rw [HS.out]
      exact ⟨by simp [*], HW⟩
    | true =>
      by_cases h1 : s = 0
      · have th1 : ((s : Int) == 0) = true := by simp [h1]
        by_cases h2 : n = 0
        · have th2 : ((n : Int) == 0) = true := by simp [h2]
          have HW := bA.trans (hbw2.mono bA.size)
          clear hcells hbw2 bA kp F1 F2 F3 F4
          go_wp2
          go_ret
          rw [HS.out]
          exact ⟨by simp [*], HW⟩
        · have nh2 : ((n : Int) == 0) = false := by simpa using h2
          have HW := bA.trans (hbw2.mono bA.size)
          clear hcells hbw2 bA kp F1 F2 F3 F4
          go_wp2
          go_ret
          rw [HS.out]
          exact ⟨by simp [*], HW⟩
      · have nh1 : ((s : Int) == 0) = false := by simpa using h1
        have HW := bA.trans (hbw2.mono bA.size)
        clear hcells hbw2 bA kp F1 F2 F3 F4
        go_wp2
        go_ret
        rw [HS.out]
        exact ⟨by simp [*], HW⟩

set_option maxRecDepth 100000 in
set_option maxHeartbeats 4000000 in
theorem shaped_K2 (size : Int) (x : Pt) (pi pk pp pl pr pq : Option Addr) (ci ck cp cl cr cq : Nat) (w : World) (hp : HB w (.slice pp x.pre.length cp) x.pre) (ml : x.l.length ≤ maxLen) (mr : x.r.length ≤ maxLen) (hk : x.k = 2) :
    Calls Tryz.prog 46 #[.int .i64 size, .agg #[.int .i64 x.k, .slice pi x.id.length ci, .slice pk x.key.length ck, .int .i64 x.si, .int .i64 x.d, .slice pp x.pre.length cp, .int .i64 x.nw, .slice pl x.l.length cl, .slice pr x.r.length cr, .slice pq x.kids cq]] w fun e w' => e = .returned (.bool (shapedB size x)) ∧ Below w.heap.size w w' := by
  obtain ⟨k, id, key, si, d, pre, nw, l, r, n⟩ := x
  dsimp only at *
  subst hk
  have F1 := fun W => noLeaf_any 2 si d nw pi pk pp pl pr pq id.length key.length pre.length l.length r.length n ci ck cp cl cr cq W
  have F2 := fun W => noFork_any 2 si d nw pi pk pp pl pr pq id.length key.length pre.length l.length r.length n ci ck cp cl cr cq W
  have F3 := fun W => isLeaf_any 2 si d nw pi pk pp pl pr pq id.length key.length pre.length l.length r.length n ci ck cp cl cr cq W
  have F4 := fun W h => isFork_any 2 si d nw pi pk pp pl pr pq id.length key.length l.length r.length n ci ck cp cl cr cq pre W h
  have E4 : forkE d pre nw = isForkB ⟨2, id, key, si, d, pre, nw, l, r, n⟩ := forkE_eq ⟨2, id, key, si, d, pre, nw, l, r, n⟩
  have E1 : (decide (id.length = 0) && (decide (key.length = 0) && decide (si = 0))) = noLeafB ⟨2, id, key, si, d, pre, nw, l, r, n⟩ := rfl
  have E2 : (decide (d = 0) && (decide (pre.length = 0) && decide (nw = 0))) = noForkB ⟨2, id, key, si, d, pre, nw, l, r, n⟩ := rfl
  have E3 : (decide (id.length ≤ 255) && (decide (key.length ≤ 48) && epB si)) = isLeafB ⟨2, id, key, si, d, pre, nw, l, r, n⟩ := rfl
  rw [E1] at F1
  rw [E2] at F2
  rw [E3] at F3
  rw [E4] at F4
  clear E1 E2 E3 E4
  have HS : Hid (shapedB size ⟨2, id, key, si, d, pre, nw, l, r, n⟩ = (noLeafB ⟨2, id, key, si, d, pre, nw, l, r, n⟩ && (isForkB ⟨2, id, key, si, d, pre, nw, l, r, n⟩ && (decide ((l.length : Int) = size) && (decide ((r.length : Int) = size) && decide (n = 0)))))) := by
    show _ = _
    unfold shapedB
    dsimp only
    rw [if_neg (show ¬ (2 : Int) = 0 by decide), if_neg (show ¬ (2 : Int) = 1 by decide), if_pos rfl]
  generalize shapedB size ⟨2, id, key, si, d, pre, nw, l, r, n⟩ = R at *
  generalize noLeafB ⟨2, id, key, si, d, pre, nw, l, r, n⟩ = b1 at *
  generalize noForkB ⟨2, id, key, si, d, pre, nw, l, r, n⟩ = b2 at *
  generalize isLeafB ⟨2, id, key, si, d, pre, nw, l, r, n⟩ = b3 at *
  generalize isForkB ⟨2, id, key, si, d, pre, nw, l, r, n⟩ = b4 at *
  obtain ⟨s, hs⟩ : ∃ s, IntKind.i64.wrap ((l.length : Int) + (r.length : Int)) = s := ⟨_, rfl⟩
  have hsz : decide (l.length + r.length = 0) = decide (s = 0) := by
    rw [IntKind.wrap_i64] at hs
    unfold maxLen at ml mr
    exact decide_eq_decide.2 (by omega)
  try rw [hsz] at HS
  have hsum := hs
  clear hs hsz ml mr
  have bA := (Below.refl w.heap.size w).alloc (Nat.le_refl _) (.cells #[.int .i64 2, .slice pi id.length ci, .slice pk key.length ck, .int .i64 si, .int .i64 d, .slice pp pre.length cp, .int .i64 nw, .slice pl l.length cl, .slice pr r.length cr, .slice pq n cq] 26)
  have gA := heap_alloc_new w (.cells #[.int .i64 2, .slice pi id.length ci, .slice pk key.length ck, .int .i64 si, .int .i64 d, .slice pp pre.length cp, .int .i64 nw, .slice pl l.length cl, .slice pr r.length cr, .slice pq n cq] 26)
  obtain ⟨V, hV⟩ : ∃ V, w.alloc (.cells #[.int .i64 2, .slice pi id.length ci, .slice pk key.length ck, .int .i64 si, .int .i64 d, .slice pp pre.length cp, .int .i64 nw, .slice pl l.length cl, .slice pr r.length cr, .slice pq n cq] 26) = V := ⟨_, rfl⟩
  rw [hV] at bA gA
  have kp := hp.later bA
  have hbD : Below V.heap.size V V.drew := (Below.refl _ V).drew
  have hcells : ∀ W, Below V.heap.size V W → W.heap[w.heap.size]? = some (.cells #[.int .i64 2, .slice pi id.length ci, .slice pk key.length ck, .int .i64 si, .int .i64 d, .slice pp pre.length cp, .int .i64 nw, .slice pl l.length cl, .slice pr r.length cr, .slice pq n cq] 26 (0, 0)) := fun W hb => (hb.block _ (Array.getElem?_eq_some_iff.1 gA).1).trans gA
  have hbV : Below V.heap.size V V := Below.refl _ V
  obtain ⟨q0, q1, q2, q3, q4, q5, q6, q7, q8, q9⟩ := cells10 (hcells _ hbV)
  clear hp gA
  go_enter Tryz.func46, Tryz.ntmps46
  go_wp2
  go_region
  clear q0 q1 q2 q3 q4 q5 q6 q7 q8 q9 hbV
  obtain ⟨q0, q1, q2, q3, q4, q5, q6, q7, q8, q9⟩ := cells10 (hcells _ hbD)
  go_wp2_with fail
  refine (F1 _).mono ?_
  rintro e w1 ⟨rfl, hxw1⟩
  have hbw1 := hbD.trans (hxw1.mono hbD.size)
  clear hxw1 q0 q1 q2 q3 q4 q5 q6 q7 q8 q9
  obtain ⟨q0, q1, q2, q3, q4, q5, q6, q7, q8, q9⟩ := cells10 (hcells w1 hbw1)
  cases b1 with
  | false =>
    have HW := bA.trans (hbw1.mono bA.size)
    clear hcells hbw1 bA kp F1 F2 F3 F4
    go_wp2
    go_ret
    rw [HS.out]
    exact ⟨by simp [*], HW⟩
  | true =>
    go_wp2_with fail
    refine (F4 _ (kp.later hbw1)).mono ?_
    rintro e w2 ⟨rfl, hxw2⟩
    have hbw2 := hbw1.trans (hxw2.mono hbw1.size)
    clear hxw2 q0 q1 q2 q3 q4 q5 q6 q7 q8 q9
    obtain ⟨q0, q1, q2, q3, q4, q5, q6, q7, q8, q9⟩ := cells10 (hcells w2 hbw2)
    cases b4 with
    | false =>
      have HW := bA.trans (hbw2.mono bA.size)
      clear hcells hbw2 bA kp F1 F2 F3 F4
      go_wp2
      go_ret
      rw [HS.out]
      exact ⟨by simp [*], HW⟩
    | true =>
      by_cases h1 : (l.length : Int) = size
      · have th1 : ((l.length : Int) == size) = true := by simpa using h1
        by_cases h2 : (r.length : Int) = size
        · have th2 : ((r.length : Int) == size) = true := by simpa using h2
          by_cases h3 : n = 0
          · have th3 : ((n : Int) == 0) = true := by simp [h3]
            have HW := bA.trans (hbw2.mono bA.size)
            clear hcells hbw2 bA kp F1 F2 F3 F4
            go_wp2
            go_ret
            rw [HS.out]
            exact ⟨by simp [*], HW⟩
          · have nh3 : ((n : Int) == 0) = false := by simpa using h3
            have HW := bA.trans (hbw2.mono bA.size)
            clear hcells hbw2 bA kp F1 F2 F3 F4
            go_wp2
            go_ret
            rw [HS.out]
            exact ⟨by simp [*], HW⟩
        · have nh2 : ((r.length : Int) == size) = false := by simpa using h2
          have HW := bA.trans (hbw2.mono bA.size)
          clear hcells hbw2 bA kp F1 F2 F3 F4
          go_wp2
          go_ret
          rw [HS.out]
          exact ⟨by simp [*], HW⟩
      · have nh1 : ((l.length : Int) == size) = false := by simpa using h1
        have HW := bA.trans (hbw2.mono bA.size)
        clear hcells hbw2 bA kp F1 F2 F3 F4
        go_wp2
        go_ret
        rw [HS.out]
        exact ⟨by simp [*], HW⟩

set_option maxRecDepth 100000 in
set_option maxHeartbeats 4000000 in
theorem shaped_K3 (size : Int) (x : Pt) (pi pk pp pl pr pq : Option Addr) (ci ck cp cl cr cq : Nat) (w : World) (hp : HB w (.slice pp x.pre.length cp) x.pre) (ml : x.l.length ≤ maxLen) (mr : x.r.length ≤ maxLen) (hk : x.k = 3) :
    Calls Tryz.prog 46 #[.int .i64 size, .agg #[.int .i64 x.k, .slice pi x.id.length ci, .slice pk x.key.length ck, .int .i64 x.si, .int .i64 x.d, .slice pp x.pre.length cp, .int .i64 x.nw, .slice pl x.l.length cl, .slice pr x.r.length cr, .slice pq x.kids cq]] w fun e w' => e = .returned (.bool (shapedB size x)) ∧ Below w.heap.size w w' := by
  obtain ⟨k, id, key, si, d, pre, nw, l, r, n⟩ := x
  dsimp only at *
  subst hk
  have F1 := fun W => noLeaf_any 3 si d nw pi pk pp pl pr pq id.length key.length pre.length l.length r.length n ci ck cp cl cr cq W
  have F2 := fun W => noFork_any 3 si d nw pi pk pp pl pr pq id.length key.length pre.length l.length r.length n ci ck cp cl cr cq W
  have F3 := fun W => isLeaf_any 3 si d nw pi pk pp pl pr pq id.length key.length pre.length l.length r.length n ci ck cp cl cr cq W
  have F4 := fun W h => isFork_any 3 si d nw pi pk pp pl pr pq id.length key.length l.length r.length n ci ck cp cl cr cq pre W h
  have E4 : forkE d pre nw = isForkB ⟨3, id, key, si, d, pre, nw, l, r, n⟩ := forkE_eq ⟨3, id, key, si, d, pre, nw, l, r, n⟩
  have E1 : (decide (id.length = 0) && (decide (key.length = 0) && decide (si = 0))) = noLeafB ⟨3, id, key, si, d, pre, nw, l, r, n⟩ := rfl
  have E2 : (decide (d = 0) && (decide (pre.length = 0) && decide (nw = 0))) = noForkB ⟨3, id, key, si, d, pre, nw, l, r, n⟩ := rfl
  have E3 : (decide (id.length ≤ 255) && (decide (key.length ≤ 48) && epB si)) = isLeafB ⟨3, id, key, si, d, pre, nw, l, r, n⟩ := rfl
  rw [E1] at F1
  rw [E2] at F2
  rw [E3] at F3
  rw [E4] at F4
  clear E1 E2 E3 E4
  have HS : Hid (shapedB size ⟨3, id, key, si, d, pre, nw, l, r, n⟩ = (noLeafB ⟨3, id, key, si, d, pre, nw, l, r, n⟩ && (isForkB ⟨3, id, key, si, d, pre, nw, l, r, n⟩ && (decide (l.length + r.length = 0) && decide (n = 2))))) := by
    show _ = _
    unfold shapedB
    dsimp only
    rw [if_neg (show ¬ (3 : Int) = 0 by decide), if_neg (show ¬ (3 : Int) = 1 by decide), if_neg (show ¬ (3 : Int) = 2 by decide), if_pos rfl]
  generalize shapedB size ⟨3, id, key, si, d, pre, nw, l, r, n⟩ = R at *
  generalize noLeafB ⟨3, id, key, si, d, pre, nw, l, r, n⟩ = b1 at *
  generalize noForkB ⟨3, id, key, si, d, pre, nw, l, r, n⟩ = b2 at *
  generalize isLeafB ⟨3, id, key, si, d, pre, nw, l, r, n⟩ = b3 at *
  generalize isForkB ⟨3, id, key, si, d, pre, nw, l, r, n⟩ = b4 at *
  obtain ⟨s, hs⟩ : ∃ s, IntKind.i64.wrap ((l.length : Int) + (r.length : Int)) = s := ⟨_, rfl⟩
  have hsz : decide (l.length + r.length = 0) = decide (s = 0) := by
    rw [IntKind.wrap_i64] at hs
    unfold maxLen at ml mr
    exact decide_eq_decide.2 (by omega)
  try rw [hsz] at HS
  have hsum := hs
  clear hs hsz ml mr
  have bA := (Below.refl w.heap.size w).alloc (Nat.le_refl _) (.cells #[.int .i64 3, .slice pi id.length ci, .slice pk key.length ck, .int .i64 si, .int .i64 d, .slice pp pre.length cp, .int .i64 nw, .slice pl l.length cl, .slice pr r.length cr, .slice pq n cq] 26)
  have gA := heap_alloc_new w (.cells #[.int .i64 3, .slice pi id.length ci, .slice pk key.length ck, .int .i64 si, .int .i64 d, .slice pp pre.length cp, .int .i64 nw, .slice pl l.length cl, .slice pr r.length cr, .slice pq n cq] 26)
  obtain ⟨V, hV⟩ : ∃ V, w.alloc (.cells #[.int .i64 3, .slice pi id.length ci, .slice pk key.length ck, .int .i64 si, .int .i64 d, .slice pp pre.length cp, .int .i64 nw, .slice pl l.length cl, .slice pr r.length cr, .slice pq n cq] 26) = V := ⟨_, rfl⟩
  rw [hV] at bA gA
  have kp := hp.later bA
  have hbD : Below V.heap.size V V.drew := (Below.refl _ V).drew
  have hcells : ∀ W, Below V.heap.size V W → W.heap[w.heap.size]? = some (.cells #[.int .i64 3, .slice pi id.length ci, .slice pk key.length ck, .int .i64 si, .int .i64 d, .slice pp pre.length cp, .int .i64 nw, .slice pl l.length cl, .slice pr r.length cr, .slice pq n cq] 26 (0, 0)) := fun W hb => (hb.block _ (Array.getElem?_eq_some_iff.1 gA).1).trans gA
  have hbV : Below V.heap.size V V := Below.refl _ V
  obtain ⟨q0, q1, q2, q3, q4, q5, q6, q7, q8, q9⟩ := cells10 (hcells _ hbV)
  clear hp gA
  go_enter Tryz.func46, Tryz.ntmps46
  go_wp2
  go_region
  clear q0 q1 q2 q3 q4 q5 q6 q7 q8 q9 hbV
  obtain ⟨q0, q1, q2, q3, q4, q5, q6, q7, q8, q9⟩ := cells10 (hcells _ hbD)
  go_wp2_with fail
  refine (F1 _).mono ?_
  rintro e w1 ⟨rfl, hxw1⟩
  have hbw1 := hbD.trans (hxw1.mono hbD.size)
  clear hxw1 q0 q1 q2 q3 q4 q5 q6 q7 q8 q9
  obtain ⟨q0, q1, q2, q3, q4, q5, q6, q7, q8, q9⟩ := cells10 (hcells w1 hbw1)
  cases b1 with
  | false =>
    have HW := bA.trans (hbw1.mono bA.size)
    clear hcells hbw1 bA kp F1 F2 F3 F4
    go_wp2
    go_ret
    rw [HS.out]
    exact ⟨by simp [*], HW⟩
  | true =>
    go_wp2_with fail
    refine (F4 _ (kp.later hbw1)).mono ?_
    rintro e w2 ⟨rfl, hxw2⟩
    have hbw2 := hbw1.trans (hxw2.mono hbw1.size)
    clear hxw2 q0 q1 q2 q3 q4 q5 q6 q7 q8 q9
    obtain ⟨q0, q1, q2, q3, q4, q5, q6, q7, q8, q9⟩ := cells10 (hcells w2 hbw2)
    cases b4 with
    | false =>
      have HW := bA.trans (hbw2.mono bA.size)
      clear hcells hbw2 bA kp F1 F2 F3 F4
      go_wp2
      go_ret
      rw [HS.out]
      exact ⟨by simp [*], HW⟩
    | true =>
      by_cases h1 : s = 0
      · have th1 : ((s : Int) == 0) = true := by simp [h1]
        by_cases h2 : n = 2
        · have th2 : ((n : Int) == 2) = true := by simp [h2]
          have HW := bA.trans (hbw2.mono bA.size)
          clear hcells hbw2 bA kp F1 F2 F3 F4
          go_wp2
          go_ret
          rw [HS.out]
          exact ⟨by simp [*], HW⟩
        · have nh2 : ((n : Int) == 2) = false := by simp; omega
          have HW := bA.trans (hbw2.mono bA.size)
          clear hcells hbw2 bA kp F1 F2 F3 F4
          go_wp2
          go_ret
          rw [HS.out]
          exact ⟨by simp [*], HW⟩
      · have nh1 : ((s : Int) == 0) = false := by simpa using h1
        have HW := bA.trans (hbw2.mono bA.size)
        clear hcells hbw2 bA kp F1 F2 F3 F4
        go_wp2
        go_ret
        rw [HS.out]
        exact ⟨by simp [*], HW⟩

set_option maxRecDepth 100000 in
set_option maxHeartbeats 4000000 in
theorem shaped_KE (size : Int) (x : Pt) (pi pk pp pl pr pq : Option Addr) (ci ck cp cl cr cq : Nat) (w : World) (hp : HB w (.slice pp x.pre.length cp) x.pre) (ml : x.l.length ≤ maxLen) (mr : x.r.length ≤ maxLen) (k0 : x.k ≠ 0) (k1 : x.k ≠ 1) (k2 : x.k ≠ 2) (k3 : x.k ≠ 3) :
    Calls Tryz.prog 46 #[.int .i64 size, .agg #[.int .i64 x.k, .slice pi x.id.length ci, .slice pk x.key.length ck, .int .i64 x.si, .int .i64 x.d, .slice pp x.pre.length cp, .int .i64 x.nw, .slice pl x.l.length cl, .slice pr x.r.length cr, .slice pq x.kids cq]] w fun e w' => e = .returned (.bool (shapedB size x)) ∧ Below w.heap.size w w' := by
  obtain ⟨k, id, key, si, d, pre, nw, l, r, n⟩ := x
  dsimp only at *
  have n0 : (k == 0) = false := by simpa using k0
  have n1 : (k == 1) = false := by simpa using k1
  have n2 : (k == 2) = false := by simpa using k2
  have n3 : (k == 3) = false := by simpa using k3
  have F1 := fun W => noLeaf_any k si d nw pi pk pp pl pr pq id.length key.length pre.length l.length r.length n ci ck cp cl cr cq W
  have F2 := fun W => noFork_any k si d nw pi pk pp pl pr pq id.length key.length pre.length l.length r.length n ci ck cp cl cr cq W
  have F3 := fun W => isLeaf_any k si d nw pi pk pp pl pr pq id.length key.length pre.length l.length r.length n ci ck cp cl cr cq W
  have F4 := fun W h => isFork_any k si d nw pi pk pp pl pr pq id.length key.length l.length r.length n ci ck cp cl cr cq pre W h
  have E4 : forkE d pre nw = isForkB ⟨k, id, key, si, d, pre, nw, l, r, n⟩ := forkE_eq ⟨k, id, key, si, d, pre, nw, l, r, n⟩
  have E1 : (decide (id.length = 0) && (decide (key.length = 0) && decide (si = 0))) = noLeafB ⟨k, id, key, si, d, pre, nw, l, r, n⟩ := rfl
  have E2 : (decide (d = 0) && (decide (pre.length = 0) && decide (nw = 0))) = noForkB ⟨k, id, key, si, d, pre, nw, l, r, n⟩ := rfl
  have E3 : (decide (id.length ≤ 255) && (decide (key.length ≤ 48) && epB si)) = isLeafB ⟨k, id, key, si, d, pre, nw, l, r, n⟩ := rfl
  rw [E1] at F1
  rw [E2] at F2
  rw [E3] at F3
  rw [E4] at F4
  clear E1 E2 E3 E4
  have HS : Hid (shapedB size ⟨k, id, key, si, d, pre, nw, l, r, n⟩ = (false)) := by
    show _ = _
    unfold shapedB
    dsimp only
    rw [if_neg k0, if_neg k1, if_neg k2, if_neg k3]
  generalize shapedB size ⟨k, id, key, si, d, pre, nw, l, r, n⟩ = R at *
  generalize noLeafB ⟨k, id, key, si, d, pre, nw, l, r, n⟩ = b1 at *
  generalize noForkB ⟨k, id, key, si, d, pre, nw, l, r, n⟩ = b2 at *
  generalize isLeafB ⟨k, id, key, si, d, pre, nw, l, r, n⟩ = b3 at *
  generalize isForkB ⟨k, id, key, si, d, pre, nw, l, r, n⟩ = b4 at *
  obtain ⟨s, hs⟩ : ∃ s, IntKind.i64.wrap ((l.length : Int) + (r.length : Int)) = s := ⟨_, rfl⟩
  have hsz : decide (l.length + r.length = 0) = decide (s = 0) := by
    rw [IntKind.wrap_i64] at hs
    unfold maxLen at ml mr
    exact decide_eq_decide.2 (by omega)
  try rw [hsz] at HS
  have hsum := hs
  clear hs hsz ml mr
  have bA := (Below.refl w.heap.size w).alloc (Nat.le_refl _) (.cells #[.int .i64 k, .slice pi id.length ci, .slice pk key.length ck, .int .i64 si, .int .i64 d, .slice pp pre.length cp, .int .i64 nw, .slice pl l.length cl, .slice pr r.length cr, .slice pq n cq] 26)
  have gA := heap_alloc_new w (.cells #[.int .i64 k, .slice pi id.length ci, .slice pk key.length ck, .int .i64 si, .int .i64 d, .slice pp pre.length cp, .int .i64 nw, .slice pl l.length cl, .slice pr r.length cr, .slice pq n cq] 26)
  obtain ⟨V, hV⟩ : ∃ V, w.alloc (.cells #[.int .i64 k, .slice pi id.length ci, .slice pk key.length ck, .int .i64 si, .int .i64 d, .slice pp pre.length cp, .int .i64 nw, .slice pl l.length cl, .slice pr r.length cr, .slice pq n cq] 26) = V := ⟨_, rfl⟩
  rw [hV] at bA gA
  have kp := hp.later bA
  have hbD : Below V.heap.size V V.drew := (Below.refl _ V).drew
  have hcells : ∀ W, Below V.heap.size V W → W.heap[w.heap.size]? = some (.cells #[.int .i64 k, .slice pi id.length ci, .slice pk key.length ck, .int .i64 si, .int .i64 d, .slice pp pre.length cp, .int .i64 nw, .slice pl l.length cl, .slice pr r.length cr, .slice pq n cq] 26 (0, 0)) := fun W hb => (hb.block _ (Array.getElem?_eq_some_iff.1 gA).1).trans gA
  have hbV : Below V.heap.size V V := Below.refl _ V
  obtain ⟨q0, q1, q2, q3, q4, q5, q6, q7, q8, q9⟩ := cells10 (hcells _ hbV)
  clear hp gA
  go_enter Tryz.func46, Tryz.ntmps46
  go_wp2
  go_region
  clear q0 q1 q2 q3 q4 q5 q6 q7 q8 q9 hbV
  obtain ⟨q0, q1, q2, q3, q4, q5, q6, q7, q8, q9⟩ := cells10 (hcells _ hbD)
  have HW := bA.trans (hbD.mono bA.size)
  clear hcells hbD bA kp F1 F2 F3 F4
  go_wp2
  go_ret
  rw [HS.out]
  exact ⟨by simp [*], HW⟩

theorem shaped_any (size : Int) (x : Pt) (pi pk pp pl pr pq : Option Addr) (ci ck cp cl cr cq : Nat) (w : World) (hp : HB w (.slice pp x.pre.length cp) x.pre) (ml : x.l.length ≤ maxLen) (mr : x.r.length ≤ maxLen) :
    Calls Tryz.prog 46 #[.int .i64 size, .agg #[.int .i64 x.k, .slice pi x.id.length ci, .slice pk x.key.length ck, .int .i64 x.si, .int .i64 x.d, .slice pp x.pre.length cp, .int .i64 x.nw, .slice pl x.l.length cl, .slice pr x.r.length cr, .slice pq x.kids cq]] w fun e w' => e = .returned (.bool (shapedB size x)) ∧ Below w.heap.size w w' := by
  by_cases k0 : x.k = 0
  · exact shaped_K0 size x pi pk pp pl pr pq ci ck cp cl cr cq w hp ml mr k0
  by_cases k1 : x.k = 1
  · exact shaped_K1 size x pi pk pp pl pr pq ci ck cp cl cr cq w hp ml mr k1
  by_cases k2 : x.k = 2
  · exact shaped_K2 size x pi pk pp pl pr pq ci ck cp cl cr cq w hp ml mr k2
  by_cases k3 : x.k = 3
  · exact shaped_K3 size x pi pk pp pl pr pq ci ck cp cl cr cq w hp ml mr k3
  exact shaped_KE size x pi pk pp pl pr pq ci ck cp cl cr cq w hp ml mr k0 k1 k2 k3

end Go.Proofs.YtahfjemllkbpgaaGreatDoor
