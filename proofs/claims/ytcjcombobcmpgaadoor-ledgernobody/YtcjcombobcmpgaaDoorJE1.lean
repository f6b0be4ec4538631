/- What this text proves: the walk of bytes.HasPrefix over this program. What this text proves: the walks of bytes.CutPrefix and of ledger's Read over this program: they answer, and write nothing that was there. (By program: mklgread.py.) What this text proves: the walk of ledger's Entries over this program: how many they are. -/
import Derived.Test.YtcjcombobcmpgaaDoorEqual
import Derived.Test.YtcjcombobcmpgaaDoorOwn
import Derived.Test.YtcjcombobcmpgaaDoorJG1
import Derived.Test.YtcjcombobcmpgaaDoorJCRead
import Derived.Test.YtcjcombobcmpgaaDoorJR1
import Derived.Test.YtcjcombobcmpgaaDoorJA2
import Derived.Lib.SlBytesConst
import Derived.Test.YtcjcombobcmpgaaDoorJL2
namespace Go.Proofs.YtcjcombobcmpgaaDoor
open Go.RowKit

set_option maxRecDepth 100000 in
set_option maxHeartbeats 400000 in
theorem prefix_any (a b : Value) (l m : List UInt8) (w : World) (ha : HB w a l) (hb : HB w b m) :
    Calls Tryd.prog 63 #[a, b] w fun e w' => e = .returned (.bool (decide (m.length ≤ l.length) && (l.take m.length == m))) ∧ w' = w := by
  obtain ⟨p, c, rfl⟩ := ha.shape
  obtain ⟨q, d, rfl⟩ := hb.shape
  have hl := ha.len.2
  have hm := hb.len.2
  unfold maxLen at hl hm
  by_cases hle : m.length ≤ l.length
  · have k1 := fun w => run_upto (P := Tryd.prog) Tryd.underlying50 s_u8 p l.length c m.length (m.length : Int) rfl (by omega) w
    have hf := ha.front m.length hle
    have hd : decide ((m.length : Int) ≤ (l.length : Int)) = true := by simp; omega
    have HD : Hid (decide (m.length ≤ l.length) = true) := by show decide (m.length ≤ l.length) = true; simpa using hle
    clear ha
    go_enter Tryd.func63, Tryd.ntmps63
    go_wp2_with (go_at_call 52; refine (equal_any _ _ _ _ _ hf hb).mono ?_; rintro e w' ⟨rfl, rfl⟩)
    go_ret
    exact ⟨by rw [HD.out]; rfl, rfl⟩
  · have hd : decide ((m.length : Int) ≤ (l.length : Int)) = false := by simp; omega
    have HD : Hid (decide (m.length ≤ l.length) = false) := by show decide (m.length ≤ l.length) = false; simpa using hle
    clear ha hb
    go_enter Tryd.func63, Tryd.ntmps63
    go_wp2
    go_ret
    exact ⟨by rw [HD.out]; rfl, rfl⟩

theorem prefix_t (a b : Value) (l m : List UInt8) (w : World) (ha : HB w a l) (hb : HB w b m) (h1 : m.length ≤ l.length) (h2 : l.take m.length = m) :
    Calls Tryd.prog 63 #[a, b] w fun e w' => e = .returned (.bool true) ∧ w' = w :=
  (prefix_any a b l m w ha hb).mono fun e w' ⟨he, hw⟩ => ⟨by rw [he, h2]; simp [h1], hw⟩

end Go.Proofs.YtcjcombobcmpgaaDoor

namespace Go.Proofs.YtcjcombobcmpgaaDoor
open Go.RowKit

/-- What CutPrefix answers. -/
def CutTold (l : List UInt8) (w : World) (x : Ending) (w' : World) : Prop :=
  ∃ (q : Option Addr) (d : Nat) (l' : List UInt8) (ok : Bool), x = .returned (.tuple #[.slice q l'.length d, .bool ok]) ∧ HB w (.slice q l'.length d) l' ∧ l'.length ≤ l.length ∧ w' = w

set_option maxRecDepth 100000 in
set_option maxHeartbeats 1600000 in
theorem cutp_any (a b : Value) (l m : List UInt8) (w : World) (ha : HB w a l) (hb : HB w b m) : Calls Tryd.prog 36 #[a, b] w (CutTold l w) := by
  obtain ⟨p, c, rfl⟩ := ha.shape
  obtain ⟨q, d, rfl⟩ := hb.shape
  have hP := prefix_any _ _ l m w ha hb
  by_cases hB : (decide (m.length ≤ l.length) && (l.take m.length == m)) = true
  · rw [hB] at hP
    have hm : m.length ≤ l.length := by simp at hB; exact hB.1
    have hc := ha.behind m.length hm
    have kc : ∀ w', (Instr.slice 50 (.slice p l.length c) (some (.int .i64 (m.length : Int))) none none).run Tryd.prog w' = .ok (.slice (cutP p c m.length) (l.length - m.length) (c - m.length)) w' := fun w' => run_cut (P := Tryd.prog) Tryd.underlying50 s_u8 p l.length c m.length (m.length : Int) rfl hm w'
    obtain ⟨L, hL⟩ : ∃ L, L = l.drop m.length := ⟨_, rfl⟩
    have hl : l.length - m.length = L.length := by rw [hL]; simp
    rw [← hL, hl] at hc
    rw [hl] at kc
    have hle : L.length ≤ l.length := by omega
    clear hB hL hl
    go_enter Tryd.func36, Tryd.ntmps36
    go_wp2_with (go_at_call 63; refine hP.mono ?_; rintro e w1 ⟨rfl, rfl⟩)
    go_ret2
    exact ⟨_, _, L, true, rfl, hc, hle, rfl⟩
  · rw [Bool.eq_false_iff.2 hB] at hP
    clear hB
    go_enter Tryd.func36, Tryd.ntmps36
    go_wp2_with (go_at_call 63; refine hP.mono ?_; rintro e w1 ⟨rfl, rfl⟩)
    go_ret2
    exact ⟨_, _, l, false, rfl, ha, Nat.le_refl _, rfl⟩

/-- What Read answers, of its form. -/
def RdEnt (w : World) (x : Ending) (w' : World) : Prop :=
  ∃ (t : Int) (p : Option Addr) (n c : Nat) (e : Int), x = .returned (.tuple #[.agg #[.int .i64 t, .slice p n c], .int .i64 e]) ∧ Below w.heap.size w w'

theorem ent_cells {w : World} {b : Nat} {t : Int} {u : Value} (g : w.heap[b]? = some (.cells #[.int .i64 t, u] 24 (0, 0))) : w.cell? ⟨b, 0, none⟩ = some (.int .i64 t) ∧ w.cell? ⟨b, 1, none⟩ = some u ∧ w.frozen? ⟨b, 0, none⟩ = false ∧ w.frozen? ⟨b, 1, none⟩ = false :=
  ⟨by rw [cell_of_row _ _ _ _ _ _ g]; rfl, by rw [cell_of_row _ _ _ _ _ _ g]; rfl, by simp [World.frozen?, g], by simp [World.frozen?, g]⟩

set_option maxRecDepth 100000 in
set_option maxHeartbeats 8000000 in
theorem lread_any (s h mi mk ch ar ca pg : Int) (v : Value) (l : List UInt8) (w : World) (hv : HB w v l) (hsz : l.length ≤ 4000000) :
    Calls Tryd.prog 17 #[.agg #[.int .i64 s, .int .i64 h, .int .i64 mi, .int .i64 mk, .int .i64 ch, .int .i64 ar, .int .i64 ca, .int .i64 pg], v] w (RdEnt w) := by
  obtain ⟨p, c, rfl⟩ := hv.shape
  have b0 := (Below.refl w.heap.size w).alloc (Nat.le_refl _) (.cells #[.int .i64 s, .int .i64 h, .int .i64 mi, .int .i64 mk, .int .i64 ch, .int .i64 ar, .int .i64 ca, .int .i64 pg] 27)
  have g0 := heap_alloc_new w (.cells #[.int .i64 s, .int .i64 h, .int .i64 mi, .int .i64 mk, .int .i64 ch, .int .i64 ar, .int .i64 ca, .int .i64 pg] 27)
  obtain ⟨V, hV⟩ : ∃ V, w.alloc (.cells #[.int .i64 s, .int .i64 h, .int .i64 mi, .int .i64 mk, .int .i64 ch, .int .i64 ar, .int .i64 ca, .int .i64 pg] 27) = V := ⟨_, rfl⟩
  rw [hV] at b0 g0
  have sV : V.heap.size = w.heap.size + 1 := by rw [← hV]; simp
  have b1 := (Below.refl V.heap.size V).alloc (Nat.le_refl _) (.cells #[.int .i64 0, .slice none 0 0] 24)
  have g1 := heap_alloc_new V (.cells #[.int .i64 0, .slice none 0 0] 24)
  obtain ⟨R, hR⟩ : ∃ R, V.alloc (.cells #[.int .i64 0, .slice none 0 0] 24) = R := ⟨_, rfl⟩
  rw [hR] at b1 g1
  have sR : R.heap.size = w.heap.size + 2 := by rw [← hR]; simp [sV]
  have bL := (Below.refl _ R).alloc (Nat.le_refl _) (.cells #[.int .u8 69] 5 (1, 2))
  have hlit := HB.litF R 5 [69] #[.int .u8 69] 1 (1, 2) rfl rfl (by unfold maxLen; omega)
  have kc := Lib.run_convert_bytes_const (P := Tryd.prog) R 50 5 #[.int .u8 69] 1 1 Tryd.underlying50 Tryd.underlying5
  rw [show (#[Value.int .u8 69] : Array Value).size = 1 from rfl] at kc
  obtain ⟨U, hU⟩ : ∃ U, R.alloc (.cells #[.int .u8 69] 5 (1, 2)) = U := ⟨_, rfl⟩
  rw [hU] at bL hlit kc
  have sU : w.heap.size + 2 ≤ U.heap.size := by have := bL.size; omega
  have bRU := b1.trans (bL.mono b1.size)
  have bU := b0.trans (bRU.mono b0.size)
  have gP := (bRU.block _ (by omega)).trans g0
  have gE := (bL.block _ (by omega)).trans g1
  have hCP := cutp_any _ _ l [69] U (hv.later bU) hlit
  rw [sR] at hCP kc
  rw [sV] at gE
  clear hlit g0 g1 hv b0 b1 bRU bL
  go_enter Tryd.func17, Tryd.ntmps17
  go_wp2_with fail
  refine hCP.mono ?_
  rintro e w1 ⟨q, d, L, ok, rfl, hL, hLl, hw1⟩
  subst hw1
  have hO := open_any _ L w1 hL (by omega)
  clear hCP kc
  go_wp2_with fail
  refine hO.mono ?_
  rintro e w2 ⟨g, hg, rfl, r2, b2⟩
  have hUi := uint_any g L 1125899906842624 w2 r2
  have hle := uintF_le L 1125899906842624
  clear hO r2
  go_wp2_with fail
  refine hUi.mono ?_
  rintro e w3 ⟨rfl, r3, o3⟩
  have b3 : Below w1.heap.size w1 w3 := b2.trans ((o3.below hg).mono (Nat.le_refl _))
  generalize (uintF L 1125899906842624).2.1 = n at *
  generalize (uintF L 1125899906842624).2.2 = rst at *
  generalize (uintF L 1125899906842624).1 = er at *
  have gP3 := (b3.block _ (Array.getElem?_eq_some_iff.1 gP).1).trans gP
  have gE3 := (b3.block _ (Array.getElem?_eq_some_iff.1 gE).1).trans gE
  obtain ⟨z0, z1, y0, y1⟩ := ent_cells gE3
  have bw3 := bU.trans (b3.mono bU.size)
  have onf : ∀ W : World, Only (w.heap.size + 1) W ((W.setCell ⟨w.heap.size + 1, 0, none⟩ (.int .i64 0)).setCell ⟨w.heap.size + 1, 1, none⟩ (.slice none 0 0)) := fun W => ((Only.refl _ W).setCell 0 _).setCell 1 _
  have bF := bw3.trans ((onf w3).below (B := w.heap.size) (by omega))
  have hE := rr_err g rst er w3 r3
  clear hUi o3 b2 gP gE
  cases ok with
  | false =>
    go_wp2
    refine bodyPost_ret (v := .tuple #[.agg #[.int .i64 0, .slice none 0 0], .int .i64 90]) ?_ rfl ?_
    · simp only [results, Tryd.results17]
      go_simp
    · exact ⟨0, none, 0, 0, 90, rfl, bF⟩
  | true =>
    by_cases he : er = 0
    · subst he
      have hb3 := (Below.refl w3.heap.size w3).drew
      have hLf := rr_left g rst 0 w3.drew (r3.later hb3)
      have hL3 := (hL.later b3).later hb3
      have hcut := hL3.behind (L.length - rst.length) (by omega)
      have hq : L.length - (L.length - rst.length) = rst.length := by omega
      have kc : ∀ w', (Instr.slice 50 (.slice q L.length d) (some (.int .i64 ((L.length : Int) - (rst.length : Int)))) none none).run Tryd.prog w' = .ok (.slice (cutP q d (L.length - rst.length)) (L.length - (L.length - rst.length)) (d - (L.length - rst.length))) w' := fun w' => run_cut (P := Tryd.prog) Tryd.underlying50 s_u8 q L.length d (L.length - rst.length) ((L.length : Int) - (rst.length : Int)) (by omega) (by omega) w'
      have hwk : IntKind.i64.wrap ((L.length : Int) - (rst.length : Int)) = (L.length : Int) - (rst.length : Int) := wrapZ _ (by omega) (by omega)
      obtain ⟨M, hM⟩ : ∃ M, M = L.drop (L.length - rst.length) := ⟨_, rfl⟩
      have hMl : L.length - (L.length - rst.length) = M.length := by rw [hM]; simp
      rw [← hM, hMl] at hcut
      rw [hMl] at kc
      have hRd := cread_any s h mi mk ch ar ca pg _ M w3.drew hcut (by omega)
      generalize (crS mi mk M).2.2 = ec at *
      generalize (crS mi mk M).1 = bs at *
      generalize (crS mi mk M).2.1 = rr at *
      obtain ⟨qc, hqc⟩ : ∃ qc, cutP q d (L.length - rst.length) = qc := ⟨_, rfl⟩
      obtain ⟨dc, hdc⟩ : ∃ dc, d - (L.length - rst.length) = dc := ⟨_, rfl⟩
      rw [hqc, hdc] at kc hRd
      obtain ⟨LR, hLR⟩ : ∃ LR : Int, (L.length : Int) - (rst.length : Int) = LR := ⟨_, rfl⟩
      rw [hLR] at kc hwk
      have hP3 := par_cells ((hb3.block _ (Array.getElem?_eq_some_iff.1 gP3).1).trans gP3)
      have hHeld := hP3
      clear hM hMl hq hqc hdc hcut hL3 hL hLl hle r3
      go_wp2_with (go_at_call 39; refine hE.mono ?_; rintro e w4 ⟨rfl, hw4⟩; subst hw4)
      refine wp_region_heldN (by kernel_rfl) (fun w' => w'.cell? ⟨w.heap.size, 0, none⟩ = some (.int .i64 s) ∧ w'.cell? ⟨w.heap.size, 1, none⟩ = some (.int .i64 h) ∧ w'.cell? ⟨w.heap.size, 2, none⟩ = some (.int .i64 mi) ∧ w'.cell? ⟨w.heap.size, 3, none⟩ = some (.int .i64 mk) ∧ w'.cell? ⟨w.heap.size, 4, none⟩ = some (.int .i64 ch) ∧ w'.cell? ⟨w.heap.size, 5, none⟩ = some (.int .i64 ar) ∧ w'.cell? ⟨w.heap.size, 6, none⟩ = some (.int .i64 ca) ∧ w'.cell? ⟨w.heap.size, 7, none⟩ = some (.int .i64 pg)) 16 rfl ?_
      refine tkY 0 ⟨some 34, .load 27 (.tmp 2), 27, "ledger.go:161", #[], none⟩ ?v0z1 hHeld ?y0z1 ?r0z1
      case y0z1 => (intro w hSw; (try dsimp only at hSw); go_simp) <;> with_reducible rfl
      try simp only [Act.put, List.setIfInBounds_toArray, List.set_cons_zero, List.set_cons_succ]
      refine tkY 1 ⟨some 35, .move (.tmp 6), 50, "ledger.go:161", #[], none⟩ ?v1z2 hHeld ?y1z2 ?r1z2
      case y1z2 => (intro w hSw; (try dsimp only at hSw); go_simp) <;> with_reducible rfl
      try simp only [Act.put, List.setIfInBounds_toArray, List.set_cons_zero, List.set_cons_succ]
      refine tkY 2 ⟨some 36, .move (.tmp 6), 50, "ledger.go:161", #[], none⟩ ?v2z3 hHeld ?y2z3 ?r2z3
      case y2z3 => (intro w hSw; (try dsimp only at hSw); go_simp) <;> with_reducible rfl
      try simp only [Act.put, List.setIfInBounds_toArray, List.set_cons_zero, List.set_cons_succ]
      refine tkY 3 ⟨some 37, .call { callee := .builtin .len, args := #[.tmp 36], argTypes := #[50] }, 3, "ledger.go:161", #[⟨2, .data⟩], none⟩ ?v3z4 hHeld ?y3z4 ?r3z4
      case y3z4 => (intro w hSw; (try dsimp only at hSw); go_simp) <;> with_reducible rfl
      try simp only [Act.put, List.setIfInBounds_toArray, List.set_cons_zero, List.set_cons_succ]
      refine tkY 4 ⟨some 38, .move (.tmp 8), 80, "ledger.go:161", #[], none⟩ ?v4z5 hHeld ?y4z5 ?r4z5
      case y4z5 => (intro w hSw; (try dsimp only at hSw); go_simp) <;> with_reducible rfl
      try simp only [Act.put, List.setIfInBounds_toArray, List.set_cons_zero, List.set_cons_succ]
      refine wpAnyH_ready (rs := [5]) (by kernel_rfl) (by simp) ?_
      refine AllReadyH.cons (o := ⟨some 39, .call { callee := .value (.func 41), args := #[.tmp 38], argTypes := #[80] }, 3, "ledger.go:161", #[⟨4, .data⟩], none⟩) rfl (fun K hK => ?_) AllReadyH.nil
      go_simp
      refine hLf.mono ?_
      rintro e w5 ⟨rfl, hw5⟩
      subst hw5
      refine hK.out _ _ ?_ (fun _ => ?_)
      · exact hHeld
      clear hK K
      try simp only [Act.put, List.setIfInBounds_toArray, List.set_cons_zero, List.set_cons_succ]
      refine tkY 6 ⟨some 40, .binOp .sub 3 (.tmp 37) (.tmp 39) 3, 3, "ledger.go:161", #[⟨3, .data⟩, ⟨5, .data⟩], none⟩ ?v6z6 hHeld ?y6z6 ?r6z6
      case y6z6 => (intro w hSw; (try dsimp only at hSw); go_simp) <;> with_reducible rfl
      try simp only [Act.put, List.setIfInBounds_toArray, List.set_cons_zero, List.set_cons_succ]
      refine tkY 7 ⟨some 41, .slice 50 (.tmp 35) (some (.tmp 40)) none none, 50, "ledger.go:161", #[⟨1, .data⟩, ⟨6, .data⟩], none⟩ ?v7z7 hHeld ?y7z7 ?r7z7
      case y7z7 => (intro w hSw; (try dsimp only at hSw); go_simp) <;> with_reducible rfl
      try simp only [Act.put, List.setIfInBounds_toArray, List.set_cons_zero, List.set_cons_succ]
      refine wpAnyH_ready (rs := [8]) (by kernel_rfl) (by simp) ?_
      refine AllReadyH.cons (o := ⟨some 42, .call { callee := .value (.func 40), args := #[.tmp 34, .tmp 41], argTypes := #[27, 50] }, 83, "ledger.go:161", #[⟨0, .data⟩, ⟨7, .data⟩, ⟨5, .chain⟩], none⟩) rfl (fun K hK => ?_) AllReadyH.nil
      go_simp
      refine hRd.mono ?_
      rintro e w6 ⟨u, v6, rfl, hu, hv6, b6⟩
      have gP6 := (b6.block _ (by simp; exact (Array.getElem?_eq_some_iff.1 gP3).1)).trans ((hb3.block _ (Array.getElem?_eq_some_iff.1 gP3).1).trans gP3)
      replace hHeld := par_cells gP6
      refine hK.out _ _ ?_ (fun _ => ?_)
      · exact hHeld
      clear hK K
      try simp only [Act.put, List.setIfInBounds_toArray, List.set_cons_zero, List.set_cons_succ]
      refine tkY 9 ⟨some 33, .move (.tmp 42), 83, "ledger.go:161", #[⟨8, .data⟩], none⟩ ?v9z8 hHeld ?y9z8 ?r9z8
      case y9z8 => (intro w hSw; (try dsimp only at hSw); go_simp) <;> with_reducible rfl
      try simp only [Act.put, List.setIfInBounds_toArray, List.set_cons_zero, List.set_cons_succ]
      refine tkY 10 ⟨some 43, .extract (.tmp 33) 0, 22, "ledger.go:161", #[⟨9, .data⟩], none⟩ ?v10z9 hHeld ?y10z9 ?r10z9
      case y10z9 => (intro w hSw; (try dsimp only at hSw); go_simp) <;> with_reducible rfl
      try simp only [Act.put, List.setIfInBounds_toArray, List.set_cons_zero, List.set_cons_succ]
      refine tkY 11 ⟨some 44, .extract (.tmp 33) 1, 50, "ledger.go:161", #[⟨9, .data⟩, { on := 13, ground := .gcOnly .lateStores }], none⟩ ?v11z10 hHeld ?y11z10 ?r11z10
      case y11z10 => (intro w hSw; (try dsimp only at hSw); go_simp) <;> with_reducible rfl
      try simp only [Act.put, List.setIfInBounds_toArray, List.set_cons_zero, List.set_cons_succ]
      refine tkY 12 ⟨some 45, .extract (.tmp 33) 2, 34, "ledger.go:161", #[⟨9, .data⟩, { on := 14, ground := .gcOnly .lateStores }], none⟩ ?v12z11 hHeld ?y12z11 ?r12z11
      case y12z11 => (intro w hSw; (try dsimp only at hSw); go_simp) <;> with_reducible rfl
      try simp only [Act.put, List.setIfInBounds_toArray, List.set_cons_zero, List.set_cons_succ]
      refine tkY 13 ⟨some 10, .assign (.tmp 43), 22, "ledger.go:161", #[⟨10, .data⟩, ⟨8, .chain⟩, ⟨0, .phase⟩, ⟨1, .phase⟩, ⟨2, .phase⟩, ⟨3, .phase⟩, ⟨4, .phase⟩, ⟨5, .phase⟩, ⟨6, .phase⟩, ⟨7, .phase⟩, ⟨8, .phase⟩, ⟨9, .phase⟩, ⟨10, .phase⟩, { on := 11, ground := .textOnly .lateStores }, { on := 12, ground := .textOnly .lateStores }], none⟩ ?v13z12 hHeld ?y13z12 ?r13z12
      case y13z12 => (intro w hSw; (try dsimp only at hSw); go_simp) <;> with_reducible rfl
      try simp only [Act.put, List.setIfInBounds_toArray, List.set_cons_zero, List.set_cons_succ]
      refine tkY 14 ⟨some 11, .assign (.tmp 44), 50, "ledger.go:161", #[⟨11, .data⟩, ⟨13, .chain⟩, ⟨0, .phase⟩, ⟨1, .phase⟩, ⟨2, .phase⟩, ⟨3, .phase⟩, ⟨4, .phase⟩, ⟨5, .phase⟩, ⟨6, .phase⟩, ⟨7, .phase⟩, ⟨8, .phase⟩, ⟨9, .phase⟩, ⟨10, .phase⟩, ⟨11, .phase⟩, { on := 12, ground := .textOnly .lateStores }, ⟨13, .phase⟩], none⟩ ?v14z13 hHeld ?y14z13 ?r14z13
      case y14z13 => (intro w hSw; (try dsimp only at hSw); go_simp) <;> with_reducible rfl
      try simp only [Act.put, List.setIfInBounds_toArray, List.set_cons_zero, List.set_cons_succ]
      refine tkY 15 ⟨some 12, .assign (.tmp 45), 34, "ledger.go:161", #[⟨12, .data⟩, ⟨14, .chain⟩, ⟨0, .phase⟩, ⟨1, .phase⟩, ⟨2, .phase⟩, ⟨3, .phase⟩, ⟨4, .phase⟩, ⟨5, .phase⟩, ⟨6, .phase⟩, ⟨7, .phase⟩, ⟨8, .phase⟩, ⟨9, .phase⟩, ⟨10, .phase⟩, ⟨11, .phase⟩, ⟨12, .phase⟩, ⟨13, .phase⟩, ⟨14, .phase⟩], none⟩ ?v15z14 hHeld ?y15z14 ?r15z14
      case y15z14 => (intro w hSw; (try dsimp only at hSw); go_simp) <;> with_reducible rfl
      try simp only [Act.put, List.setIfInBounds_toArray, List.set_cons_zero, List.set_cons_succ]
      refine wpAnyH_done (by kernel_rfl) ?_ _
      obtain ⟨pu, cu, rfl⟩ := hu.shape
      obtain ⟨pv, cv, rfl⟩ := hv6.shape
      have b36 := hb3.trans (b6.mono hb3.size)
      have gE6 := (b36.block _ (Array.getElem?_eq_some_iff.1 gE3).1).trans gE3
      have bw6 := bw3.trans (b36.mono bw3.size)
      generalize (if ec = 0 then bs else []) = bq at *
      generalize (if ec = 0 then rr else []) = rq at *
      have bN := (Below.refl _ w6).alloc (Nat.le_refl _) (.cells #[.int .i64 (n : Int), .slice pu bq.length cu] 24)
      have gN := heap_alloc_new w6 (.cells #[.int .i64 (n : Int), .slice pu bq.length cu] 24)
      obtain ⟨N, hN⟩ : ∃ N, w6.alloc (.cells #[.int .i64 (n : Int), .slice pu bq.length cu] 24) = N := ⟨_, rfl⟩
      rw [hN] at bN gN
      have gPN := (bN.block _ (Array.getElem?_eq_some_iff.1 gP6).1).trans gP6
      have gEN := (bN.block _ (Array.getElem?_eq_some_iff.1 gE6).1).trans gE6
      obtain ⟨k0, k1, k2, k3, k4, k5, k6, k7⟩ := par_cells gPN
      obtain ⟨z0, z1, y0, y1⟩ := ent_cells gEN
      obtain ⟨x0, x1, _, _⟩ := ent_cells gN
      have hMy := lmay_any s h mi mk ch ar ca pg (n : Int) _ bq N (hu.later bN)
      have bwN := bw6.trans (bN.mono bw6.size)
      have bFN := bwN.trans ((onf N).below (B := w.heap.size) (by omega))
      clear hLf hRd kc hwk hLR gP3 gP6 gE3 gE6 hE b36 b6 hu hv6 hHeld hP3
      by_cases hec : ec = 0
      · subst hec
        by_cases hrq : rq = []
        · subst hrq
          go_wp2_with (go_at_call 26; refine hMy.mono ?_; rintro e w7 ⟨bb, rfl, _, b7⟩; have gE7 := (b7.block _ (Array.getElem?_eq_some_iff.1 gEN).1).trans gEN; have gN7 := (b7.block _ (Array.getElem?_eq_some_iff.1 gN).1).trans gN; obtain ⟨z0', z1', y0', y1'⟩ := ent_cells gE7; obtain ⟨x0', x1', _, _⟩ := ent_cells gN7; have bw7 := bwN.trans (b7.mono bwN.size); cases bb)
          · refine bodyPost_ret (v := .tuple #[.agg #[.int .i64 0, .slice none 0 0], .int .i64 90]) ?_ rfl ?_
            · simp only [results, Tryd.results17]
              go_simp
            · exact ⟨0, none, 0, 0, 90, rfl, bw7.trans ((onf w7).below (B := w.heap.size) (by omega))⟩
          · refine bodyPost_ret (v := .tuple #[.agg #[.int .i64 (n : Int), .slice pu bq.length cu], .int .i64 0]) ?_ rfl ?_
            · simp only [results, Tryd.results17]
              go_simp
            · exact ⟨(n : Int), pu, bq.length, cu, 0, rfl, bw7.trans ((((Only.refl (w.heap.size + 1) w7).setCell 0 _).setCell 1 _).below (B := w.heap.size) (by omega))⟩
        · have hrq1 : 0 < rq.length := List.length_pos_iff.2 hrq
          have hrq2 : (0 : Int) < (rq.length : Int) := by omega
          go_wp2
          refine bodyPost_ret (v := .tuple #[.agg #[.int .i64 0, .slice none 0 0], .int .i64 90]) ?_ rfl ?_
          · simp only [results, Tryd.results17]
            go_simp
          · exact ⟨0, none, 0, 0, 90, rfl, bFN⟩
      · have hec' : (ec != 0) = true := by simpa using hec
        go_wp2
        refine bodyPost_ret (v := .tuple #[.agg #[.int .i64 0, .slice none 0 0], .int .i64 90]) ?_ rfl ?_
        · simp only [results, Tryd.results17]
          go_simp
        · exact ⟨0, none, 0, 0, 90, rfl, bFN⟩
    · have he' : (er != 0) = true := by simpa using he
      go_wp2_with (go_at_call 39; refine hE.mono ?_; rintro e w4 ⟨rfl, hw4⟩; subst hw4)
      refine bodyPost_ret (v := .tuple #[.agg #[.int .i64 0, .slice none 0 0], .int .i64 90]) ?_ rfl ?_
      · simp only [results, Tryd.results17]
        go_simp
      · exact ⟨0, none, 0, 0, 90, rfl, bF⟩

end Go.Proofs.YtcjcombobcmpgaaDoor

namespace Go.Proofs.YtcjcombobcmpgaaDoor
open Go.RowKit

theorem i_ent : (Tryd.prog.info? 24).map (fun i => (i.zero, i.size, i.bytes)) = some (some (.agg #[.int .i64 0, .slice none 0 0]), 2, 32) := by kernel_rfl

set_option maxRecDepth 100000 in
set_option maxHeartbeats 8000000 in
theorem lents_any {B g gl N kk K : Nat} {s h mi mk ch ar ca pg n c t : Int} {ls : List (List UInt8)} {w : World} (H : LS B g gl N kk K s h mi mk ch ar ca pg n c t ls w) (hl1 : 2 ≤ ls.length) (hl2 : ls.length ≤ 1000) (hrow : ∀ l ∈ ls, l.length ≤ 4000) :
    Calls Tryd.prog 5 #[.pointer (some ⟨g, 0, none⟩)] w fun x w' => ∃ p m c, x = .returned (.slice p m c) ∧ m = ls.length - 1 ∧ Below w.heap.size w w' := by
  obtain ⟨bd, bn, bm, base, cc, cr, pr, st, k1, k2, k3, k4, k5, k6, k7, k8, k9, k10, k11⟩ := H
  have a8 := k1.cells.2.1
  have hM := lmiss_no g gl w a8
  have hRc := srecs_any k2 k3 (by omega) (fun l hl => by have := hrow l hl; omega)
  have HR : Hid (∀ l ∈ ls, l.length ≤ 4000) := hrow
  obtain ⟨m, hm⟩ : ∃ m, m = ls.length - 1 := ⟨_, rfl⟩
  rw [← hm]
  have HM : Hid (ls.length = m + 1 ∧ 1 ≤ m ∧ m ≤ 1000) := ⟨by omega, by omega, by omega⟩
  have kc : ∀ (p : Option Addr) (c : Nat) w', (Instr.slice 53 (.slice p ls.length c) (some (.int .i64 1)) none none).run Tryd.prog w' = .ok (.slice (cutP p c 1) m (c - 1)) w' := fun p c w' => by rw [hm]; exact run_cut (P := Tryd.prog) Tryd.underlying53 s_bytes p ls.length c 1 1 rfl (by omega) w'
  obtain ⟨i0, hi, hz0, hz1, hz2⟩ := info_parts i_ent
  clear k2 k3 k4 k5 k6 k7 k8 k9 k10 k11 hm hl1 hl2 hrow
  go_enter Tryd.func5, Tryd.ntmps5
  go_wp2_with (first | (go_at_call 11; refine hM.mono ?_; rintro e wm ⟨rfl, hwm⟩; have hwm2 := hwm.symm; clear hwm; subst hwm2) | fail)
  refine hRc.mono ?_
  rintro e w1 ⟨p1, c1, rfl, o1, b1⟩
  have hp1 := o1.pa
  obtain ⟨hls, hm1, hm2⟩ := HM.out
  obtain ⟨bl, o, rfl⟩ := hp1.addr (by omega)
  have hl := hp1.len
  have hcp : cutP (some ⟨bl, o, none⟩) c1 1 = some ⟨bl, o + 1, none⟩ := by unfold cutP; rw [if_neg (by omega)]; rfl
  have kc2 := kc (some ⟨bl, o, none⟩) c1
  rw [hcp] at kc2
  have hcc : m ≤ c1 - 1 ∧ c1 - 1 ≤ 9223372036854775807 := by have := hl.2.2; unfold maxLen at this; omega
  obtain ⟨c2, hc2⟩ : ∃ c2, c2 = c1 - 1 := ⟨_, rfl⟩
  rw [← hc2] at kc2 hcc
  have HG : Hid (∀ k : Nat, k < m → ∃ (q : Option Addr) (kk : Nat) (l : List UInt8), w1.cell? ⟨bl, o + 1 + k, none⟩ = some (.slice q l.length kk) ∧ HB w1 (.slice q l.length kk) l ∧ l.length ≤ 4000) := by
    intro k hk
    obtain ⟨q, kk, l, hx, hc, hu⟩ := hp1.get (k + 1) (by omega)
    refine ⟨q, kk, l, ?_, hu, HR.out l (List.mem_of_getElem? hx)⟩
    rw [show o + 1 + k = o + (k + 1) by omega]
    exact hc
  have kL := k1.same (b1.block _ k1.lt)
  have hm3 : m ≤ 9223372036854775807 := by omega
  clear hRc o1 hp1 hl hcp kc hc2 hls HR HM
  go_wp2
  go_loopw [3, 17] (fun v i wr => ∃ (k : Nat) (p : Option Addr) (cp : Nat) (xs : List Value), k ≤ m ∧ i = .int .i64 (k : Int) ∧ v = .slice p k cp ∧ wr.ownsRow w1.heap.size 24 2 (.slice p k cp) k xs ∧ Below w1.heap.size w1 wr) (fun _ i _ => m - (Go.RowKit.intOf i).toNat)
  case atStart => exact ⟨0, none, 0, [], Nat.zero_le _, rfl, rfl, World.ownsRow_nil _ _ _ _, Below.refl _ _⟩
  case round =>
    obtain ⟨k, p, cp, xs, hk, rfl, rfl, ow, hb⟩ := hrel
    by_cases hlt : k < m
    · have hlt2 : (k : Int) < (m : Int) := by omega
      obtain ⟨q, kk', l, hc, hu, hl4⟩ := HG.out k hlt
      have e1 := cell_later hb hc
      obtain ⟨⟨a0, a1, a2, a3, a4, a5, a6, a7⟩, _⟩ := (kL.same (hb.block _ kL.lt)).cells
      have hRd := lread_any s h mi mk ch ar ca pg _ l wr (hu.later hb) (by omega)
      clear HG hc hu
      go_wp2_with fail
      refine hRd.mono ?_
      rintro e w4 ⟨t4, p4, n4, c4, e4, rfl, b4⟩
      have bE := (Below.refl w4.heap.size w4).alloc (Nat.le_refl _) (.cells #[.int .i64 t4, .slice p4 n4 c4] 24)
      have gE := heap_alloc_new w4 (.cells #[.int .i64 t4, .slice p4 n4 c4] 24)
      obtain ⟨WE, hWE⟩ : ∃ WE, w4.alloc (.cells #[.int .i64 t4, .slice p4 n4 c4] 24) = WE := ⟨_, rfl⟩
      rw [hWE] at bE gE
      obtain ⟨z0, z1, _, _⟩ := ent_cells gE
      have bF := (Below.refl WE.heap.size WE).alloc (Nat.le_refl _) (.cells #[.int .i64 t4, .slice p4 n4 c4] 24)
      have gF := heap_alloc_new WE (.cells #[.int .i64 t4, .slice p4 n4 c4] 24)
      have sF : (WE.alloc (.cells #[.int .i64 t4, .slice p4 n4 c4] 24)).heap.size = WE.heap.size + 1 := by simp
      have b4F := b4.trans ((bE.trans (bF.mono bE.size)).mono b4.size)
      have oF := owns_later ow b4F
      have hbs := hb.size
      have hnews : ∀ j u, [Value.int .i64 t4, .slice p4 n4 c4][j]? = some u → (WE.alloc (.cells #[.int .i64 t4, .slice p4 n4 c4] 24)).cell? ((⟨WE.heap.size, 0, none⟩ : Addr).add j) = some u := World.news_of_block (cs := #[.int .i64 t4, .slice p4 n4 c4]) (t := 24) (fr := (0, 0)) gF
      have hFs : w1.heap.size ≤ (WE.alloc (.cells #[.int .i64 t4, .slice p4 n4 c4] 24)).heap.size := Nat.le_trans hbs b4F.size
      clear hRd gE gF e1
      go_wp2_with (first
        | (at_builtin; refine wpList_append_lies _ rfl _ _ 36 rfl w1.heap.size 24 i0 _ 2 32 Tryd.underlying36 hi hz0 hz1 hz2 rfl (by omega) (.slice p k cp) k xs rfl oF ⟨WE.heap.size, 0, none⟩ 1 1 [.int .i64 t4, .slice p4 n4 c4] rfl rfl hnews (by simp [Value.oneCell']) (by omega) (by unfold maxLen; omega) (by omega) hFs (WE.heap.size + 1) sF ?_; intro g5 cap5 w5 ow5 gr5 hat5 hlt5))
      have hbF := hb.trans (b4F.mono hb.size)
      have hb5 : Below w1.heap.size w1 w5 := hbF.grown gr5 hbF.size (by intro q hq; exact (oF.lt q hq).1)
      clear hat5 hlt5 gr5 oF hnews
      go_wp2
      go_roundw
      case rel => first | exact ⟨k + 1, _, _, _, by omega, by go_num, rfl, ow5, hb5⟩ | ((repeat apply Exists.intro); exact ⟨⟨k + 1, _, _, _, by omega, by go_num, rfl, ow5, hb5⟩, rfl⟩)
      case measure => simp [Go.RowKit.intOf]; omega
    · obtain rfl : k = m := by omega
      have hnk : ¬ (k : Int) < (k : Int) := by omega
      go_wp2
      go_ret
      exact ⟨p, k, ⟨cp, rfl⟩, rfl, b1.trans (hb.mono b1.size)⟩

end Go.Proofs.YtcjcombobcmpgaaDoor
