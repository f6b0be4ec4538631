/- What this text proves: the walk of bytes.HasPrefix over this program. What this text proves: the walks of bytes.CutPrefix and of ledger's Read over this program: they answer, and write nothing that was there. (By program: mklgread.py.) -/
import Derived.Test.YtcdikkgkjjopmaaGreatDoorEqual
import Derived.Test.YtcdikkgkjjopmaaGreatDoorOwn
import Derived.Test.YtcdikkgkjjopmaaGreatDoorJG1
import Derived.Test.YtcdikkgkjjopmaaGreatDoorJCRead
import Derived.Test.YtcdikkgkjjopmaaGreatDoorJR1
import Derived.Test.YtcdikkgkjjopmaaGreatDoorJA2
import Derived.Lib.SlBytesConst
namespace Go.Proofs.YtcdikkgkjjopmaaGreatDoor
open Go.RowKit

set_option maxRecDepth 100000 in
set_option maxHeartbeats 400000 in
theorem prefix_any (a b : Value) (l m : List UInt8) (w : World) (ha : HB w a l) (hb : HB w b m) :
    Calls Tryz.prog 31 #[a, b] w fun e w' => e = .returned (.bool (decide (m.length ≤ l.length) && (l.take m.length == m))) ∧ w' = w := by
  obtain ⟨p, c, rfl⟩ := ha.shape
  obtain ⟨q, d, rfl⟩ := hb.shape
  have hl := ha.len.2
  have hm := hb.len.2
  unfold maxLen at hl hm
  by_cases hle : m.length ≤ l.length
  · have k1 := fun w => run_upto (P := Tryz.prog) Tryz.underlying27 s_u8 p l.length c m.length (m.length : Int) rfl (by omega) w
    have hf := ha.front m.length hle
    have hd : decide ((m.length : Int) ≤ (l.length : Int)) = true := by simp; omega
    have HD : Hid (decide (m.length ≤ l.length) = true) := by show decide (m.length ≤ l.length) = true; simpa using hle
    clear ha
    go_enter Tryz.func31, Tryz.ntmps31
    go_wp2_with (go_at_call 8; refine (equal_any _ _ _ _ _ hf hb).mono ?_; rintro e w' ⟨rfl, rfl⟩)
    go_ret
    exact ⟨by rw [HD.out]; rfl, rfl⟩
  · have hd : decide ((m.length : Int) ≤ (l.length : Int)) = false := by simp; omega
    have HD : Hid (decide (m.length ≤ l.length) = false) := by show decide (m.length ≤ l.length) = false; simpa using hle
    clear ha hb
    go_enter Tryz.func31, Tryz.ntmps31
    go_wp2
    go_ret
    exact ⟨by rw [HD.out]; rfl, rfl⟩

theorem prefix_t (a b : Value) (l m : List UInt8) (w : World) (ha : HB w a l) (hb : HB w b m) (h1 : m.length ≤ l.length) (h2 : l.take m.length = m) :
    Calls Tryz.prog 31 #[a, b] w fun e w' => e = .returned (.bool true) ∧ w' = w :=
  (prefix_any a b l m w ha hb).mono fun e w' ⟨he, hw⟩ => ⟨by rw [he, h2]; simp [h1], hw⟩

end Go.Proofs.YtcdikkgkjjopmaaGreatDoor

namespace Go.Proofs.YtcdikkgkjjopmaaGreatDoor
open Go.RowKit

/-- What CutPrefix answers. -/
def CutTold (l m : List UInt8) (w : World) (x : Ending) (w' : World) : Prop :=
  ∃ (q : Option Addr) (d : Nat) (l' : List UInt8) (ok : Bool), x = .returned (.tuple #[.slice q l'.length d, .bool ok]) ∧ HB w (.slice q l'.length d) l' ∧ l'.length ≤ l.length ∧ Hid ((ok = true ∧ l = m ++ l') ∨ (ok = false ∧ ∀ r, l ≠ m ++ r)) ∧ w' = w

set_option maxRecDepth 100000 in
set_option maxHeartbeats 1600000 in
theorem cutp_any (a b : Value) (l m : List UInt8) (w : World) (ha : HB w a l) (hb : HB w b m) : Calls Tryz.prog 11 #[a, b] w (CutTold l m w) := by
  obtain ⟨p, c, rfl⟩ := ha.shape
  obtain ⟨q, d, rfl⟩ := hb.shape
  have hP := prefix_any _ _ l m w ha hb
  by_cases hB : (decide (m.length ≤ l.length) && (l.take m.length == m)) = true
  · rw [hB] at hP
    have hm : m.length ≤ l.length := by simp at hB; exact hB.1
    have hc := ha.behind m.length hm
    have kc : ∀ w', (Instr.slice 27 (.slice p l.length c) (some (.int .i64 (m.length : Int))) none none).run Tryz.prog w' = .ok (.slice (cutP p c m.length) (l.length - m.length) (c - m.length)) w' := fun w' => run_cut (P := Tryz.prog) Tryz.underlying27 s_u8 p l.length c m.length (m.length : Int) rfl hm w'
    obtain ⟨L, hL⟩ : ∃ L, L = l.drop m.length := ⟨_, rfl⟩
    have hl : l.length - m.length = L.length := by rw [hL]; simp
    have HL : Hid (l = m ++ L) := by
      show l = m ++ L
      simp only [Bool.and_eq_true, decide_eq_true_eq, beq_iff_eq] at hB
      rw [hL]
      conv => lhs; rw [← List.take_append_drop m.length l, hB.2]
    rw [← hL, hl] at hc
    rw [hl] at kc
    have hle : L.length ≤ l.length := by omega
    clear hB hL hl
    go_enter Tryz.func11, Tryz.ntmps11
    go_wp2_with (go_at_call 31; refine hP.mono ?_; rintro e w1 ⟨rfl, rfl⟩)
    go_ret2
    exact ⟨_, _, L, true, rfl, hc, hle, .inl ⟨rfl, HL.out⟩, rfl⟩
  · have HL : Hid (∀ r, l ≠ m ++ r) := by
      intro r e
      apply hB
      subst e
      simp
    rw [Bool.eq_false_iff.2 hB] at hP
    clear hB
    go_enter Tryz.func11, Tryz.ntmps11
    go_wp2_with (go_at_call 31; refine hP.mono ?_; rintro e w1 ⟨rfl, rfl⟩)
    go_ret2
    exact ⟨_, _, l, false, rfl, ha, Nat.le_refl _, .inr ⟨rfl, HL.out⟩, rfl⟩

/-- The entry that bytes are. -/
def lrOk (mi mk : Int) (l : List UInt8) (t : Nat) (bs : List (List UInt8 × List UInt8)) : Prop :=
  ∃ L rst, l = [69] ++ L ∧ uintF L 1125899906842624 = (0, t, rst) ∧ crS mi mk rst = (bs, [], 0) ∧ ChkIs mi mk bs 0

/-- What Read answers. -/
def LrTold (mi mk : Int) (l : List UInt8) (w : World) (x : Ending) (w' : World) : Prop :=
  (∃ (t : Nat) (bs : List (List UInt8 × List UInt8)) (p : Option Addr) (c : Nat), lrOk mi mk l t bs ∧ x = .returned (.tuple #[.agg #[.int .i64 (t : Int), .slice p bs.length c], .int .i64 0]) ∧ BA w' (.slice p bs.length c) bs ∧ Below w.heap.size w w') ∨
  ((∀ t bs, ¬ lrOk mi mk l t bs) ∧ x = .returned (.tuple #[.agg #[.int .i64 0, .slice none 0 0], .int .i64 90]) ∧ Below w.heap.size w w')

/-- What Read answers, of its form. -/
def RdEnt (w : World) (x : Ending) (w' : World) : Prop :=
  ∃ (t : Int) (p : Option Addr) (n c : Nat) (e : Int), x = .returned (.tuple #[.agg #[.int .i64 t, .slice p n c], .int .i64 e]) ∧ Below w.heap.size w w'

theorem HB.onlyE {w w' : World} {b : Nat} {t : Int} {p : Option Addr} {n c : Nat} {T : TypeId} {fr : Nat × Nat} {v : Value} {l : List UInt8} (h : HB w v l) (g : w.heap[b]? = some (.cells #[.int .i64 t, .slice p n c] T fr)) (ho : Only b w w') : HB w' v l := by
  by_cases hl : l = []
  · subst hl
    obtain ⟨q, d, e, h1, h2, h3, _⟩ := h
    exact ⟨q, d, e, h1, h2, h3, fun h => absurd rfl h⟩
  · refine h.only (fun a m d e hb => ?_) ho
    subst hb
    obtain ⟨q, d', rfl⟩ := h.shape
    obtain ⟨bl, o, e1, hc⟩ := h.addr (List.length_pos_iff.2 hl)
    simp only [Value.slice.injEq] at e
    obtain ⟨rfl, _, _⟩ := e
    simp only [Option.some.injEq] at e1
    subst e1
    obtain ⟨x, hx⟩ : ∃ x, l[0]? = some x := ⟨_, List.getElem?_eq_getElem (List.length_pos_iff.2 hl)⟩
    have h0 := hc 0 x hx
    rw [cell_of_row _ _ _ _ _ _ g] at h0
    rcases Nat.lt_or_ge (o + 0) 2 with h2 | h2
    · have : o + 0 = 0 ∨ o + 0 = 1 := by omega
      rcases this with e | e <;> (rw [e] at h0; simp [bc] at h0)
    · rw [Array.getElem?_eq_none (by simpa using h2)] at h0
      cases h0

theorem BA.onlyE {w w' : World} {b : Nat} {t : Int} {p : Option Addr} {n c : Nat} {T : TypeId} {fr : Nat × Nat} {v : Value} {bs : List (List UInt8 × List UInt8)} (h : BA w v bs) (g : w.heap[b]? = some (.cells #[.int .i64 t, .slice p n c] T fr)) (ho : Only b w w') : BA w' v bs := by
  obtain ⟨q, cap, e, h1, h2, h3⟩ := h
  refine ⟨q, cap, e, h1, h2, fun hn => ?_⟩
  obtain ⟨bl, o, e1, e2⟩ := h3 hn
  have hne : bl ≠ b := by
    rintro rfl
    obtain ⟨x, hx⟩ : ∃ x, bs[0]? = some x := ⟨_, List.getElem?_eq_getElem (List.length_pos_iff.2 hn)⟩
    obtain ⟨_, _, _, _, q1, q2, _⟩ := e2 0 x hx
    rw [cell_of_row _ _ _ _ _ _ g] at q1 q2
    rcases Nat.lt_or_ge o 1 with h2 | h2
    · have : o = 0 := by omega
      subst this
      simp at q1
    · rw [Array.getElem?_eq_none (by simp; omega)] at q2
      cases q2
  refine ⟨bl, o, e1, fun k x hx => ?_⟩
  obtain ⟨q', c', r, d, q1, q2, q3, q4⟩ := e2 k x hx
  have hb := ho.block bl hne (cell_lt q1)
  exact ⟨q', c', r, d, by rw [World.cell?_of_block hb]; exact q1, by rw [World.cell?_of_block hb]; exact q2, q3.onlyE g ho, q4.onlyE g ho⟩

theorem ent_cells {w : World} {b : Nat} {t : Int} {u : Value} (g : w.heap[b]? = some (.cells #[.int .i64 t, u] 26 (0, 0))) : w.cell? ⟨b, 0, none⟩ = some (.int .i64 t) ∧ w.cell? ⟨b, 1, none⟩ = some u ∧ w.frozen? ⟨b, 0, none⟩ = false ∧ w.frozen? ⟨b, 1, none⟩ = false :=
  ⟨by rw [cell_of_row _ _ _ _ _ _ g]; rfl, by rw [cell_of_row _ _ _ _ _ _ g]; rfl, by simp [World.frozen?, g], by simp [World.frozen?, g]⟩

set_option maxRecDepth 100000 in
set_option maxHeartbeats 8000000 in
theorem lread_any (s h mi mk ch ar ca pg : Int) (v : Value) (l : List UInt8) (w : World) (hv : HB w v l) (hsz : l.length ≤ 4000000) :
    Calls Tryz.prog 4 #[.agg #[.int .i64 s, .int .i64 h, .int .i64 mi, .int .i64 mk, .int .i64 ch, .int .i64 ar, .int .i64 ca, .int .i64 pg], v] w (LrTold mi mk l w) := by
  obtain ⟨p, c, rfl⟩ := hv.shape
  have b0 := (Below.refl w.heap.size w).alloc (Nat.le_refl _) (.cells #[.int .i64 s, .int .i64 h, .int .i64 mi, .int .i64 mk, .int .i64 ch, .int .i64 ar, .int .i64 ca, .int .i64 pg] 23)
  have g0 := heap_alloc_new w (.cells #[.int .i64 s, .int .i64 h, .int .i64 mi, .int .i64 mk, .int .i64 ch, .int .i64 ar, .int .i64 ca, .int .i64 pg] 23)
  obtain ⟨V, hV⟩ : ∃ V, w.alloc (.cells #[.int .i64 s, .int .i64 h, .int .i64 mi, .int .i64 mk, .int .i64 ch, .int .i64 ar, .int .i64 ca, .int .i64 pg] 23) = V := ⟨_, rfl⟩
  rw [hV] at b0 g0
  have sV : V.heap.size = w.heap.size + 1 := by rw [← hV]; simp
  have b1 := (Below.refl V.heap.size V).alloc (Nat.le_refl _) (.cells #[.int .i64 0, .slice none 0 0] 26)
  have g1 := heap_alloc_new V (.cells #[.int .i64 0, .slice none 0 0] 26)
  obtain ⟨R, hR⟩ : ∃ R, V.alloc (.cells #[.int .i64 0, .slice none 0 0] 26) = R := ⟨_, rfl⟩
  rw [hR] at b1 g1
  have sR : R.heap.size = w.heap.size + 2 := by rw [← hR]; simp [sV]
  have bL := (Below.refl _ R).alloc (Nat.le_refl _) (.cells #[.int .u8 69] 5 (1, 2))
  have hlit := HB.litF R 5 [69] #[.int .u8 69] 1 (1, 2) rfl rfl (by unfold maxLen; omega)
  have kc := Lib.run_convert_bytes_const (P := Tryz.prog) R 27 5 #[.int .u8 69] 1 1 Tryz.underlying27 Tryz.underlying5
  rw [show (#[Value.int .u8 69] : Array Value).size = 1 from rfl] at kc
  obtain ⟨U, hU⟩ : ∃ U, R.alloc (.cells #[.int .u8 69] 5 (1, 2)) = U := ⟨_, rfl⟩
  rw [hU] at bL hlit kc
  have sU : w.heap.size + 2 ≤ U.heap.size := by have := bL.size; omega
  have bRU := b1.trans (bL.mono b1.size)
  have bU := b0.trans (bRU.mono b0.size)
  have gP := (bRU.block _ (by omega)).trans g0
  have gE := (bL.block _ (by omega)).trans g1
  have hCP := cutp_any _ _ l [69] U (hv.later bU) hlit
  rw [sR] at hCP kc
  rw [sV] at gE
  clear hlit g0 g1 hv b0 b1 bRU bL
  go_enter Tryz.func4, Tryz.ntmps4
  go_wp2_with fail
  refine hCP.mono ?_
  rintro e w1 ⟨q, d, L, ok, rfl, hL, hLl, hok, hw1⟩
  subst hw1
  have hO := open_any _ L w1 hL (by omega)
  clear hCP kc
  go_wp2_with fail
  refine hO.mono ?_
  rintro e w2 ⟨g, hg, rfl, r2, b2⟩
  have hUi := uint_any g L 1125899906842624 w2 r2
  have hle := uintF_le L 1125899906842624
  have hbk := uintF_back L 1125899906842624
  unfold UintSaid at hUi
  obtain ⟨er, n, rst, hU3⟩ : ∃ er n rst, uintF L 1125899906842624 = (er, n, rst) := ⟨_, _, _, rfl⟩
  rw [hU3] at hUi hle hbk
  dsimp only at hUi hle hbk
  have HU : Hid (uintF L 1125899906842624 = (er, n, rst)) := hU3
  have Hbk : Hid (er = 0 → L = numL n ++ rst ∧ n ≤ 4611686018427387904 ∧ (n : Int) ≤ 1125899906842624) := hbk
  clear hU3 hbk
  clear hO r2
  go_wp2_with fail
  refine hUi.mono ?_
  rintro e w3 ⟨rfl, r3, o3⟩
  have b3 : Below w1.heap.size w1 w3 := b2.trans ((o3.below hg).mono (Nat.le_refl _))
  have gP3 := (b3.block _ (Array.getElem?_eq_some_iff.1 gP).1).trans gP
  have gE3 := (b3.block _ (Array.getElem?_eq_some_iff.1 gE).1).trans gE
  obtain ⟨z0, z1, y0, y1⟩ := ent_cells gE3
  have bw3 := bU.trans (b3.mono bU.size)
  have onf : ∀ W : World, Only (w.heap.size + 1) W ((W.setCell ⟨w.heap.size + 1, 0, none⟩ (.int .i64 0)).setCell ⟨w.heap.size + 1, 1, none⟩ (.slice none 0 0)) := fun W => ((Only.refl _ W).setCell 0 _).setCell 1 _
  have bF := bw3.trans ((onf w3).below (B := w.heap.size) (by omega))
  have hE := rr_err g rst er w3 r3
  clear hUi o3 b2 gP gE
  cases ok with
  | false =>
    go_wp2
    refine bodyPost_ret (v := .tuple #[.agg #[.int .i64 0, .slice none 0 0], .int .i64 90]) ?_ rfl ?_
    · simp only [results, Tryz.results4]
      go_simp
    · refine .inr ⟨?_, rfl, bF⟩
      rintro t bs ⟨L', rst', hl, _⟩
      rcases hok.out with ⟨h, _⟩ | ⟨_, h⟩
      · cases h
      · exact h _ hl
  | true =>
    have HLL : Hid (l = [69] ++ L) := by
      rcases hok.out with ⟨_, h⟩ | ⟨h, _⟩
      · exact h
      · cases h
    clear hok
    by_cases he : er = 0
    · subst he
      have hb3 := (Below.refl w3.heap.size w3).drew
      have hLf := rr_left g rst 0 w3.drew (r3.later hb3)
      have hL3 := (hL.later b3).later hb3
      have hcut := hL3.behind (L.length - rst.length) (by omega)
      have hq : L.length - (L.length - rst.length) = rst.length := by omega
      have kc : ∀ w', (Instr.slice 27 (.slice q L.length d) (some (.int .i64 ((L.length : Int) - (rst.length : Int)))) none none).run Tryz.prog w' = .ok (.slice (cutP q d (L.length - rst.length)) (L.length - (L.length - rst.length)) (d - (L.length - rst.length))) w' := fun w' => run_cut (P := Tryz.prog) Tryz.underlying27 s_u8 q L.length d (L.length - rst.length) ((L.length : Int) - (rst.length : Int)) (by omega) (by omega) w'
      have hwk : IntKind.i64.wrap ((L.length : Int) - (rst.length : Int)) = (L.length : Int) - (rst.length : Int) := wrapZ _ (by omega) (by omega)
      obtain ⟨hLn, hn1, hn2⟩ := Hbk.out rfl
      have hM : L.drop (L.length - rst.length) = rst := by
        have e : L.length - rst.length = (numL n).length := by rw [hLn]; simp
        rw [e, hLn]
        simp
      have HN2 : Hid ((n : Int) ≤ 1125899906842624) := hn2
      rw [hM, hq] at hcut
      rw [hq] at kc
      have hRd := cread_any s h mi mk ch ar ca pg _ rst w3.drew hcut (by omega)
      obtain ⟨bs, rr, ec, hC3⟩ : ∃ bs rr ec, crS mi mk rst = (bs, rr, ec) := ⟨_, _, _, rfl⟩
      rw [hC3] at hRd
      dsimp only at hRd
      have HCr : Hid (crS mi mk rst = (bs, rr, ec)) := hC3
      have HNo : Hid (∀ t bs', lrOk mi mk l t bs' → t = n ∧ bs' = bs ∧ rr = [] ∧ ec = 0 ∧ ChkIs mi mk bs 0) := by
        rintro t bs' ⟨L', rst', h1, h2, h3, h4⟩
        have e1 := HLL.out.symm.trans h1
        rw [List.append_cancel_left_eq] at e1
        subst e1
        rw [HU.out] at h2
        simp only [Prod.mk.injEq, true_and] at h2
        obtain ⟨rfl, rfl⟩ := h2
        rw [HCr.out] at h3
        simp only [Prod.mk.injEq] at h3
        obtain ⟨rfl, rfl, rfl⟩ := h3
        exact ⟨rfl, rfl, rfl, rfl, h4⟩
      have HYes : Hid (rr = [] → ec = 0 → ChkIs mi mk bs 0 → lrOk mi mk l n bs) := by
        rintro rfl rfl h4
        exact ⟨L, rst, HLL.out, HU.out, HCr.out, h4⟩
      clear hC3 hLn hn1 hn2 HCr HU HLL Hbk
      obtain ⟨qc, hqc⟩ : ∃ qc, cutP q d (L.length - rst.length) = qc := ⟨_, rfl⟩
      obtain ⟨dc, hdc⟩ : ∃ dc, d - (L.length - rst.length) = dc := ⟨_, rfl⟩
      rw [hqc, hdc] at kc hRd
      obtain ⟨LR, hLR⟩ : ∃ LR : Int, (L.length : Int) - (rst.length : Int) = LR := ⟨_, rfl⟩
      rw [hLR] at kc hwk
      have hP3 := par_cells ((hb3.block _ (Array.getElem?_eq_some_iff.1 gP3).1).trans gP3)
      have hHeld := hP3
      clear hM hq hqc hdc hcut hL3 hL hLl hle r3
      go_wp2_with (go_at_call 14; refine hE.mono ?_; rintro e w4 ⟨rfl, hw4⟩; subst hw4)
      refine wp_region_heldN (by kernel_rfl) (fun w' => w'.cell? ⟨w.heap.size, 0, none⟩ = some (.int .i64 s) ∧ w'.cell? ⟨w.heap.size, 1, none⟩ = some (.int .i64 h) ∧ w'.cell? ⟨w.heap.size, 2, none⟩ = some (.int .i64 mi) ∧ w'.cell? ⟨w.heap.size, 3, none⟩ = some (.int .i64 mk) ∧ w'.cell? ⟨w.heap.size, 4, none⟩ = some (.int .i64 ch) ∧ w'.cell? ⟨w.heap.size, 5, none⟩ = some (.int .i64 ar) ∧ w'.cell? ⟨w.heap.size, 6, none⟩ = some (.int .i64 ca) ∧ w'.cell? ⟨w.heap.size, 7, none⟩ = some (.int .i64 pg)) 16 rfl ?_
      refine tkY 0 ⟨some 34, .load 23 (.tmp 2), 23, "ledger.go:161", #[], none⟩ ?v0z1 hHeld ?y0z1 ?r0z1
      case y0z1 => (intro w hSw; (try dsimp only at hSw); go_simp) <;> with_reducible rfl
      try simp only [Act.put, List.setIfInBounds_toArray, List.set_cons_zero, List.set_cons_succ]
      refine tkY 1 ⟨some 35, .move (.tmp 6), 27, "ledger.go:161", #[], none⟩ ?v1z2 hHeld ?y1z2 ?r1z2
      case y1z2 => (intro w hSw; (try dsimp only at hSw); go_simp) <;> with_reducible rfl
      try simp only [Act.put, List.setIfInBounds_toArray, List.set_cons_zero, List.set_cons_succ]
      refine tkY 2 ⟨some 36, .move (.tmp 6), 27, "ledger.go:161", #[], none⟩ ?v2z3 hHeld ?y2z3 ?r2z3
      case y2z3 => (intro w hSw; (try dsimp only at hSw); go_simp) <;> with_reducible rfl
      try simp only [Act.put, List.setIfInBounds_toArray, List.set_cons_zero, List.set_cons_succ]
      refine tkY 3 ⟨some 37, .call { callee := .builtin .len, args := #[.tmp 36], argTypes := #[27] }, 3, "ledger.go:161", #[⟨2, .data⟩], none⟩ ?v3z4 hHeld ?y3z4 ?r3z4
      case y3z4 => (intro w hSw; (try dsimp only at hSw); go_simp) <;> with_reducible rfl
      try simp only [Act.put, List.setIfInBounds_toArray, List.set_cons_zero, List.set_cons_succ]
      refine tkY 4 ⟨some 38, .move (.tmp 8), 39, "ledger.go:161", #[], none⟩ ?v4z5 hHeld ?y4z5 ?r4z5
      case y4z5 => (intro w hSw; (try dsimp only at hSw); go_simp) <;> with_reducible rfl
      try simp only [Act.put, List.setIfInBounds_toArray, List.set_cons_zero, List.set_cons_succ]
      refine wpAnyH_ready (rs := [5]) (by kernel_rfl) (by simp) ?_
      refine AllReadyH.cons (o := ⟨some 39, .call { callee := .value (.func 16), args := #[.tmp 38], argTypes := #[39] }, 3, "ledger.go:161", #[⟨4, .data⟩], none⟩) rfl (fun K hK => ?_) AllReadyH.nil
      go_simp
      refine hLf.mono ?_
      rintro e w5 ⟨rfl, hw5⟩
      subst hw5
      refine hK.out _ _ ?_ (fun _ => ?_)
      · exact hHeld
      clear hK K
      try simp only [Act.put, List.setIfInBounds_toArray, List.set_cons_zero, List.set_cons_succ]
      refine tkY 6 ⟨some 40, .binOp .sub 3 (.tmp 37) (.tmp 39) 3, 3, "ledger.go:161", #[⟨3, .data⟩, ⟨5, .data⟩], none⟩ ?v6z6 hHeld ?y6z6 ?r6z6
      case y6z6 => (intro w hSw; (try dsimp only at hSw); go_simp) <;> with_reducible rfl
      try simp only [Act.put, List.setIfInBounds_toArray, List.set_cons_zero, List.set_cons_succ]
      refine tkY 7 ⟨some 41, .slice 27 (.tmp 35) (some (.tmp 40)) none none, 27, "ledger.go:161", #[⟨1, .data⟩, ⟨6, .data⟩], none⟩ ?v7z7 hHeld ?y7z7 ?r7z7
      case y7z7 => (intro w hSw; (try dsimp only at hSw); go_simp) <;> with_reducible rfl
      try simp only [Act.put, List.setIfInBounds_toArray, List.set_cons_zero, List.set_cons_succ]
      refine wpAnyH_ready (rs := [8]) (by kernel_rfl) (by simp) ?_
      refine AllReadyH.cons (o := ⟨some 42, .call { callee := .value (.func 15), args := #[.tmp 34, .tmp 41], argTypes := #[23, 27] }, 43, "ledger.go:161", #[⟨0, .data⟩, ⟨7, .data⟩, ⟨5, .chain⟩], none⟩) rfl (fun K hK => ?_) AllReadyH.nil
      go_simp
      refine hRd.mono ?_
      rintro e w6 ⟨u, v6, rfl, hu, hv6, b6⟩
      have gP6 := (b6.block _ (by simp; exact (Array.getElem?_eq_some_iff.1 gP3).1)).trans ((hb3.block _ (Array.getElem?_eq_some_iff.1 gP3).1).trans gP3)
      replace hHeld := par_cells gP6
      refine hK.out _ _ ?_ (fun _ => ?_)
      · exact hHeld
      clear hK K
      try simp only [Act.put, List.setIfInBounds_toArray, List.set_cons_zero, List.set_cons_succ]
      refine tkY 9 ⟨some 33, .move (.tmp 42), 43, "ledger.go:161", #[⟨8, .data⟩], none⟩ ?v9z8 hHeld ?y9z8 ?r9z8
      case y9z8 => (intro w hSw; (try dsimp only at hSw); go_simp) <;> with_reducible rfl
      try simp only [Act.put, List.setIfInBounds_toArray, List.set_cons_zero, List.set_cons_succ]
      refine tkY 10 ⟨some 43, .extract (.tmp 33) 0, 24, "ledger.go:161", #[⟨9, .data⟩], none⟩ ?v10z9 hHeld ?y10z9 ?r10z9
      case y10z9 => (intro w hSw; (try dsimp only at hSw); go_simp) <;> with_reducible rfl
      try simp only [Act.put, List.setIfInBounds_toArray, List.set_cons_zero, List.set_cons_succ]
      refine tkY 11 ⟨some 44, .extract (.tmp 33) 1, 27, "ledger.go:161", #[⟨9, .data⟩, { on := 13, ground := .gcOnly .lateStores }], none⟩ ?v11z10 hHeld ?y11z10 ?r11z10
      case y11z10 => (intro w hSw; (try dsimp only at hSw); go_simp) <;> with_reducible rfl
      try simp only [Act.put, List.setIfInBounds_toArray, List.set_cons_zero, List.set_cons_succ]
      refine tkY 12 ⟨some 45, .extract (.tmp 33) 2, 28, "ledger.go:161", #[⟨9, .data⟩, { on := 14, ground := .gcOnly .lateStores }], none⟩ ?v12z11 hHeld ?y12z11 ?r12z11
      case y12z11 => (intro w hSw; (try dsimp only at hSw); go_simp) <;> with_reducible rfl
      try simp only [Act.put, List.setIfInBounds_toArray, List.set_cons_zero, List.set_cons_succ]
      refine tkY 13 ⟨some 10, .assign (.tmp 43), 24, "ledger.go:161", #[⟨10, .data⟩, ⟨8, .chain⟩, ⟨0, .phase⟩, ⟨1, .phase⟩, ⟨2, .phase⟩, ⟨3, .phase⟩, ⟨4, .phase⟩, ⟨5, .phase⟩, ⟨6, .phase⟩, ⟨7, .phase⟩, ⟨8, .phase⟩, ⟨9, .phase⟩, ⟨10, .phase⟩, { on := 11, ground := .textOnly .lateStores }, { on := 12, ground := .textOnly .lateStores }], none⟩ ?v13z12 hHeld ?y13z12 ?r13z12
      case y13z12 => (intro w hSw; (try dsimp only at hSw); go_simp) <;> with_reducible rfl
      try simp only [Act.put, List.setIfInBounds_toArray, List.set_cons_zero, List.set_cons_succ]
      refine tkY 14 ⟨some 11, .assign (.tmp 44), 27, "ledger.go:161", #[⟨11, .data⟩, ⟨13, .chain⟩, ⟨0, .phase⟩, ⟨1, .phase⟩, ⟨2, .phase⟩, ⟨3, .phase⟩, ⟨4, .phase⟩, ⟨5, .phase⟩, ⟨6, .phase⟩, ⟨7, .phase⟩, ⟨8, .phase⟩, ⟨9, .phase⟩, ⟨10, .phase⟩, ⟨11, .phase⟩, { on := 12, ground := .textOnly .lateStores }, ⟨13, .phase⟩], none⟩ ?v14z13 hHeld ?y14z13 ?r14z13
      case y14z13 => (intro w hSw; (try dsimp only at hSw); go_simp) <;> with_reducible rfl
      try simp only [Act.put, List.setIfInBounds_toArray, List.set_cons_zero, List.set_cons_succ]
      refine tkY 15 ⟨some 12, .assign (.tmp 45), 28, "ledger.go:161", #[⟨12, .data⟩, ⟨14, .chain⟩, ⟨0, .phase⟩, ⟨1, .phase⟩, ⟨2, .phase⟩, ⟨3, .phase⟩, ⟨4, .phase⟩, ⟨5, .phase⟩, ⟨6, .phase⟩, ⟨7, .phase⟩, ⟨8, .phase⟩, ⟨9, .phase⟩, ⟨10, .phase⟩, ⟨11, .phase⟩, ⟨12, .phase⟩, ⟨13, .phase⟩, ⟨14, .phase⟩], none⟩ ?v15z14 hHeld ?y15z14 ?r15z14
      case y15z14 => (intro w hSw; (try dsimp only at hSw); go_simp) <;> with_reducible rfl
      try simp only [Act.put, List.setIfInBounds_toArray, List.set_cons_zero, List.set_cons_succ]
      refine wpAnyH_done (by kernel_rfl) ?_ _
      have b36 := hb3.trans (b6.mono hb3.size)
      have gE6 := (b36.block _ (Array.getElem?_eq_some_iff.1 gE3).1).trans gE3
      have bw6 := bw3.trans (b36.mono bw3.size)
      obtain ⟨bq, hbq⟩ : ∃ bq, bq = (if ec = 0 then bs else []) := ⟨_, rfl⟩
      obtain ⟨rq, hrq0⟩ : ∃ rq, rq = (if ec = 0 then rr else []) := ⟨_, rfl⟩
      rw [← hbq] at hu
      rw [← hrq0] at hv6
      have HBQ : Hid (ec = 0 → bq = bs ∧ rq = rr) := fun h => by rw [hbq, hrq0, if_pos h, if_pos h]; exact ⟨rfl, rfl⟩
      obtain ⟨pu, cu, hpu⟩ := hu.shape
      obtain ⟨pv, cv, hpv⟩ := hv6.shape
      subst hpu hpv
      clear hbq hrq0
      have bN := (Below.refl _ w6).alloc (Nat.le_refl _) (.cells #[.int .i64 (n : Int), .slice pu bq.length cu] 26)
      have gN := heap_alloc_new w6 (.cells #[.int .i64 (n : Int), .slice pu bq.length cu] 26)
      obtain ⟨N, hN⟩ : ∃ N, w6.alloc (.cells #[.int .i64 (n : Int), .slice pu bq.length cu] 26) = N := ⟨_, rfl⟩
      rw [hN] at bN gN
      have gPN := (bN.block _ (Array.getElem?_eq_some_iff.1 gP6).1).trans gP6
      have gEN := (bN.block _ (Array.getElem?_eq_some_iff.1 gE6).1).trans gE6
      obtain ⟨k0, k1, k2, k3, k4, k5, k6, k7⟩ := par_cells gPN
      obtain ⟨z0, z1, y0, y1⟩ := ent_cells gEN
      obtain ⟨x0, x1, _, _⟩ := ent_cells gN
      have huN := hu.later bN
      have hMy := lmay_any s h mi mk ch ar ca pg (n : Int) _ bq N (hu.later bN)
      have bwN := bw6.trans (bN.mono bw6.size)
      have bFN := bwN.trans ((onf N).below (B := w.heap.size) (by omega))
      clear hLf hRd kc hwk hLR gP3 gP6 gE3 gE6 hE b36 b6 hu hv6 hHeld hP3
      by_cases hec : ec = 0
      · subst hec
        by_cases hrq : rq = []
        · subst hrq
          go_wp2_with (go_at_call 17; refine hMy.mono ?_; rintro e w7 ⟨bb, rfl, hbb, b7⟩; have HBB : Hid _ := hbb; clear hbb; have gE7 := (b7.block _ (Array.getElem?_eq_some_iff.1 gEN).1).trans gEN; have gN7 := (b7.block _ (Array.getElem?_eq_some_iff.1 gN).1).trans gN; obtain ⟨z0', z1', y0', y1'⟩ := ent_cells gE7; obtain ⟨x0', x1', _, _⟩ := ent_cells gN7; have bw7 := bwN.trans (b7.mono bwN.size); cases bb)
          · refine bodyPost_ret (v := .tuple #[.agg #[.int .i64 0, .slice none 0 0], .int .i64 90]) ?_ rfl ?_
            · simp only [results, Tryz.results4]
              go_simp
            · refine .inr ⟨fun t bs' h => ?_, rfl, bw7.trans ((onf w7).below (B := w.heap.size) (by omega))⟩
              obtain ⟨_, _, _, _, h4⟩ := HNo.out t bs' h
              have := HBB.out.2 ⟨by omega, HN2.out, by rw [(HBQ.out (by trivial)).1]; exact h4⟩
              cases this
          · refine bodyPost_ret (v := .tuple #[.agg #[.int .i64 (n : Int), .slice pu bq.length cu], .int .i64 0]) ?_ rfl ?_
            · simp only [results, Tryz.results4]
              go_simp
            · have onE : Only (w.heap.size + 1) w7 ((w7.setCell ⟨w.heap.size + 1, 0, none⟩ (.int .i64 (n : Int))).setCell ⟨w.heap.size + 1, 1, none⟩ (.slice pu bq.length cu)) := ((Only.refl (w.heap.size + 1) w7).setCell 0 _).setCell 1 _
              have hq1 := (HBQ.out (by trivial)).1
              have hq2 := (HBQ.out (by trivial)).2
              subst hq1
              refine .inl ⟨n, bq, pu, cu, HYes.out hq2.symm (by trivial) (HBB.out.1 (by trivial)).2.2, rfl, (huN.later b7).onlyE gE7 onE, bw7.trans (onE.below (B := w.heap.size) (by omega))⟩
        · have hrq1 : 0 < rq.length := List.length_pos_iff.2 hrq
          have hrq2 : (0 : Int) < (rq.length : Int) := by omega
          go_wp2
          refine bodyPost_ret (v := .tuple #[.agg #[.int .i64 0, .slice none 0 0], .int .i64 90]) ?_ rfl ?_
          · simp only [results, Tryz.results4]
            go_simp
          · refine .inr ⟨fun t bs' h => ?_, rfl, bFN⟩
            obtain ⟨_, _, h3, _, _⟩ := HNo.out t bs' h
            rw [(HBQ.out (by trivial)).2] at hrq
            exact hrq h3
      · have hec' : (ec != 0) = true := by simpa using hec
        go_wp2
        refine bodyPost_ret (v := .tuple #[.agg #[.int .i64 0, .slice none 0 0], .int .i64 90]) ?_ rfl ?_
        · simp only [results, Tryz.results4]
          go_simp
        · refine .inr ⟨fun t bs' h => ?_, rfl, bFN⟩
          obtain ⟨_, _, _, h3, _⟩ := HNo.out t bs' h
          exact hec h3
    · have he' : (er != 0) = true := by simpa using he
      go_wp2_with (go_at_call 14; refine hE.mono ?_; rintro e w4 ⟨rfl, hw4⟩; subst hw4)
      refine bodyPost_ret (v := .tuple #[.agg #[.int .i64 0, .slice none 0 0], .int .i64 90]) ?_ rfl ?_
      · simp only [results, Tryz.results4]
        go_simp
      · refine .inr ⟨?_, rfl, bF⟩
        rintro t bs ⟨L', rst', h1, h2, _⟩
        have e1 := HLL.out.symm.trans h1
        rw [List.append_cancel_left_eq] at e1
        subst e1
        rw [HU.out] at h2
        simp only [Prod.mk.injEq] at h2
        exact he h2.1

theorem lread_ent (s h mi mk ch ar ca pg : Int) (v : Value) (l : List UInt8) (w : World) (hv : HB w v l) (hsz : l.length ≤ 4000000) :
    Calls Tryz.prog 4 #[.agg #[.int .i64 s, .int .i64 h, .int .i64 mi, .int .i64 mk, .int .i64 ch, .int .i64 ar, .int .i64 ca, .int .i64 pg], v] w (RdEnt w) := by
  refine (lread_any s h mi mk ch ar ca pg v l w hv hsz).mono ?_
  rintro x w' (⟨t, bs, p, c, _, e, _, hb⟩ | ⟨_, e, hb⟩)
  · exact ⟨_, _, _, _, _, e, hb⟩
  · exact ⟨_, _, _, _, _, e, hb⟩

end Go.Proofs.YtcdikkgkjjopmaaGreatDoor
