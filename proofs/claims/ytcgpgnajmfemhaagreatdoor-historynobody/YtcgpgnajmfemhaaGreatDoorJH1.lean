/- What this text proves: the calls of a directory that no call made, over this program: each answers nothing, or ErrNil. What this text holds: a directory in memory, and what stays of it (plain facts), and the walks of missing and Epoch over this program. What this text proves: the walk of history.grow of the first batch over this program. (By program: mkhylinks.py.) -/
import Derived.Test.YtcgpgnajmfemhaaGreatDoorJOw
import Derived.Test.YtcgpgnajmfemhaaGreatDoorJQ2
import Derived.Test.YtcgpgnajmfemhaaGreatDoorJG2
namespace Go.Proofs.YtcgpgnajmfemhaaGreatDoor
open Go.RowKit

/-- No call made this directory. -/
def GoneH (q : Option Addr) (W : World) : Prop := Calls Tryz.prog 21 #[.pointer q] W fun e w' => e = .returned (.bool true) ∧ w' = W

theorem hgone_nil (W : World) : GoneH none W := by
  unfold GoneH
  go_enter Tryz.func21, Tryz.ntmps21
  go_wp2
  go_ret
  exact ⟨rfl, rfl⟩

theorem hgone_zero (W : World) (g : Nat) (h : W.cell? ⟨g, 8, none⟩ = some (.pointer none)) : GoneH (some ⟨g, 0, none⟩) W := by
  unfold GoneH
  go_enter Tryz.func21, Tryz.ntmps21
  go_wp2
  go_ret
  exact ⟨rfl, rfl⟩

theorem hhas_gone (q : Option Addr) (n : Int) (W : World) (h : GoneH q W) : Calls Tryz.prog 26 #[.pointer q, .int .i64 n] W fun e w' => e = .returned (.bool false) ∧ w' = W := by
  unfold GoneH at h
  go_enter Tryz.func26, Tryz.ntmps26
  go_wp2_with (go_at_call 21; refine h.mono ?_; rintro e w1 ⟨rfl, hw⟩; subst hw)
  go_ret
  exact ⟨rfl, rfl⟩

theorem hepoch_gone (q : Option Addr) (W : World) (h : GoneH q W) : Calls Tryz.prog 6 #[.pointer q] W fun e w' => e = .returned (.int .i64 0) ∧ w' = W := by
  unfold GoneH at h
  go_enter Tryz.func6, Tryz.ntmps6
  go_wp2_with (go_at_call 21; refine h.mono ?_; rintro e w1 ⟨rfl, hw⟩; subst hw)
  go_ret
  exact ⟨rfl, rfl⟩

theorem hchanges_gone (q : Option Addr) (W : World) (h : GoneH q W) : Calls Tryz.prog 7 #[.pointer q] W fun e w' => e = .returned (.int .i64 0) ∧ w' = W := by
  unfold GoneH at h
  go_enter Tryz.func7, Tryz.ntmps7
  go_wp2_with (go_at_call 21; refine h.mono ?_; rintro e w1 ⟨rfl, hw⟩; subst hw)
  go_ret
  exact ⟨rfl, rfl⟩

theorem hnow_gone (q : Option Addr) (W : World) (h : GoneH q W) : Calls Tryz.prog 8 #[.pointer q] W fun e w' => e = .returned (.int .i64 0) ∧ w' = W := by
  unfold GoneH at h
  go_enter Tryz.func8, Tryz.ntmps8
  go_wp2_with (go_at_call 21; refine h.mono ?_; rintro e w1 ⟨rfl, hw⟩; subst hw)
  go_ret
  exact ⟨rfl, rfl⟩

theorem hparams_gone (q : Option Addr) (W : World) (h : ∀ W', Below W.heap.size W W' → GoneH q W') : Calls Tryz.prog 14 #[.pointer q] W fun e w' => e = .returned (.agg #[.int .i64 0, .int .i64 0, .int .i64 0, .int .i64 0, .int .i64 0, .int .i64 0, .int .i64 0, .int .i64 0]) ∧ Below W.heap.size W w' := by
  have bA := (Below.refl W.heap.size W).alloc (Nat.le_refl _) (.cells #[.int .i64 0, .int .i64 0, .int .i64 0, .int .i64 0, .int .i64 0, .int .i64 0, .int .i64 0, .int .i64 0] 25)
  have hA := h _ bA
  unfold GoneH at hA
  go_enter Tryz.func14, Tryz.ntmps14
  go_wp2_with (go_at_call 21; refine hA.mono ?_; rintro e w1 ⟨rfl, hw⟩; subst hw)
  refine bodyPost_ret (v := .agg #[.int .i64 0, .int .i64 0, .int .i64 0, .int .i64 0, .int .i64 0, .int .i64 0, .int .i64 0, .int .i64 0]) ?_ rfl ?_
  · simp only [results, Tryz.results14]
    go_simp
  · first | exact ⟨rfl, bA⟩ | exact ⟨rfl, bA.alloc bA.size _⟩

theorem hpublic_gone (q : Option Addr) (W : World) (h : GoneH q W) : Calls Tryz.prog 9 #[.pointer q] W fun e w' => e = .returned (.slice none 0 0) ∧ w' = W := by
  unfold GoneH at h
  go_enter Tryz.func9, Tryz.ntmps9
  go_wp2_with (go_at_call 21; refine h.mono ?_; rintro e w1 ⟨rfl, hw⟩; subst hw)
  go_ret
  exact ⟨rfl, rfl⟩

theorem htimes_gone (q : Option Addr) (W : World) (h : GoneH q W) : Calls Tryz.prog 11 #[.pointer q] W fun e w' => e = .returned (.slice none 0 0) ∧ w' = W := by
  unfold GoneH at h
  go_enter Tryz.func11, Tryz.ntmps11
  go_wp2_with (go_at_call 21; refine h.mono ?_; rintro e w1 ⟨rfl, hw⟩; subst hw)
  go_ret
  exact ⟨rfl, rfl⟩

theorem hsnaps_gone (q : Option Addr) (W : World) (h : GoneH q W) : Calls Tryz.prog 15 #[.pointer q] W fun e w' => e = .returned (.pointer none) ∧ w' = W := by
  unfold GoneH at h
  go_enter Tryz.func15, Tryz.ntmps15
  go_wp2_with (go_at_call 21; refine h.mono ?_; rintro e w1 ⟨rfl, hw⟩; subst hw)
  go_ret
  exact ⟨rfl, rfl⟩

theorem hgauge_gone (q : Option Addr) (W : World) (h : ∀ W', Below W.heap.size W W' → GoneH q W') : Calls Tryz.prog 16 #[.pointer q] W fun e w' => e = .returned (.agg #[.int .i64 0, .int .i64 0, .int .i64 0, .int .i64 0, .int .i64 0]) ∧ Below W.heap.size W w' := by
  have bA := (Below.refl W.heap.size W).alloc (Nat.le_refl _) (.cells #[.int .i64 0, .int .i64 0, .int .i64 0, .int .i64 0, .int .i64 0] 57)
  have hA := h _ bA
  unfold GoneH at hA
  go_enter Tryz.func16, Tryz.ntmps16
  go_wp2_with (go_at_call 21; refine hA.mono ?_; rintro e w1 ⟨rfl, hw⟩; subst hw)
  refine bodyPost_ret (v := .agg #[.int .i64 0, .int .i64 0, .int .i64 0, .int .i64 0, .int .i64 0]) ?_ rfl ?_
  · simp only [results, Tryz.results16]
    go_simp
  · first | exact ⟨rfl, bA⟩ | exact ⟨rfl, bA.alloc bA.size _⟩

theorem hstopped_gone (q : Option Addr) (W : World) (h : GoneH q W) : Calls Tryz.prog 17 #[.pointer q] W fun e w' => e = .returned (.bool true) ∧ w' = W := by
  unfold GoneH at h
  go_enter Tryz.func17, Tryz.ntmps17
  go_wp2_with (go_at_call 21; refine h.mono ?_; rintro e w1 ⟨rfl, hw⟩; subst hw)
  go_ret
  exact ⟨rfl, rfl⟩

theorem htick_gone (q : Option Addr) (n : Int) (W : World) (h : GoneH q W) : Calls Tryz.prog 13 #[.pointer q, .int .i64 n] W fun e w' => e = .returned (.int .i64 2) ∧ w' = W := by
  unfold GoneH at h
  go_enter Tryz.func13, Tryz.ntmps13
  go_wp2_with (go_at_call 21; refine h.mono ?_; rintro e w1 ⟨rfl, hw⟩; subst hw)
  go_ret
  exact ⟨rfl, rfl⟩

theorem hsigned_gone (q : Option Addr) (n : Int) (W : World) (h : ∀ W', Below W.heap.size W W' → GoneH q W') : Calls Tryz.prog 5 #[.pointer q, .int .i64 n] W fun e w' => e = .returned (.tuple #[.agg #[.int .i64 0, .int .i64 0, .slice none 0 0, .int .i64 0, .slice none 0 0, .slice none 0 0, .int .i64 0, .slice none 0 0, .slice none 0 0], .int .i64 2]) ∧ Below W.heap.size W w' := by
  have bA := (Below.refl W.heap.size W).alloc (Nat.le_refl _) (.cells #[.int .i64 0, .int .i64 0, .slice none 0 0, .int .i64 0, .slice none 0 0, .slice none 0 0, .int .i64 0, .slice none 0 0, .slice none 0 0] 44)
  have hA := h _ bA
  unfold GoneH at hA
  go_enter Tryz.func5, Tryz.ntmps5
  go_wp2_with (go_at_call 21; refine hA.mono ?_; rintro e w1 ⟨rfl, hw⟩; subst hw)
  refine bodyPost_ret (v := .tuple #[.agg #[.int .i64 0, .int .i64 0, .slice none 0 0, .int .i64 0, .slice none 0 0, .slice none 0 0, .int .i64 0, .slice none 0 0, .slice none 0 0], .int .i64 2]) ?_ rfl ?_
  · simp only [results, Tryz.results5]
    go_simp
  · first | exact ⟨rfl, bA⟩ | exact ⟨rfl, bA.alloc bA.size _⟩

theorem hpub_gone (q : Option Addr) (v : Value) (W : World) (h : GoneH q W) : Calls Tryz.prog 4 #[.pointer q, v] W fun e w' => e = .returned (.tuple #[.int .i64 0, .int .i64 2]) ∧ w' = W := by
  unfold GoneH at h
  go_enter Tryz.func4, Tryz.ntmps4
  go_wp2_with (go_at_call 21; refine h.mono ?_; rintro e w1 ⟨rfl, hw⟩; subst hw)
  go_ret2
  exact ⟨rfl, rfl⟩

theorem hbatch_gone (q : Option Addr) (n : Int) (W : World) (h : GoneH q W) : Calls Tryz.prog 10 #[.pointer q, .int .i64 n] W fun e w' => e = .returned (.slice none 0 0) ∧ w' = W := by
  have hH := hhas_gone q n W h
  clear h
  go_enter Tryz.func10, Tryz.ntmps10
  go_wp2_with (go_at_call 26; refine hH.mono ?_; rintro e w1 ⟨rfl, hw⟩; subst hw)
  go_ret
  exact ⟨rfl, rfl⟩

theorem hway_gone (q : Option Addr) (n m : Int) (W : World) (h : GoneH q W) : Calls Tryz.prog 12 #[.pointer q, .int .i64 n, .int .i64 m] W fun e w' => e = .returned (.slice none 0 0) ∧ w' = W := by
  have hH := hhas_gone q n W h
  clear h
  go_enter Tryz.func12, Tryz.ntmps12
  go_wp2_with (go_at_call 26; refine hH.mono ?_; rintro e w1 ⟨rfl, hw⟩; subst hw)
  go_ret
  exact ⟨rfl, rfl⟩

end Go.Proofs.YtcgpgnajmfemhaaGreatDoor

namespace Go.Proofs.YtcgpgnajmfemhaaGreatDoor.Vf
open Go.RowKit

/-- A directory in memory. -/
def HY (w : World) (g gl gk gt : Nat) (vb vr : Value) (t : Int) : Prop := w.heap[g]? = some (.cells #[.int .i64 3, .int .i64 3, .int .i64 2, .int .i64 4, .int .i64 30, .int .i64 2400, .int .i64 1, .int .i64 3, .pointer (some ⟨gl, 0, none⟩), .pointer (some ⟨gk, 0, none⟩), .pointer (some ⟨gt, 0, none⟩), vb, vr, .int .i64 t] 32 (0, 0))

theorem HY.lt {w : World} {g gl gk gt : Nat} {vb vr : Value} {t : Int} (H : HY w g gl gk gt vb vr t) : g < w.heap.size := (Array.getElem?_eq_some_iff.1 H).1
theorem HY.later {w w' : World} {g gl gk gt : Nat} {vb vr : Value} {t : Int} (H : HY w g gl gk gt vb vr t) (hb : Below w.heap.size w w') : HY w' g gl gk gt vb vr t := (hb.block _ H.lt).trans H
theorem HY.sty {w w' : World} {g gl gk gt : Nat} {vb vr : Value} {t : Int} (H : HY w g gl gk gt vb vr t) (s : Sty 32 w w') : HY w' g gl gk gt vb vr t := s _ _ _ H
theorem HY.frozen {w : World} {g gl gk gt : Nat} {vb vr : Value} {t : Int} (H : HY w g gl gk gt vb vr t) (i : Nat) : w.frozen? ⟨g, i, none⟩ = false := by
  unfold HY at H
  simp [World.frozen?, H]
theorem HY.par {w : World} {g gl gk gt : Nat} {vb vr : Value} {t : Int} (H : HY w g gl gk gt vb vr t) : ∀ j, j < 8 → w.cell? ⟨g, j, none⟩ = (#[.int .i64 3, .int .i64 3, .int .i64 2, .int .i64 4, .int .i64 30, .int .i64 2400, .int .i64 1, .int .i64 3] : Array Value)[j]? := by
  intro j hj
  rw [cell_of_row _ _ _ _ _ _ H]
  have : j = 0 ∨ j = 1 ∨ j = 2 ∨ j = 3 ∨ j = 4 ∨ j = 5 ∨ j = 6 ∨ j = 7 := by omega
  rcases this with rfl | rfl | rfl | rfl | rfl | rfl | rfl | rfl <;> rfl
theorem HY.cells {w : World} {g gl gk gt : Nat} {vb vr : Value} {t : Int} (H : HY w g gl gk gt vb vr t) : w.cell? ⟨g, 8, none⟩ = some (.pointer (some ⟨gl, 0, none⟩)) ∧ w.cell? ⟨g, 9, none⟩ = some (.pointer (some ⟨gk, 0, none⟩)) ∧ w.cell? ⟨g, 10, none⟩ = some (.pointer (some ⟨gt, 0, none⟩)) ∧ w.cell? ⟨g, 11, none⟩ = some vb ∧ w.cell? ⟨g, 12, none⟩ = some vr ∧ w.cell? ⟨g, 13, none⟩ = some (.int .i64 t) := by
  refine ⟨?_, ?_, ?_, ?_, ?_, ?_⟩ <;> rw [cell_of_row _ _ _ _ _ _ H] <;> rfl

theorem BK.sty {T : TypeId} {w w' : World} {b : Nat} {cs : Array Value} {fr : Nat × Nat} (h : BK w b (.cells cs T fr)) (s : Sty T w w') : BK w' b (.cells cs T fr) := s _ _ _ h

theorem HT.sty {w w' : World} {v : Value} {l : List UInt8} (h : HT w v l) (s : Sty 5 w w') : HT w' v l := by
  have key : ∀ b o m d, v = .slice (some ⟨b, o, none⟩) m d → w'.heap[b]? = w.heap[b]? := by
    intro b o m d e
    obtain ⟨cur, fr, hb⟩ := h.2 b o m d e
    exact (s _ _ _ hb).trans hb.symm
  refine ⟨?_, ?_⟩
  · obtain ⟨p', cap, e0, h1, h2, h3, h4⟩ := h.1
    refine ⟨p', cap, e0, h1, h2, h3, fun hne => ?_⟩
    obtain ⟨b, o, hp, hc⟩ := h4 hne
    subst hp
    refine ⟨b, o, rfl, fun i x hx => ?_⟩
    rw [World.cell?_of_block (w := w) (key _ _ _ _ e0)]
    exact hc i x hx
  · intro b o m d e
    obtain ⟨cur, fr, hb⟩ := h.2 b o m d e
    exact ⟨cur, fr, (key _ _ _ _ e).trans hb⟩

/-- Bytes in a block of bytes. -/
def HX (w : World) (v : Value) (l : List UInt8) : Prop := HB w v l ∧ ∀ a n c, v = .slice (some a) n c → TY w a.block

theorem HX.ht {w : World} {v : Value} {l : List UInt8} (h : HX w v l) : HT w v l := ⟨h.1, fun _ _ n c e => h.2 _ n c e⟩
theorem HX.of_hbn {w : World} {g : Nat} {v : Value} {l : List UInt8} (h : HBN w g v l) : HX w v l := ⟨h.1, fun a n c e => (h.2 a n c e).2⟩
theorem HX.sty {w w' : World} {v : Value} {l : List UInt8} (h : HX w v l) (s : Sty 5 w w') : HX w' v l := by
  refine ⟨(h.ht.sty s).1, fun a n c e => ?_⟩
  obtain ⟨cur, fr, hb⟩ := h.2 a n c e
  exact ⟨cur, fr, s _ _ _ hb⟩
theorem HX.later {w w' : World} {v : Value} {l : List UInt8} (h : HX w v l) (hb : Below w.heap.size w w') : HX w' v l := h.sty (Sty.of_below hb)
theorem HX.ne {w : World} {v : Value} {l : List UInt8} {g : Nat} {cs : Array Value} {T : TypeId} {fr : Nat × Nat} (h : HX w v l) (hg : w.heap[g]? = some (.cells cs T fr)) (hT : 5 ≠ T) : ∀ a n c, v = .slice (some a) n c → a.block ≠ g := by
  rintro a n c e rfl
  obtain ⟨cur, f, hb⟩ := h.2 a n c e
  rw [hg] at hb
  simp only [Option.some.injEq, Obj.cells.injEq] at hb
  exact hT hb.2.1.symm

set_option maxRecDepth 100000 in
set_option maxHeartbeats 400000 in
theorem hmiss_no {w : World} {g gl gk gt : Nat} {vb vr : Value} {t : Int} (H : HY w g gl gk gt vb vr t) : Calls Tryz.prog 21 #[.pointer (some ⟨g, 0, none⟩)] w fun e w' => e = .returned (.bool false) ∧ w' = w := by
  have c8 := H.cells.1
  clear H
  go_enter Tryz.func21, Tryz.ntmps21
  go_wp2
  go_ret
  exact ⟨rfl, rfl⟩

set_option maxRecDepth 100000 in
set_option maxHeartbeats 400000 in
theorem hepoch_n {w : World} {g gl gk gt : Nat} {vb : Value} {p : Option Addr} {n c : Nat} {t : Int} (H : HY w g gl gk gt vb (.slice p n c) t) (h1 : 1 ≤ n) (h2 : n ≤ 1000000) : Calls Tryz.prog 6 #[.pointer (some ⟨g, 0, none⟩)] w fun e w' => e = .returned (.int .i64 ((n - 1 : Nat) : Int)) ∧ w' = w := by
  have hM := hmiss_no H
  have c12 := H.cells.2.2.2.2.1
  have es : (n : Int) - 1 = ((n - 1 : Nat) : Int) := by omega
  clear H
  go_enter Tryz.func6, Tryz.ntmps6
  go_wp2_with (go_at_call 21; refine hM.mono ?_; rintro e w1 ⟨rfl, hw⟩; have hw2 := hw.symm; clear hw; subst hw2)
  go_ret
  exact ⟨by first | rfl | (simp only [es]) | (rw [← es]), rfl⟩

end Go.Proofs.YtcgpgnajmfemhaaGreatDoor.Vf

namespace Go.Proofs.YtcgpgnajmfemhaaGreatDoor.Vf
open Go.RowKit

set_option maxRecDepth 100000 in
set_option maxHeartbeats 4000000 in
theorem hgrow_one {id key : List UInt8} {w : World} {base g gl gk gt gb gR ga b1 b2 cb : Nat} {vr vi vk : Value} {t : Int} (H : HY w g gl gk gt (.slice (some ⟨gb, 0, none⟩) 2 cb) vr t) (hb : w.cell? ⟨gb, 1, none⟩ = some (.slice (some ⟨gR, 0, none⟩) 1 1))
    (HS : SN w gt 3 3 2 4 30 2400 1 3 ga (.slice (some ⟨b1, 0, none⟩) 1 1) (.slice (some ⟨b2, 0, none⟩) 1 1) (.slice none 0 0)) (hB1 : BK w b1 (.cells #[.slice none 0 0] 22 (0, 0))) (hB2 : BK w b2 (.cells #[.int .i64 0, .int .i64 (-1)] 146 (0, 0))) (hA : AG w ga 3 2400 none 0 0)
    (hL : BK w gR (.cells #[vi, vk] 90 (0, 0))) (hI : HX w vi id) (hK : HX w vk key) (h255 : id.length ≤ 255) (hkl : key.length ≤ 65535) (hck : ChkIs 2 4 [(id, key)] 0) (hT : Tabs w) (q1 : base ≤ gt) (q2 : base ≤ ga) (q3 : base ≤ b1) (q4 : base ≤ b2) (q5 : base ≤ w.heap.size) :
    Calls Tryz.prog 50 #[.pointer (some ⟨g, 0, none⟩)] w fun x w' => ∃ p c, x = .returned (.slice p 3 c) ∧ Below base w w' ∧ ∀ T, 134 ≠ T → 22 ≠ T → 128 ≠ T → 146 ≠ T → Sty T w w' := by
  obtain ⟨pi, ci, rfl⟩ := hI.1.shape
  obtain ⟨pk, ck, rfl⟩ := hK.1.shape
  have c11 := H.cells.2.2.2.1
  have x10 := H.cells.2.2.1
  have hG : ∀ W, Below w.heap.size w W → Calls Tryz.prog 88 #[.pointer (some ⟨gt, 0, none⟩), .slice (some ⟨gR, 0, none⟩) 1 1] W fun e w3 => ∃ p c pb cb' pr cr, e = .returned (.tuple #[.slice p 3 c, .int .i64 0]) ∧ SN w3 gt 3 3 2 4 30 2400 1 3 ga (.slice pb 2 cb') (.slice pr 2 cr) (.slice none 0 0) ∧ w3.cell? ⟨g, 10, none⟩ = some (.pointer (some ⟨gt, 0, none⟩)) ∧ Below base w w3 ∧ Hid (∀ T, 134 ≠ T → 22 ≠ T → 128 ≠ T → 146 ≠ T → Sty T w w3) := by
    intro W bX
    refine (sgrow_firstK (HS.later bX) (hB1.later bX) (hB2.later bX) (hA.later bX) (hL.later bX) (hI.1.later bX) (hK.1.later bX) h255 hkl hck ((hI.later bX).ne (hA.later bX) (by decide)) ((hK.later bX).ne (hA.later bX) (by decide)) (hT.later bX) q1 q2 q3 q4).mono ?_
    rintro e w3 ⟨p3, c3, pb3, cb3, pr3, cr3, rfl, H3, _, b3, s3⟩
    exact ⟨p3, c3, pb3, cb3, pr3, cr3, rfl, H3, ((H.later bX).sty (s3 _ (by decide) (by decide) (by decide) (by decide))).cells.2.2.1, (bX.mono q5).trans b3, fun T h1 h2 h3 h4 => (Sty.of_below bX).trans (s3 T h1 h2 h3 h4)⟩
  clear hL hI hK HS hB1 hB2 hA H hT h255 hkl hck
  go_enter Tryz.func50, Tryz.ntmps50
  go_wp2
  go_region_with (first | (go_at_call 88; refine (hG _ (by repeat (first | exact Below.refl _ _ | refine Below.drew ?_))).mono ?_; rintro e1 w3 ⟨p3, c3, pb3, cb3, pr3, cr3, rfl, H3, y10, b3, s3⟩))
  all_goals
    clear hG
    have hLa := slast_ok H3 (by decide) (by decide)
    go_wp2_with (first | (go_at_call 89; refine hLa.mono ?_; rintro e w5 ⟨rfl, hw⟩; have hw2 := hw.symm; clear hw; subst hw2))
    go_ret
    exact ⟨p3, c3, rfl, b3, s3.out⟩

end Go.Proofs.YtcgpgnajmfemhaaGreatDoor.Vf
