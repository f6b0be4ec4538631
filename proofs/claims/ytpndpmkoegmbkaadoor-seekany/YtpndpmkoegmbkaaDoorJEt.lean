/- What this text proves: the walk of seek.search over this program: the looks, as a function tells of each. What this text proves: the walk of the function that seek.Check hands to search: one look. -/
import Derived.Test.YtpndpmkoegmbkaaDoorJEd
import Derived.Test.YtpndpmkoegmbkaaDoorJIn
import Derived.Deep.RegionHeld3
namespace Go.Proofs.YtpndpmkoegmbkaaDoor
open Go.RowKit

set_option maxRecDepth 100000 in
set_option maxHeartbeats 1000000 in
theorem search_any (K : Nat) (caps : Array Value) (eg : ∀ args w, (callFunc K args).run Tryd.prog w = .ok (.enter K args) w) (g : List Nat → Nat → Bool × Bool) (last : Nat) (hlast : last < 4611686018427387904) (J : List Nat → World → Prop) (w : World) (hJ : J [] w)
    (hK : ∀ l m w, m ≤ last → l.length ≤ last → J l w → Calls Tryd.prog K (#[.int .i64 (m : Int)] ++ caps) w fun x w' => x = .returned (.tuple #[.bool (g l m).1, .bool (g l m).2]) ∧ J (l ++ [m]) w') :
    Calls Tryd.prog 29 #[.int .i64 (last : Int), .func (.func K) #[] caps] w fun x w' => J (srchA g last).1 w' ∧ (((srchA g last).2 = none ∧ x = .returned (.tuple #[.int .i64 0, .bool false])) ∨ ∃ n : Nat, (srchA g last).2 = some n ∧ x = .returned (.tuple #[.int .i64 (n : Int), .bool true])) := by
  have hK0 := hK [] 0 w (Nat.zero_le _) (Nat.zero_le _) hJ
  simp only [Int.ofNat_zero, List.nil_append] at hK0
  have HS : Hid (∀ R, srchA g last = R ↔ (if (g [] 0).2 = true ∧ (g [] 0).1 = true then srchI g [0] 0 last else ([0], none)) = R) := fun R => Iff.rfl
  obtain ⟨R, hR⟩ : ∃ R, srchA g last = R := ⟨_, rfl⟩
  have hS := (HS.out R).1 hR
  rw [hR]
  clear hR HS hJ
  obtain ⟨a0, ha0⟩ : ∃ a, (g [] 0).1 = a := ⟨_, rfl⟩
  obtain ⟨b0, hb0⟩ : ∃ b, (g [] 0).2 = b := ⟨_, rfl⟩
  rw [ha0, hb0] at hK0 hS
  have HK : Hid (∀ l m w, m ≤ last → l.length ≤ last → J l w → Calls Tryd.prog K (#[.int .i64 (m : Int)] ++ caps) w fun x w' => x = .returned (.tuple #[.bool (g l m).1, .bool (g l m).2]) ∧ J (l ++ [m]) w') := hK
  clear hK ha0 hb0
  have HS : Hid ((if b0 = true ∧ a0 = true then srchI g [0] 0 last else ([0], none)) = R) := hS
  clear hS
  go_enter Tryd.func29, Tryd.ntmps29
  go_wp2_with fail
  refine hK0.mono ?_
  rintro x w1 ⟨rfl, hJ1⟩
  clear hK0
  by_cases hf : b0 = true ∧ a0 = true
  · obtain ⟨rfl, rfl⟩ := hf
    have HR : Hid (srchI g [0] 0 last = R) := by
      have := HS.out
      simp only [and_self, if_true] at this
      exact this
    clear HS
    go_wp2
    go_loopw [8, 9] (fun v u wr => ∃ (l : List Nat) (lo hi : Nat), lo ≤ hi ∧ hi ≤ last ∧ l.length + (hi - lo) ≤ last + 1 ∧ v = .int .i64 (lo : Int) ∧ u = .int .i64 (hi : Int) ∧ Hid (srchI g l lo hi = R) ∧ J l wr) (fun v u _ => (intOf u).toNat - (intOf v).toNat)
    case atStart => exact ⟨[0], 0, last, Nat.zero_le _, Nat.le_refl _, by simp; omega, rfl, rfl, HR, hJ1⟩
    case round =>
      obtain ⟨l, lo, hi, h1, h2, h3, rfl, rfl, hI, hJl⟩ := hrel
      by_cases hlt : lo < hi
      · obtain ⟨m, hm⟩ : ∃ m, m = (lo + hi + 1) / 2 := ⟨_, rfl⟩
        have hm1 : lo < m := by omega
        have hm2 : m ≤ hi := by omega
        have em : (((lo : Int) + (hi : Int) + 1) / 2) = (m : Int) := by omega
        have et : Int.tdiv ((lo : Int) + (hi : Int) + 1) 2 = (m : Int) := by rw [Int.tdiv_eq_ediv_of_nonneg (by omega)]; exact em
        have hC := HK.out l m wr (by omega) (by omega) hJl
        have Hy : Hid ((g l m).1 = true → (g l m).2 = true → srchI g (l ++ [m]) m hi = R) := fun e1 e2 => (srchI_yes g l lo hi m hlt hm e1 e2).symm.trans hI.out
        have Hn : Hid ((g l m).1 = false → (g l m).2 = true → srchI g (l ++ [m]) lo (m - 1) = R) := fun e1 e2 => (srchI_no g l lo hi m hlt hm e1 e2).symm.trans hI.out
        have Hs : Hid ((g l m).2 = false → (l ++ [m], none) = R) := fun e2 => (srchI_stop g l lo hi m hlt hm e2).symm.trans hI.out
        generalize (g l m).1 = a1 at *
        generalize (g l m).2 = b1 at *
        have hlt2 : (lo : Int) < (hi : Int) := by omega
        clear hm hI HR
        go_wp2_with fail
        refine hC.mono ?_
        rintro x w2 ⟨rfl, hJ2⟩
        clear hC
        cases b1 with
        | false =>
          have hE := Hs.out rfl
          clear Hs Hy Hn HK
          go_wp2
          go_ret2
          subst hE
          exact ⟨hJ2, .inl ⟨rfl, rfl⟩⟩
        | true =>
          cases a1 with
          | true =>
            have hE : Hid (srchI g (l ++ [m]) m hi = R) := Hy.out rfl rfl
            have hq : (l ++ [m]).length + (hi - m) ≤ last + 1 := by simp; omega
            clear Hs Hy Hn
            go_wp2
            go_roundw
            case rel => first | exact ⟨l ++ [m], m, hi, hm2, h2, hq, rfl, rfl, hE, hJ2⟩ | ((repeat apply Exists.intro); exact ⟨⟨l ++ [m], m, hi, hm2, h2, hq, rfl, rfl, hE, hJ2⟩, rfl⟩)
            case measure => simp [intOf]; omega
          | false =>
            have hE : Hid (srchI g (l ++ [m]) lo (m - 1) = R) := Hn.out rfl rfl
            have hq : (l ++ [m]).length + (m - 1 - lo) ≤ last + 1 := by simp; omega
            have es : (m : Int) - 1 = ((m - 1 : Nat) : Int) := by omega
            clear Hs Hy Hn
            go_wp2
            go_roundw
            case rel => first | exact ⟨l ++ [m], lo, m - 1, by omega, by omega, hq, rfl, by go_num, hE, hJ2⟩ | ((repeat apply Exists.intro); exact ⟨⟨l ++ [m], lo, m - 1, by omega, by omega, hq, rfl, by go_num, hE, hJ2⟩, rfl⟩)
            case measure => simp [intOf]; omega
      · have hE := hI.out
        rw [srchI_end g l lo hi hlt] at hE
        clear hI HR HK
        have hle : ¬ ((lo : Int) < (hi : Int)) := by omega
        go_wp2
        go_ret2
        subst hE
        exact ⟨hJl, .inr ⟨lo, rfl, rfl⟩⟩
  · have HR : ([0], none) = R := by
      have := HS.out
      rwa [if_neg hf] at this
    clear HS HK
    cases b0 with
    | false =>
      go_wp2
      go_ret2
      subst HR
      exact ⟨hJ1, .inl ⟨rfl, rfl⟩⟩
    | true =>
      cases a0 with
      | true => exact absurd ⟨rfl, rfl⟩ hf
      | false =>
        go_wp2
        go_ret2
        subst HR
        exact ⟨hJ1, .inl ⟨rfl, rfl⟩⟩

end Go.Proofs.YtpndpmkoegmbkaaDoor

namespace Go.Proofs.YtpndpmkoegmbkaaDoor
open Go.RowKit

/-- The four boxes of Check that stay. -/
def CB (S : Nat) (size t : Int) (hv sv : Value) (hvs : Array Value) (w : World) : Prop :=
  hv = .agg hvs ∧ w.heap[S]? = some (.cells #[.int .i64 size] 3 (0, 0)) ∧ w.heap[S + 1]? = some (.cells hvs 25 (0, 0)) ∧ w.heap[S + 2]? = some (.cells #[sv] 35 (0, 0)) ∧ w.heap[S + 3]? = some (.cells #[.int .i64 t] 3 (0, 0))

/-- Between two looks: the record that was found, and how many looks there were. -/
def CJ (f : Nat) (size t : Int) (hd : Rc) (ss : List (List Rc)) (W1 : World) (l : List Nat) (w : World) : Prop :=
  Below f W1 w ∧ ∃ tp tc lp lc kp kc, w.heap[f]? = some (.cells (RVs (fnd size hd t ss l zR) tp tc lp lc kp kc) 25 (0, 0)) ∧ w.heap[f + 1]? = some (.cells #[.int .i64 ((min l.length ss.length : Nat) : Int)] 3 (0, 0)) ∧ RT w (fnd size hd t ss l zR) tp tc lp lc kp kc

theorem six_of {w : World} {g : Nat} (h : w.heap[g]? = some (.cells #[.int .i64 0, .int .i64 0, .slice none 0 0, .int .i64 0, .slice none 0 0, .slice none 0 0] 25 (0, 0))) : (w.cell? ⟨g, 0, none⟩ = some (.int .i64 0) ∧ w.cell? ⟨g, 1, none⟩ = some (.int .i64 0) ∧ w.cell? ⟨g, 2, none⟩ = some (.slice none 0 0) ∧ w.cell? ⟨g, 3, none⟩ = some (.int .i64 0) ∧ w.cell? ⟨g, 4, none⟩ = some (.slice none 0 0) ∧ w.cell? ⟨g, 5, none⟩ = some (.slice none 0 0)) ∧ (w.frozen? ⟨g, 0, none⟩ = false ∧ w.frozen? ⟨g, 1, none⟩ = false ∧ w.frozen? ⟨g, 2, none⟩ = false ∧ w.frozen? ⟨g, 3, none⟩ = false ∧ w.frozen? ⟨g, 4, none⟩ = false ∧ w.frozen? ⟨g, 5, none⟩ = false) := by
  refine ⟨⟨?_, ?_, ?_, ?_, ?_, ?_⟩, frz_of h, frz_of h, frz_of h, frz_of h, frz_of h, frz_of h⟩ <;> (rw [cell_of_row _ _ _ _ _ _ h]; rfl)

theorem sets_below {w w5 : World} {g : Nat} (h : Below g w w5) (a0 a1 a2 a3 a4 a5 : Value) : Below g w ((((((w5.setCell ⟨g, 0, none⟩ a0).setCell ⟨g, 1, none⟩ a1).setCell ⟨g, 2, none⟩ a2).setCell ⟨g, 3, none⟩ a3).setCell ⟨g, 4, none⟩ a4).setCell ⟨g, 5, none⟩ a5) :=
  h.trans ((((((((Only.refl g w5).setCell 0 a0).setCell 1 a1).setCell 2 a2).setCell 3 a3).setCell 4 a4).setCell 5 a5).below (Nat.le_refl _))

theorem alloc_drew_new (w : World) (o : Obj) : (w.alloc o).drew.heap[w.heap.size]? = some o := heap_alloc_new w o

theorem wrapL (L : Nat) (h : L < 9223372036854775807) : wrap64 ((L : Int) + 1) = (L : Int) + 1 := by unfold wrap64; omega

theorem eg_checkF : ∀ args w, (callFunc 30 args).run Tryd.prog w = .ok (.enter 30 args) w := by intro args w; go_simp

set_option maxRecDepth 100000 in
set_option maxHeartbeats 8000000 in
theorem checkF_walk (S f : Nat) (size t : Int) (hd : Rc) (htp : Option Addr) (htc : Nat) (hlp : Option Addr) (hlc : Nat) (hkp : Option Addr) (hkc : Nat) (sp : Option Addr) (sc : Nat) (ss : List (List Rc)) (w0 W1 : World) (l : List Nat) (m : Nat) (w : World)
    (h1 : HB w0 (.slice htp hd.tr.length htc) hd.tr) (h2 : HB w0 (.slice hlp hd.li.length hlc) hd.li) (h3 : PA w0 (.slice hkp hd.lk.length hkc) hd.lk) (hQ : QA w0 (.slice sp ss.length sc) ss) (hTD : TD w0) (hT : Tabs w0)
    (hS : S = w0.heap.size) (hSf : S + 4 ≤ f) (hW1 : Below w0.heap.size w0 W1)
    (b0 : W1.heap[S]? = some (.cells #[.int .i64 size] 3 (0, 0))) (b1 : W1.heap[S + 1]? = some (.cells (RVs hd htp htc hlp hlc hkp hkc) 25 (0, 0))) (b2 : W1.heap[S + 2]? = some (.cells #[.slice sp ss.length sc] 35 (0, 0))) (b3 : W1.heap[S + 3]? = some (.cells #[.int .i64 t] 3 (0, 0)))
    (hJ : CJ f size t hd ss W1 l w) :
    Calls Tryd.prog 30 (#[.int .i64 (m : Int)] ++ #[.pointer (some ⟨f + 1, 0, none⟩), .pointer (some ⟨S + 2, 0, none⟩), .pointer (some ⟨S, 0, none⟩), .pointer (some ⟨S + 1, 0, none⟩), .pointer (some ⟨S + 3, 0, none⟩), .pointer (some ⟨f, 0, none⟩)]) w fun x w' => x = .returned (.tuple #[.bool (gC size hd ss t l m).1, .bool (gC size hd ss t l m).2]) ∧ CJ f size t hd ss W1 (l ++ [m]) w' := by
  show Calls Tryd.prog 30 #[.int .i64 (m : Int), .pointer (some ⟨f + 1, 0, none⟩), .pointer (some ⟨S + 2, 0, none⟩), .pointer (some ⟨S, 0, none⟩), .pointer (some ⟨S + 1, 0, none⟩), .pointer (some ⟨S + 3, 0, none⟩), .pointer (some ⟨f, 0, none⟩)] w _
  obtain ⟨hB, tp, tc, lp, lc, kp, kc, G0, G1, hRT⟩ := hJ
  have hlf : f < w.heap.size := (Array.getElem?_eq_some_iff.1 G0).1
  have hlf1 : f + 1 < w.heap.size := (Array.getElem?_eq_some_iff.1 G1).1
  have hbw : Below w0.heap.size w0 w := hW1.trans (hB.mono (by omega))
  have hQl := hQ.len
  have hmx : sc ≤ 9223372036854775807 := hQl.2.2
  have e0 := (hB.block S (by omega)).trans b0
  have e1 := (hB.block (S + 1) (by omega)).trans b1
  have e2 := (hB.block (S + 2) (by omega)).trans b2
  have e3 := (hB.block (S + 3) (by omega)).trans b3
  have c0 : w.cell? ⟨S, 0, none⟩ = some (.int .i64 size) := by rw [cell_of_row w _ _ _ _ _ e0]; rfl
  have c2 : w.cell? ⟨S + 2, 0, none⟩ = some (.slice sp ss.length sc) := by rw [cell_of_row w _ _ _ _ _ e2]; rfl
  have cl : w.cell? ⟨f + 1, 0, none⟩ = some (.int .i64 ((min l.length ss.length : Nat) : Int)) := by rw [cell_of_row w _ _ _ _ _ G1]; rfl
  by_cases hL : l.length < ss.length
  · obtain ⟨way, hway⟩ : ∃ way, ss[l.length]? = some way := ⟨_, List.getElem?_eq_getElem hL⟩
    have hg : gC size hd ss t l m = (decide (((folR size hd way (m : Int)).getD zR).t ≤ t), (folR size hd way (m : Int)).isSome) := by unfold gC; rw [hway]
    have hfn := fnd_some (size := size) (hd := hd) (t := t) (m := m) (a := zR) hway
    obtain ⟨sb, so, hsp, hsq⟩ := hQ.addr (by omega)
    subst hsp
    obtain ⟨wp, wc, g1, g2⟩ := hsq l.length way hway
    rw [hg]
    have hFol : ∀ W, Below w.heap.size w W → Calls Tryd.prog 7 #[.int .i64 size, .agg (RVs hd htp htc hlp hlc hkp hkc), .slice wp way.length wc, .int .i64 (m : Int)] W fun x w' => ∃ tp tc lp lc kp kc, x = .returned (.tuple #[.agg (RVs ((folR size hd way (m : Int)).getD zR) tp tc lp lc kp kc), .bool (folR size hd way (m : Int)).isSome]) ∧ RT w' ((folR size hd way (m : Int)).getD zR) tp tc lp lc kp kc ∧ Below W.heap.size W w' := by
      intro W hb
      have hb2 := hbw.trans (hb.mono hbw.size)
      refine (followT_any size hd _ _ _ _ way (m : Int) W (h1.later hb2) (h2.later hb2) (h3.later hb2) (g2.later hb2) (hTD.later hb2) (hT.later hb2)).mono ?_
      intro x w' hx
      exact folT_gen hx
    have HF : Hid (fnd size hd t ss (l ++ [m]) zR = if (folR size hd way (m : Int)).isSome = true ∧ ((folR size hd way (m : Int)).getD zR).t ≤ t then (folR size hd way (m : Int)).getD zR else fnd size hd t ss l zR) := hfn
    clear hfn hg
    generalize (folR size hd way (m : Int)).getD zR = q at *
    generalize (folR size hd way (m : Int)).isSome = ok at *
    generalize fnd size hd t ss l zR = r at *
    generalize hr' : fnd size hd t ss (l ++ [m]) zR = r' at *
    obtain ⟨L, hLL⟩ : ∃ L, L = l.length := ⟨_, rfl⟩
    have emL : min l.length ss.length = L := by omega
    rw [emL] at cl G1
    rw [← hLL] at g1 hway
    have hL2 : L < ss.length := by omega
    have cw := cell_later hbw g1
    have hcells : ∀ W, Below w.heap.size w W → (W.cell? ⟨S, 0, none⟩ = some (.int .i64 size) ∧ (W.cell? ⟨S + 1, 0, none⟩ = some (.int .i64 hd.e) ∧ W.cell? ⟨S + 1, 1, none⟩ = some (.int .i64 hd.t) ∧ W.cell? ⟨S + 1, 2, none⟩ = some (.slice htp hd.tr.length htc) ∧ W.cell? ⟨S + 1, 3, none⟩ = some (.int .i64 hd.c) ∧ W.cell? ⟨S + 1, 4, none⟩ = some (.slice hlp hd.li.length hlc) ∧ W.cell? ⟨S + 1, 5, none⟩ = some (.slice hkp hd.lk.length hkc)) ∧ W.cell? ⟨S + 2, 0, none⟩ = some (.slice (some ⟨sb, so, none⟩) ss.length sc) ∧ W.cell? ⟨f + 1, 0, none⟩ = some (.int .i64 (L : Int)) ∧ W.cell? ⟨sb, so + L, none⟩ = some (.slice wp way.length wc)) := by
      intro W hb
      have z1 := (hb.block (S + 1) (by omega)).trans e1
      refine ⟨cell_later hb c0, ⟨?_, ?_, ?_, ?_, ?_, ?_⟩, cell_later hb c2, cell_later hb cl, cell_later hb cw⟩ <;> (rw [cell_of_row _ _ _ _ _ _ z1]; rfl)
    have bD : Below w.heap.size w w.drew := (Below.refl _ w).drew
    have hH0 := hcells _ bD
    have bDa : Below w.heap.size w (w.drew.alloc (.cells #[.int .i64 0, .int .i64 0, .slice none 0 0, .int .i64 0, .slice none 0 0, .slice none 0 0] 25)) := bD.alloc bD.size _
    have hH1 := hcells _ bDa
    have bDb : Below w.heap.size w (w.alloc (.cells #[.int .i64 0, .int .i64 0, .slice none 0 0, .int .i64 0, .slice none 0 0, .slice none 0 0] 25)) := (Below.refl _ w).alloc (Nat.le_refl _) _
    have hH1b := hcells _ bDb
    have bDc : Below w.heap.size w (w.alloc (.cells #[.int .i64 0, .int .i64 0, .slice none 0 0, .int .i64 0, .slice none 0 0, .slice none 0 0] 25)).drew := bDb.drew
    have hH1c := hcells _ bDc
    have hne : ((L : Int) == (ss.length : Int)) = false := by simp; omega
    have Hw1 : Hid (wrap64 ((L : Int) + 1) = (L : Int) + 1) := wrapL L (by omega)
    have HMin : Hid (((min (l ++ [m]).length ss.length : Nat) : Int) = (L : Int) + 1) := by
      show _ = _
      rw [List.length_append]
      simp only [List.length_cons, List.length_nil]
      omega
    have hL3 : (L : Int) < (ss.length : Int) := by omega
    have HFol : Hid (∀ W, Below w.heap.size w W → Calls Tryd.prog 7 #[.int .i64 size, .agg (RVs hd htp htc hlp hlc hkp hkc), .slice wp way.length wc, .int .i64 (m : Int)] W fun x w' => ∃ tp tc lp lc kp kc, x = .returned (.tuple #[.agg (RVs q tp tc lp lc kp kc), .bool ok]) ∧ RT w' q tp tc lp lc kp kc ∧ Below W.heap.size W w') := hFol
    have HCe : Hid (∀ W, Below w.heap.size w W → (W.cell? ⟨S, 0, none⟩ = some (.int .i64 size) ∧ (W.cell? ⟨S + 1, 0, none⟩ = some (.int .i64 hd.e) ∧ W.cell? ⟨S + 1, 1, none⟩ = some (.int .i64 hd.t) ∧ W.cell? ⟨S + 1, 2, none⟩ = some (.slice htp hd.tr.length htc) ∧ W.cell? ⟨S + 1, 3, none⟩ = some (.int .i64 hd.c) ∧ W.cell? ⟨S + 1, 4, none⟩ = some (.slice hlp hd.li.length hlc) ∧ W.cell? ⟨S + 1, 5, none⟩ = some (.slice hkp hd.lk.length hkc)) ∧ W.cell? ⟨S + 2, 0, none⟩ = some (.slice (some ⟨sb, so, none⟩) ss.length sc) ∧ W.cell? ⟨f + 1, 0, none⟩ = some (.int .i64 (L : Int)) ∧ W.cell? ⟨sb, so + L, none⟩ = some (.slice wp way.length wc))) := hcells
    clear hsq hQ g2 g1 hTD hT h1 h2 h3 hway hLL b0 b1 b2 b3 hL hS hW1 hbw hFol hcells hQl e0 e1 e2 emL
    go_enter Tryd.func30, Tryd.ntmps30
    go_wp2
    go_region_held3 (fun W => W.cell? ⟨S, 0, none⟩ = some (.int .i64 size) ∧ (W.cell? ⟨S + 1, 0, none⟩ = some (.int .i64 hd.e) ∧ W.cell? ⟨S + 1, 1, none⟩ = some (.int .i64 hd.t) ∧ W.cell? ⟨S + 1, 2, none⟩ = some (.slice htp hd.tr.length htc) ∧ W.cell? ⟨S + 1, 3, none⟩ = some (.int .i64 hd.c) ∧ W.cell? ⟨S + 1, 4, none⟩ = some (.slice hlp hd.li.length hlc) ∧ W.cell? ⟨S + 1, 5, none⟩ = some (.slice hkp hd.lk.length hkc)) ∧ W.cell? ⟨S + 2, 0, none⟩ = some (.slice (some ⟨sb, so, none⟩) ss.length sc) ∧ W.cell? ⟨f + 1, 0, none⟩ = some (.int .i64 (L : Int)) ∧ W.cell? ⟨sb, so + L, none⟩ = some (.slice wp way.length wc)) (first | with_reducible exact hH0 | with_reducible exact hH1 | with_reducible exact hH1b | with_reducible exact hH1c | with_reducible assumption) (first | (go_at_call 7; refine (HFol.out _ (by first | exact bD | exact bDa | exact bDb | exact bDc)).mono ?_; rintro x w5 ⟨ntp, ntc, nlp, nlc, nkp, nkc, rfl, nRT, nb5⟩; have nb : Below w.heap.size w w5 := Below.trans (by first | exact bD | exact bDa | exact bDb | exact bDc) (nb5.mono (by first | exact bD.size | exact bDa.size | exact bDb.size | exact bDc.size)); have hH2 := HCe.out _ nb; have hH3 := HCe.out _ (nb.alloc nb.size (.cells #[.int .i64 0, .int .i64 0, .slice none 0 0, .int .i64 0, .slice none 0 0, .slice none 0 0] 25)); have hH5 := HCe.out _ (nb.alloc nb.size (.cells (RVs q ntp ntc nlp nlc nkp nkc) 25)); first | (have gz := (nb5.block w.heap.size (by simp)).trans (alloc_drew_new w _); obtain ⟨⟨x0, x1, x2, x3, x4, x5⟩, y0, y1, y2, y3, y4, y5⟩ := six_of gz; have hH4 := HCe.out _ (sets_below nb (.int .i64 q.e) (.int .i64 q.t) (.slice ntp q.tr.length ntc) (.int .i64 q.c) (.slice nlp q.li.length nlc) (.slice nkp q.lk.length nkc))) | skip))
    · have GX := heap_alloc_new w5 (.cells (RVs q ntp ntc nlp nlc nkp nkc) 25)
      have bU : Below w.heap.size w (w5.alloc (.cells (RVs q ntp ntc nlp nlc nkp nkc) 25)) := nb.alloc nb.size _
      have uRT := nRT.later ((Below.refl _ w5).alloc (Nat.le_refl _) (.cells (RVs q ntp ntc nlp nlc nkp nkc) 25))
      have hgx : w.heap.size ≤ w5.heap.size := nb.size
      generalize w5.alloc (.cells (RVs q ntp ntc nlp nlc nkp nkc) 25) = U at *
      generalize w5.heap.size = gx at *
      have oRT := hRT.later bU
      have UF := (bU.block f hlf).trans G0
      have UL := (bU.block (f + 1) hlf1).trans G1
      have U3 := (bU.block (S + 3) (by omega)).trans e3
      have ltx : gx < U.heap.size := (Array.getElem?_eq_some_iff.1 GX).1
      have O1 := (Only.refl (f + 1) U).setCell 0 (.int .i64 ((L : Int) + 1))
      have G1L := heap_setCell_same U (f + 1) 0 _ _ (.int .i64 ((L : Int) + 1)) UL
      have hltU : f + 1 < U.heap.size := (Array.getElem?_eq_some_iff.1 UL).1
      have G1F := (O1.block f (by omega) (by omega)).trans UF
      have G1X := (O1.block gx (by omega) ltx).trans GX
      have G13 := (O1.block (S + 3) (by omega) (by omega)).trans U3
      have tk1 := TK.of_only (T := 3) O1 UL
      have uRT1 := uRT.tk tk1 (by decide) (by decide)
      have oRT1 := oRT.tk tk1 (by decide) (by decide)
      have bB1 : Below f W1 (U.setCell ⟨f + 1, 0, none⟩ (.int .i64 ((L : Int) + 1))) := (hB.trans (bU.mono (by omega))).trans (O1.below (by omega))
      have kl : U.cell? ⟨f + 1, 0, none⟩ = some (.int .i64 (L : Int)) := by rw [cell_of_row _ _ _ _ _ _ UL]; rfl
      have zl : U.frozen? ⟨f + 1, 0, none⟩ = false := frz_of UL
      generalize hU1 : U.setCell ⟨f + 1, 0, none⟩ (.int .i64 ((L : Int) + 1)) = V at *
      have m0 : V.cell? ⟨gx, 0, none⟩ = some (.int .i64 q.e) := by rw [cell_of_row _ _ _ _ _ _ G1X]; rfl
      have m1 : V.cell? ⟨gx, 1, none⟩ = some (.int .i64 q.t) := by rw [cell_of_row _ _ _ _ _ _ G1X]; rfl
      have m2 : V.cell? ⟨gx, 2, none⟩ = some (.slice ntp q.tr.length ntc) := by rw [cell_of_row _ _ _ _ _ _ G1X]; rfl
      have m3 : V.cell? ⟨gx, 3, none⟩ = some (.int .i64 q.c) := by rw [cell_of_row _ _ _ _ _ _ G1X]; rfl
      have m4 : V.cell? ⟨gx, 4, none⟩ = some (.slice nlp q.li.length nlc) := by rw [cell_of_row _ _ _ _ _ _ G1X]; rfl
      have m5 : V.cell? ⟨gx, 5, none⟩ = some (.slice nkp q.lk.length nkc) := by rw [cell_of_row _ _ _ _ _ _ G1X]; rfl
      have mt : V.cell? ⟨S + 3, 0, none⟩ = some (.int .i64 t) := by rw [cell_of_row _ _ _ _ _ _ G13]; rfl
      have n0 : V.cell? ⟨f, 0, none⟩ = some (.int .i64 r.e) := by rw [cell_of_row _ _ _ _ _ _ G1F]; rfl
      have n1 : V.cell? ⟨f, 1, none⟩ = some (.int .i64 r.t) := by rw [cell_of_row _ _ _ _ _ _ G1F]; rfl
      have n2 : V.cell? ⟨f, 2, none⟩ = some (.slice tp r.tr.length tc) := by rw [cell_of_row _ _ _ _ _ _ G1F]; rfl
      have n3 : V.cell? ⟨f, 3, none⟩ = some (.int .i64 r.c) := by rw [cell_of_row _ _ _ _ _ _ G1F]; rfl
      have n4 : V.cell? ⟨f, 4, none⟩ = some (.slice lp r.li.length lc) := by rw [cell_of_row _ _ _ _ _ _ G1F]; rfl
      have n5 : V.cell? ⟨f, 5, none⟩ = some (.slice kp r.lk.length kc) := by rw [cell_of_row _ _ _ _ _ _ G1F]; rfl
      have v0 : V.frozen? ⟨f, 0, none⟩ = false := frz_of G1F
      have v1 : V.frozen? ⟨f, 1, none⟩ = false := frz_of G1F
      have v2 : V.frozen? ⟨f, 2, none⟩ = false := frz_of G1F
      have v3 : V.frozen? ⟨f, 3, none⟩ = false := frz_of G1F
      have v4 : V.frozen? ⟨f, 4, none⟩ = false := frz_of G1F
      have v5 : V.frozen? ⟨f, 5, none⟩ = false := frz_of G1F
      have HM : Hid (((min (l ++ [m]).length ss.length : Nat) : Int) = (L : Int) + 1) := HMin.out
      have HGL : Hid (V.heap[f + 1]? = some (.cells #[.int .i64 ((L : Int) + 1)] 3 (0, 0))) := by
        show _ = _
        rw [G1L]
        rfl
      clear GX bU uRT nRT hH0 hH1 hH1b hH1c hH2 hH3 hH5 HCe HFol nb nb5 oRT UF UL U3 O1 G1L G13 tk1 bD bDa bDb bDc cw c0 c2 cl
      by_cases hfit : q.t ≤ t
      · cases hok : ok with
        | true =>
          subst hok
          have O2 := (((((((Only.refl f V).setCell 0 (.int .i64 q.e)).setCell 1 (.int .i64 q.t)).setCell 2 (.slice ntp q.tr.length ntc)).setCell 3 (.int .i64 q.c)).setCell 4 (.slice nlp q.li.length nlc)).setCell 5 (.slice nkp q.lk.length nkc))
          have G2F := set6 _ _ _ _ _ _ _ _ _ (.int .i64 q.e) (.int .i64 q.t) (.slice ntp q.tr.length ntc) (.int .i64 q.c) (.slice nlp q.li.length nlc) (.slice nkp q.lk.length nkc) G1F
          have ltf : f + 1 < V.heap.size := (Array.getElem?_eq_some_iff.1 HGL.out).1
          have HJ : Hid (CJ f size t hd ss W1 (l ++ [m]) ((((((V.setCell ⟨f, 0, none⟩ (.int .i64 q.e)).setCell ⟨f, 1, none⟩ (.int .i64 q.t)).setCell ⟨f, 2, none⟩ (.slice ntp q.tr.length ntc)).setCell ⟨f, 3, none⟩ (.int .i64 q.c)).setCell ⟨f, 4, none⟩ (.slice nlp q.li.length nlc)).setCell ⟨f, 5, none⟩ (.slice nkp q.lk.length nkc))) := by
            refine ⟨bB1.trans (O2.below (Nat.le_refl _)), ntp, ntc, nlp, nlc, nkp, nkc, ?_, ?_, ?_⟩
            · rw [hr', HF.out, if_pos ⟨rfl, hfit⟩]
              exact G2F
            · rw [HM.out]
              exact (O2.block (f + 1) (by omega) ltf).trans HGL.out
            · rw [hr', HF.out, if_pos ⟨rfl, hfit⟩]
              exact uRT1.tk (TK.of_only (T := 25) O2 G1F) (by decide) (by decide)
          clear O2 G2F HGL G1F G1X HM oRT1 uRT1 bB1 HF hr'
          have hw1 := Hw1.out
          go_wp2
          go_ret2
          exact ⟨by rw [decide_eq_true hfit]; rfl, HJ.out⟩
        | false =>
          subst hok
          have HJ : Hid (CJ f size t hd ss W1 (l ++ [m]) V) := by
            refine ⟨bB1, tp, tc, lp, lc, kp, kc, ?_, ?_, ?_⟩
            · rw [hr', HF.out, if_neg (by simp)]
              exact G1F
            · rw [HM.out]
              exact HGL.out
            · rw [hr', HF.out, if_neg (by simp)]
              exact oRT1
          clear HGL G1F G1X HM oRT1 uRT1 bB1 HF hr'
          have hw1 := Hw1.out
          go_wp2
          go_ret2
          exact ⟨by rw [decide_eq_true hfit]; rfl, HJ.out⟩
      · have HJ : Hid (CJ f size t hd ss W1 (l ++ [m]) V) := by
          refine ⟨bB1, tp, tc, lp, lc, kp, kc, ?_, ?_, ?_⟩
          · rw [hr', HF.out, if_neg (fun h => hfit h.2)]
            exact G1F
          · rw [HM.out]
            exact HGL.out
          · rw [hr', HF.out, if_neg (fun h => hfit h.2)]
            exact oRT1
        clear HGL G1F G1X HM oRT1 uRT1 bB1 HF hr'
        have hfit2 : t < q.t := by omega
        cases hok : ok with
        | true =>
          subst hok
          have hw1 := Hw1.out
          go_wp2
          go_ret2
          exact ⟨by rw [decide_eq_false (Int.not_le.2 hfit2)]; rfl, HJ.out⟩
        | false =>
          subst hok
          have hw1 := Hw1.out
          go_wp2
          go_ret2
          exact ⟨by rw [decide_eq_false (Int.not_le.2 hfit2)]; rfl, HJ.out⟩
    · have GX := set6 _ _ _ _ _ _ _ _ _ (.int .i64 q.e) (.int .i64 q.t) (.slice ntp q.tr.length ntc) (.int .i64 q.c) (.slice nlp q.li.length nlc) (.slice nkp q.lk.length nkc) gz
      have bU := sets_below nb (.int .i64 q.e) (.int .i64 q.t) (.slice ntp q.tr.length ntc) (.int .i64 q.c) (.slice nlp q.li.length nlc) (.slice nkp q.lk.length nkc)
      have uRT := nRT.tk (TK.of_only (T := 25) ((((((((Only.refl w.heap.size w5).setCell 0 (.int .i64 q.e)).setCell 1 (.int .i64 q.t)).setCell 2 (.slice ntp q.tr.length ntc)).setCell 3 (.int .i64 q.c)).setCell 4 (.slice nlp q.li.length nlc)).setCell 5 (.slice nkp q.lk.length nkc))) gz) (by decide) (by decide)
      have hgx : w.heap.size ≤ w.heap.size := Nat.le_refl _
      generalize ((((((w5.setCell ⟨w.heap.size, 0, none⟩ (.int .i64 q.e)).setCell ⟨w.heap.size, 1, none⟩ (.int .i64 q.t)).setCell ⟨w.heap.size, 2, none⟩ (.slice ntp q.tr.length ntc)).setCell ⟨w.heap.size, 3, none⟩ (.int .i64 q.c)).setCell ⟨w.heap.size, 4, none⟩ (.slice nlp q.li.length nlc)).setCell ⟨w.heap.size, 5, none⟩ (.slice nkp q.lk.length nkc)) = U at *
      obtain ⟨gx, hgxe⟩ : ∃ gx, gx = w.heap.size := ⟨_, rfl⟩
      rw [← hgxe] at GX ⊢
      have hgx : w.heap.size ≤ gx := by omega
      clear hgxe
      have oRT := hRT.later bU
      have UF := (bU.block f hlf).trans G0
      have UL := (bU.block (f + 1) hlf1).trans G1
      have U3 := (bU.block (S + 3) (by omega)).trans e3
      have ltx : gx < U.heap.size := (Array.getElem?_eq_some_iff.1 GX).1
      have O1 := (Only.refl (f + 1) U).setCell 0 (.int .i64 ((L : Int) + 1))
      have G1L := heap_setCell_same U (f + 1) 0 _ _ (.int .i64 ((L : Int) + 1)) UL
      have hltU : f + 1 < U.heap.size := (Array.getElem?_eq_some_iff.1 UL).1
      have G1F := (O1.block f (by omega) (by omega)).trans UF
      have G1X := (O1.block gx (by omega) ltx).trans GX
      have G13 := (O1.block (S + 3) (by omega) (by omega)).trans U3
      have tk1 := TK.of_only (T := 3) O1 UL
      have uRT1 := uRT.tk tk1 (by decide) (by decide)
      have oRT1 := oRT.tk tk1 (by decide) (by decide)
      have bB1 : Below f W1 (U.setCell ⟨f + 1, 0, none⟩ (.int .i64 ((L : Int) + 1))) := (hB.trans (bU.mono (by omega))).trans (O1.below (by omega))
      have kl : U.cell? ⟨f + 1, 0, none⟩ = some (.int .i64 (L : Int)) := by rw [cell_of_row _ _ _ _ _ _ UL]; rfl
      have zl : U.frozen? ⟨f + 1, 0, none⟩ = false := frz_of UL
      generalize hU1 : U.setCell ⟨f + 1, 0, none⟩ (.int .i64 ((L : Int) + 1)) = V at *
      have m0 : V.cell? ⟨gx, 0, none⟩ = some (.int .i64 q.e) := by rw [cell_of_row _ _ _ _ _ _ G1X]; rfl
      have m1 : V.cell? ⟨gx, 1, none⟩ = some (.int .i64 q.t) := by rw [cell_of_row _ _ _ _ _ _ G1X]; rfl
      have m2 : V.cell? ⟨gx, 2, none⟩ = some (.slice ntp q.tr.length ntc) := by rw [cell_of_row _ _ _ _ _ _ G1X]; rfl
      have m3 : V.cell? ⟨gx, 3, none⟩ = some (.int .i64 q.c) := by rw [cell_of_row _ _ _ _ _ _ G1X]; rfl
      have m4 : V.cell? ⟨gx, 4, none⟩ = some (.slice nlp q.li.length nlc) := by rw [cell_of_row _ _ _ _ _ _ G1X]; rfl
      have m5 : V.cell? ⟨gx, 5, none⟩ = some (.slice nkp q.lk.length nkc) := by rw [cell_of_row _ _ _ _ _ _ G1X]; rfl
      have mt : V.cell? ⟨S + 3, 0, none⟩ = some (.int .i64 t) := by rw [cell_of_row _ _ _ _ _ _ G13]; rfl
      have n0 : V.cell? ⟨f, 0, none⟩ = some (.int .i64 r.e) := by rw [cell_of_row _ _ _ _ _ _ G1F]; rfl
      have n1 : V.cell? ⟨f, 1, none⟩ = some (.int .i64 r.t) := by rw [cell_of_row _ _ _ _ _ _ G1F]; rfl
      have n2 : V.cell? ⟨f, 2, none⟩ = some (.slice tp r.tr.length tc) := by rw [cell_of_row _ _ _ _ _ _ G1F]; rfl
      have n3 : V.cell? ⟨f, 3, none⟩ = some (.int .i64 r.c) := by rw [cell_of_row _ _ _ _ _ _ G1F]; rfl
      have n4 : V.cell? ⟨f, 4, none⟩ = some (.slice lp r.li.length lc) := by rw [cell_of_row _ _ _ _ _ _ G1F]; rfl
      have n5 : V.cell? ⟨f, 5, none⟩ = some (.slice kp r.lk.length kc) := by rw [cell_of_row _ _ _ _ _ _ G1F]; rfl
      have v0 : V.frozen? ⟨f, 0, none⟩ = false := frz_of G1F
      have v1 : V.frozen? ⟨f, 1, none⟩ = false := frz_of G1F
      have v2 : V.frozen? ⟨f, 2, none⟩ = false := frz_of G1F
      have v3 : V.frozen? ⟨f, 3, none⟩ = false := frz_of G1F
      have v4 : V.frozen? ⟨f, 4, none⟩ = false := frz_of G1F
      have v5 : V.frozen? ⟨f, 5, none⟩ = false := frz_of G1F
      have HM : Hid (((min (l ++ [m]).length ss.length : Nat) : Int) = (L : Int) + 1) := HMin.out
      have HGL : Hid (V.heap[f + 1]? = some (.cells #[.int .i64 ((L : Int) + 1)] 3 (0, 0))) := by
        show _ = _
        rw [G1L]
        rfl
      clear GX bU uRT nRT hH0 hH1 hH1b hH1c hH2 hH3 hH5 HCe HFol nb nb5 oRT UF UL U3 O1 G1L G13 tk1 bD bDa bDb bDc cw c0 c2 cl
      by_cases hfit : q.t ≤ t
      · cases hok : ok with
        | true =>
          subst hok
          have O2 := (((((((Only.refl f V).setCell 0 (.int .i64 q.e)).setCell 1 (.int .i64 q.t)).setCell 2 (.slice ntp q.tr.length ntc)).setCell 3 (.int .i64 q.c)).setCell 4 (.slice nlp q.li.length nlc)).setCell 5 (.slice nkp q.lk.length nkc))
          have G2F := set6 _ _ _ _ _ _ _ _ _ (.int .i64 q.e) (.int .i64 q.t) (.slice ntp q.tr.length ntc) (.int .i64 q.c) (.slice nlp q.li.length nlc) (.slice nkp q.lk.length nkc) G1F
          have ltf : f + 1 < V.heap.size := (Array.getElem?_eq_some_iff.1 HGL.out).1
          have HJ : Hid (CJ f size t hd ss W1 (l ++ [m]) ((((((V.setCell ⟨f, 0, none⟩ (.int .i64 q.e)).setCell ⟨f, 1, none⟩ (.int .i64 q.t)).setCell ⟨f, 2, none⟩ (.slice ntp q.tr.length ntc)).setCell ⟨f, 3, none⟩ (.int .i64 q.c)).setCell ⟨f, 4, none⟩ (.slice nlp q.li.length nlc)).setCell ⟨f, 5, none⟩ (.slice nkp q.lk.length nkc))) := by
            refine ⟨bB1.trans (O2.below (Nat.le_refl _)), ntp, ntc, nlp, nlc, nkp, nkc, ?_, ?_, ?_⟩
            · rw [hr', HF.out, if_pos ⟨rfl, hfit⟩]
              exact G2F
            · rw [HM.out]
              exact (O2.block (f + 1) (by omega) ltf).trans HGL.out
            · rw [hr', HF.out, if_pos ⟨rfl, hfit⟩]
              exact uRT1.tk (TK.of_only (T := 25) O2 G1F) (by decide) (by decide)
          clear O2 G2F HGL G1F G1X HM oRT1 uRT1 bB1 HF hr'
          have hw1 := Hw1.out
          go_wp2
          go_ret2
          exact ⟨by rw [decide_eq_true hfit]; rfl, HJ.out⟩
        | false =>
          subst hok
          have HJ : Hid (CJ f size t hd ss W1 (l ++ [m]) V) := by
            refine ⟨bB1, tp, tc, lp, lc, kp, kc, ?_, ?_, ?_⟩
            · rw [hr', HF.out, if_neg (by simp)]
              exact G1F
            · rw [HM.out]
              exact HGL.out
            · rw [hr', HF.out, if_neg (by simp)]
              exact oRT1
          clear HGL G1F G1X HM oRT1 uRT1 bB1 HF hr'
          have hw1 := Hw1.out
          go_wp2
          go_ret2
          exact ⟨by rw [decide_eq_true hfit]; rfl, HJ.out⟩
      · have HJ : Hid (CJ f size t hd ss W1 (l ++ [m]) V) := by
          refine ⟨bB1, tp, tc, lp, lc, kp, kc, ?_, ?_, ?_⟩
          · rw [hr', HF.out, if_neg (fun h => hfit h.2)]
            exact G1F
          · rw [HM.out]
            exact HGL.out
          · rw [hr', HF.out, if_neg (fun h => hfit h.2)]
            exact oRT1
        clear HGL G1F G1X HM oRT1 uRT1 bB1 HF hr'
        have hfit2 : t < q.t := by omega
        cases hok : ok with
        | true =>
          subst hok
          have hw1 := Hw1.out
          go_wp2
          go_ret2
          exact ⟨by rw [decide_eq_false (Int.not_le.2 hfit2)]; rfl, HJ.out⟩
        | false =>
          subst hok
          have hw1 := Hw1.out
          go_wp2
          go_ret2
          exact ⟨by rw [decide_eq_false (Int.not_le.2 hfit2)]; rfl, HJ.out⟩
  · have hn : ss[l.length]? = none := List.getElem?_eq_none (by omega)
    have hg : gC size hd ss t l m = (false, false) := by unfold gC; rw [hn]
    rw [hg]
    have emL : min l.length ss.length = ss.length := by omega
    rw [emL] at cl G1
    have HJ : Hid (CJ f size t hd ss W1 (l ++ [m]) w) := by
      refine ⟨hB, tp, tc, lp, lc, kp, kc, ?_, ?_, ?_⟩
      · rw [fnd_none hn]
        exact G0
      · rw [show min (l ++ [m]).length ss.length = ss.length by simp; omega]
        exact G1
      · rw [fnd_none hn]
        exact hRT
    clear hS hW1 hbw hQ hQl h1 h2 h3 hTD hT b0 b1 b2 b3 e0 e1 e2 e3 G0 G1 hRT hB hn hg emL
    go_enter Tryd.func30, Tryd.ntmps30
    go_wp2
    go_ret2
    exact ⟨rfl, HJ.out⟩

end Go.Proofs.YtpndpmkoegmbkaaDoor
