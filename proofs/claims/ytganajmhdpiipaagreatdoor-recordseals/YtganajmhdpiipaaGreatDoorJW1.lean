/- What this text proves: the walk of codec.Uint over this program, alone. What this text proves: the walk of the document's Uint (annalsref04) over this program: a number behind bytes, in new memory. What this text proves: the walk of the document's Write (annalsref06) over this program: a signature's bytes behind bytes. What this text proves: the walk of the document's Seal over this program (a signed record's bytes); both Seals answer alike. -/
import Derived.Test.YtganajmhdpiipaaGreatDoorCNumber
import Derived.Test.YtganajmhdpiipaaGreatDoorJV1
import Derived.Test.YtganajmhdpiipaaGreatDoorJSe
namespace Go.Proofs.YtganajmhdpiipaaGreatDoor.Vf
open Go.RowKit

set_option maxRecDepth 100000 in
set_option maxHeartbeats 400000 in
theorem cuint_any (v : Value) (l : List UInt8) (n : Int) (w : World) (h : HB w v l) (hbig : l.length ≤ 140737488355300) :
    Calls Tryz.prog 36 #[v, .int .i64 n] w fun e w' => ∃ p c, e = .returned (.slice p (l ++ numL (clampN n)).length c) ∧ w'.ownsRow w.heap.size 5 1 (.slice p (l ++ numL (clampN n)).length c) (l ++ numL (clampN n)).length (bcs (l ++ numL (clampN n))) ∧ Below w.heap.size w w' := by
  obtain ⟨p, c, rfl⟩ := h.shape
  have hg := grown_any _ l 9 w h (by omega) (by omega)
  generalize hR : l ++ numL (clampN n) = R
  have HR : Hid (l ++ numL (clampN n) = R) := hR
  clear hR h
  go_enter Tryz.func36, Tryz.ntmps36
  go_wp2_with fail
  refine hg.mono ?_
  rintro e w1 ⟨p1, c1, rfl, hown1, hb1⟩
  have hc := cnum_any p1 c1 l w.heap.size n w1 hown1 hb1.size hbig
  rw [HR.out] at hc
  clear hg hown1
  go_wp2_with fail
  refine hc.mono ?_
  rintro e w2 ⟨p2, c2, rfl, hown2, hb2⟩
  have hb02 := hb1.trans hb2
  clear hc hb1 hb2
  go_wp2
  go_ret
  exact ⟨_, _, rfl, hown2, hb02⟩

theorem clampN_nat (n : Nat) (h : n ≤ 4611686018427387904) : clampN (n : Int) = n := by unfold clampN; omega

end Go.Proofs.YtganajmhdpiipaaGreatDoor.Vf

namespace Go.Proofs.YtganajmhdpiipaaGreatDoor.Vf
open Go.RowKit

def natOf : Value → Nat | .int _ i => i.toNat | _ => 0

/-- One byte in a new block is a row that the call owns. -/
theorem owns_one (w : World) (base : Nat) (e : TypeId) (y : UInt8) (V : Value) (hV : V = bc y) (hb : base ≤ w.heap.size) : (w.alloc (.cells #[V] e)).ownsRow base e 1 (.slice (some ⟨w.heap.size, 0, none⟩) 1 1) 1 (bcs [y]) := by
  subst hV
  exact ⟨rfl, .inr ⟨w.heap.size, 1, #[bc y], rfl, hb, heap_alloc_new w _, Nat.le_refl _, by unfold maxLen; omega, rfl, rfl⟩⟩

theorem low_byte (m : Nat) : Value.int .u8 ((m : Int) % 256) = bc (UInt8.ofNat m) := by
  unfold bc
  rw [show (m : Int) % 256 = ((m % 256 : Nat) : Int) by omega]
  simp

set_option maxRecDepth 100000 in
set_option maxHeartbeats 2000000 in
theorem ruint_any (v : Value) (l : List UInt8) (n : Int) (w : World) (h : HB w v l) (hbig : l.length ≤ 140737488355300) :
    Calls Tryz.prog 44 #[v, .int .i64 n] w fun e w' => ∃ p c, e = .returned (.slice p (l ++ numL (clampN n)).length c) ∧ w'.ownsRow w.heap.size 5 1 (.slice p (l ++ numL (clampN n)).length c) (l ++ numL (clampN n)).length (bcs (l ++ numL (clampN n))) ∧ Below w.heap.size w w' := by
  obtain ⟨p, c, rfl⟩ := h.shape
  obtain ⟨i0, hi, hz0, hz1, hz2⟩ := info_parts i_u8
  have hNle := clampN_le n
  have hcl : max 0 (min n 4611686018427387904) = (clampN n : Int) := by unfold clampN; omega
  generalize clampN n = N at *
  have hc8 := cnt_le8 N (by omega)
  have HNL : Hid (numL N = UInt8.ofNat (ndigs N).length :: ndigs N) := by show _ = _; unfold numL; rw [ndigs_length]
  have hdl : (ndigs N).length ≤ 8 := by rw [ndigs_length]; exact hc8
  go_enter Tryz.func44, Tryz.ntmps44
  go_wp2
  go_loopw [1, 5] (fun i v wr => ∃ (m : Nat) (L : List UInt8) (p5 : Option Addr) (c5 : Nat), m ≤ N ∧ i = .int .i64 (m : Int) ∧ v = .slice p5 L.length c5 ∧ HB wr (.slice p5 L.length c5) L ∧ ndigs N = ndigs m ++ L ∧ Below w.heap.size w wr)
    (fun i _ _ => natOf i)
  case atStart => exact ⟨N, [], none, 0, Nat.le_refl _, rfl, rfl, HB.nil _, by simp, Below.refl _ _⟩
  case round =>
    obtain ⟨m, L, p5, c5, hmN, rfl, rfl, hL, hdig, hbe⟩ := hrel
    have hsz := hbe.size
    have hLl : L.length ≤ 8 := by
      have := congrArg List.length hdig
      rw [List.length_append] at this
      omega
    by_cases hm : 0 < m
    · have HD : Hid (ndigs N = ndigs (m / 256) ++ (UInt8.ofNat m :: L)) := by
        show _ = _
        rw [hdig, ndigs_step m (by omega) (by omega)]
        simp
      have hm2 : (0 : Int) < (m : Int) := by omega
      have hown0 := owns_one wr w.heap.size 5 (UInt8.ofNat m) _ (low_byte m) hsz
      have hL0 := hL.later ((Below.refl _ wr).alloc (Nat.le_refl _) (.cells #[Value.int .u8 ((m : Int) % 256)] 5))
      clear hdig hL h HNL
      go_wp2_with (first | (at_builtin; refine wpList_append_hb rfl (.tmp 14) (.tmp 15) 22 rfl w.heap.size 5 Tryz.underlying22 i_u8 _ _ _ rfl hown0 _ _ _ L rfl hL0 ?sa ?sb ?_))
      case sa => omega
      case sb => simp; omega
      intro v2 w2 hown2 hgrow2
      have hb2 : Below w.heap.size w w2 := (hbe.alloc hsz _).grown hgrow2 (by simp; omega) (by intro k hk; cases hk; exact hsz)
      have hh : HB w2 v2 (UInt8.ofNat m :: L) := by
        rw [← bcs_append] at hown2
        exact HB.of_owns hown2
      obtain ⟨p2, c2, rfl⟩ := hh.shape
      have HH : Hid (HB w2 (.slice p2 (UInt8.ofNat m :: L).length c2) (UInt8.ofNat m :: L)) := hh
      clear hgrow2 hown2 hown0 hL0 hbe hh
      go_wp2
      exact ⟨⟨m / 256, UInt8.ofNat m :: L, p2, c2, by omega, by rw [show ((m / 256 : Nat) : Int) = (m : Int) / 256 by omega], rfl, HH.out, HD.out, hb2⟩, by simp [natOf]; omega⟩
    · obtain rfl : m = 0 := by omega
      rw [ndigs_zero, List.nil_append] at hdig
      rw [hdig] at HNL
      have hl1 := h.later hbe
      have h2 : HB (wr.alloc (.cells #[] 5)) (.slice p l.length c) l := hl1.later ((Below.refl _ wr).alloc (Nat.le_refl _) _)
      have hb1 : Below w.heap.size w (wr.alloc (.cells #[] 5)) := hbe.alloc hsz _
      have hL1 : HB (wr.alloc (.cells #[] 5)) (.slice p5 L.length c5) L := hL.later ((Below.refl _ wr).alloc (Nat.le_refl _) _)
      clear hdig h hl1 hmN
      go_wp2_with (first | (at_builtin; refine wpList_append_hb rfl (.tmp 19) (.tmp 20) 22 rfl wr.heap.size 5 Tryz.underlying22 i_u8 _ 0 [] rfl (World.ownsRow_made wr #[] 0 (Nat.le_refl _) (Nat.zero_le _) rfl) _ _ _ l rfl h2 ?qa ?qb ?_))
      case qa => omega
      case qb => simp
      intro v3 w3 hown3 hgrow3
      have hbr3 : Below wr.heap.size wr w3 := ((Below.refl _ wr).alloc (Nat.le_refl _) _).grown hgrow3 (by simp) (by intro k hk; cases hk; exact Nat.le_refl _)
      have hb3 : Below w.heap.size w w3 := hbe.trans (hbr3.mono hsz)
      have hs3 := hb3.size
      have hown3' : w3.ownsRow wr.heap.size 5 1 v3 l.length (bcs l) := by simpa using hown3
      obtain ⟨p3, c3, rfl⟩ := owns_shape hown3'
      have hsr3 := hbr3.size
      clear hown3 hgrow3 h2 hL1 hb1
      have HV : Hid (Value.int .u8 (L.length : Int) = bc (UInt8.ofNat L.length)) := by show Value.int .u8 (L.length : Int) = bc (UInt8.ofNat L.length); simp [bc]; omega
      go_wp2_with (first | (at_builtin; refine wpList_append_own _ rfl (.tmp 21) (.tmp 25) 22 rfl wr.heap.size 5 i0 (.int .u8 0) 1 1 Tryz.underlying22 hi hz0 hz1 hz2 rfl (by decide) _ _ _ rfl (hown3'.alloc _) ⟨w3.heap.size, 0, none⟩ 1 1 [.int .u8 (L.length : Int)] rfl rfl ?ua ?ub ?uc ?ud ?ue ?_))
      case ua => exact cell_one_new _ _ _
      case ub => intro u hu; simp at hu; subst hu; rfl
      case uc => unfold maxLen; omega
      case ud => omega
      case ue => simp; omega
      intro v4 w4 hown4 hgrow4 _
      have hbr4 : Below wr.heap.size wr w4 := (hbr3.alloc hsr3 _).grown hgrow4 (by simp; omega) (fun k hk => (hown3'.lt k hk).1)
      have hL4 := hL.later hbr4
      have hb4 : Below w.heap.size w w4 := hbe.trans (hbr4.mono hsz)
      have hsr4 := hbr4.size
      have hs4 := hb4.size
      rw [HV.out, show bcs l ++ [bc (UInt8.ofNat L.length)] = bcs (l ++ [UInt8.ofNat L.length]) by simp [bcs]] at hown4
      obtain ⟨p4, c4, rfl⟩ := owns_shape hown4
      clear hgrow4 hown3' hbr3 hb3 hs3 HV hL hbe
      go_wp2_with (first | (at_builtin; refine wpList_append_hb rfl (.tmp 27) (.tmp 28) 22 rfl wr.heap.size 5 Tryz.underlying22 i_u8 _ _ _ rfl hown4 _ _ _ L rfl hL4 ?ra ?rb ?_))
      case ra => omega
      case rb => exact hsr4
      intro v5 w5 hown5 hgrow5
      have hb5 : Below w.heap.size w w5 := hb4.grown hgrow5 hs4 (fun k hk => Nat.le_trans hsz (hown4.lt k hk).1)
      have HE : Hid (l ++ [UInt8.ofNat L.length] ++ L = l ++ numL N) := by show _ = _; rw [HNL.out]; simp
      have HQ : Hid ((l ++ numL N).length = l.length + 1 + L.length) := by show _ = _; rw [← HE.out]; simp; omega
      rw [← bcs_append, HE.out, ← HQ.out] at hown5
      have hown6 := owns_mono hown5 hsz
      obtain ⟨p6, c6, rfl⟩ := owns_shape hown6
      have H6 : Hid (w5.ownsRow w.heap.size 5 1 (.slice p6 (l ++ numL N).length c6) (l ++ numL N).length (bcs (l ++ numL N))) := hown6
      clear hgrow5 hown4 hown5 hown6 hL4 hb4 HE HQ
      go_wp2
      go_ret
      exact ⟨_, _, rfl, H6.out, hb5⟩

end Go.Proofs.YtganajmhdpiipaaGreatDoor.Vf

namespace Go.Proofs.YtganajmhdpiipaaGreatDoor.Vf
open Go.RowKit

/-- A signature's bytes behind bytes. -/
def wrF (l : List UInt8) (idx : Int) (ls ps : List (List UInt8)) : List UInt8 := l ++ numL (clampN idx) ++ ls.flatten ++ ps.flatten

theorem flat_snoc {ls : List (List UInt8)} {k : Nat} {x : List UInt8} (h : ls[k]? = some x) : (ls.take (k + 1)).flatten = (ls.take k).flatten ++ x := by
  rw [List.take_add_one, h]
  simp

theorem flat_le {ls : List (List UInt8)} (k : Nat) : (ls.take k).flatten.length ≤ ls.flatten.length := by
  have := congrArg (fun x => (List.flatten x).length) (List.take_append_drop k ls)
  simp only [List.flatten_append, List.length_append] at this
  omega

theorem num_short (idx : Int) : (numL (clampN idx)).length ≤ 9 := by
  rw [numL_length]
  have := cnt_le8 (clampN idx) (by have := clampN_le idx; omega)
  omega

set_option maxRecDepth 100000 in
set_option maxHeartbeats 4000000 in
theorem rmwrite_any (v ca pa : Value) (l : List UInt8) (idx : Int) (ls ps : List (List UInt8)) (w : World) (h : HB w v l) (hc : PA w ca ls) (hp : PA w pa ps) (hbig : l.length + ls.flatten.length + ps.flatten.length ≤ 140737488355200) :
    Calls Tryz.prog 20 #[v, .agg #[.int .i64 idx, ca, pa]] w fun e w' => ∃ p c, e = .returned (.slice p (wrF l idx ls ps).length c) ∧ w'.ownsRow w.heap.size 5 1 (.slice p (wrF l idx ls ps).length c) (wrF l idx ls ps).length (bcs (wrF l idx ls ps)) ∧ Below w.heap.size w w' := by
  obtain ⟨pv, cv, rfl⟩ := h.shape
  obtain ⟨pc, cc, rfl⟩ := hc.shape
  obtain ⟨pp, cp, rfl⟩ := hp.shape
  have hU := fun w' h' => ruint_any (.slice pv l.length cv) l idx w' h' (by omega)
  have hns := num_short idx
  have HF : Hid (wrF l idx ls ps = l ++ numL (clampN idx) ++ ls.flatten ++ ps.flatten) := rfl
  generalize wrF l idx ls ps = F at *
  have hRl : (l ++ numL (clampN idx)).length = l.length + (numL (clampN idx)).length := List.length_append
  generalize l ++ numL (clampN idx) = R at *
  have hR : R.length + ls.flatten.length + ps.flatten.length ≤ 140737488355300 := by omega
  clear hRl hns hbig
  obtain ⟨EE, hEE⟩ : ∃ EE : Nat → List UInt8, EE = fun k => R ++ (ls.take k).flatten := ⟨_, rfl⟩
  have HE0 : Hid (EE 0 = R) := by show _ = _; rw [hEE]; simp
  have HE1 : Hid (∀ k x, ls[k]? = some x → EE (k + 1) = EE k ++ x) := by
    show ∀ k x, _ → _
    intro k x hx
    rw [hEE]
    simp only [flat_snoc hx, List.append_assoc]
  have HEn : Hid (EE ls.length = R ++ ls.flatten) := by show _ = _; rw [hEE]; simp
  have HEL : Hid (∀ k, (EE k).length ≤ R.length + ls.flatten.length) := by
    show ∀ k, _
    intro k
    have := flat_le (ls := ls) k
    rw [hEE]
    simp only [List.length_append]
    omega
  clear hEE
  obtain ⟨GG, hGG⟩ : ∃ GG : Nat → List UInt8, GG = fun k => (R ++ ls.flatten) ++ (ps.take k).flatten := ⟨_, rfl⟩
  have HG0 : Hid (GG 0 = EE ls.length) := by show _ = _; rw [HEn.out, hGG]; simp
  have HG1 : Hid (∀ k x, ps[k]? = some x → GG (k + 1) = GG k ++ x) := by
    show ∀ k x, _ → _
    intro k x hx
    rw [hGG]
    simp only [flat_snoc hx, List.append_assoc]
  have HGn : Hid (GG ps.length = F) := by show _ = _; rw [HF.out, hGG]; simp
  have HGL : Hid (∀ k, (GG k).length ≤ R.length + ls.flatten.length + ps.flatten.length) := by
    show ∀ k, _
    intro k
    have := flat_le (ls := ps) k
    rw [hGG]
    simp only [List.length_append]
    omega
  clear hGG HF HEn
  generalize ls.flatten.length = LL at *
  generalize ps.flatten.length = PL at *
  have bA := (Below.refl _ w).alloc (Nat.le_refl _) (.cells #[.int .i64 idx, .slice pc ls.length cc, .slice pp ps.length cp] 27)
  have g1 := heap_alloc_new w (.cells #[.int .i64 idx, .slice pc ls.length cc, .slice pp ps.length cp] 27)
  have mc := hc.len.2
  have mp := hp.len.2
  unfold maxLen at mc mp
  go_enter Tryz.func20, Tryz.ntmps20
  go_wp2_with fail
  generalize hW : w.alloc (.cells #[.int .i64 idx, .slice pc ls.length cc, .slice pp ps.length cp] 27) = W at *
  clear hW
  have s1 : W.cell? ⟨w.heap.size, 1, none⟩ = some (.slice pc ls.length cc) := by rw [cell_of_row _ _ 1 _ _ _ g1]; rfl
  have s2 : W.cell? ⟨w.heap.size, 2, none⟩ = some (.slice pp ps.length cp) := by rw [cell_of_row _ _ 2 _ _ _ g1]; rfl
  refine (hU _ (h.later bA)).mono ?_
  rintro e w1 ⟨p1, c1, rfl, o1, hb1⟩
  have x1 := cell_later hb1 s1
  have sA := bA.size
  rw [← HE0.out] at o1
  have hcW := hc.later bA
  have hpW := hp.later bA
  clear hU h hc hp g1 s1
  have HR0 : Hid (R = EE 0) := HE0.out.symm
  obtain ⟨N, hN⟩ : ∃ N, N = ls.length := ⟨_, rfl⟩
  obtain ⟨M, hM⟩ : ∃ M, M = ps.length := ⟨_, rfl⟩
  rw [← hN] at hcW mc HG0 x1 ⊢
  rw [← hM] at hpW mp HGn s2 ⊢
  have HN : Hid (N = ls.length) := hN
  have HM : Hid (M = ps.length) := hM
  clear hN hM
  go_wp2
  rw [HR0.out]
  go_loopw [5, 17] (fun v i wr => ∃ k : Nat, k ≤ N ∧ i = .int .i64 k ∧ wr.ownsRow W.heap.size 5 1 v (EE k).length (bcs (EE k)) ∧ Below W.heap.size W wr) (fun _ i _ => N - (intOf i).toNat)
  case atStart => exact ⟨0, Nat.zero_le _, rfl, o1, hb1⟩
  case round =>
    obtain ⟨k, hk, rfl, hown, hbe⟩ := hrel
    clear o1 hb1
    by_cases hlt : k < N
    · obtain ⟨b1, o1, rfl⟩ := hcW.addr (by omega)
      obtain ⟨q6, k6, x, gx, ec, hx⟩ := (hcW.later hbe).get k hlt
      have hlt2 : (k : Int) < (N : Int) := by omega
      have HZ : Hid (EE (k + 1) = EE k ++ x) := HE1.out k x gx.out
      have hEk := HEL.out (k + 1)
      rw [HZ.out, List.length_append] at hEk
      have hsz := hbe.size
      generalize hX : EE k = X at *
      clear hX gx
      go_wp2_with (first | (at_builtin; refine wpList_append_hb rfl (.tmp 21) (.tmp 22) 22 rfl W.heap.size 5 Tryz.underlying22 i_u8 _ _ _ rfl hown _ _ _ x rfl hx ?sa ?sb ?_))
      case sa => omega
      case sb => omega
      intro v5 w5 hown5 hgrow5
      have hb5 : Below W.heap.size W w5 := hbe.grown hgrow5 hsz (fun k hk => (hown.lt k hk).1)
      have hown6 : w5.ownsRow W.heap.size 5 1 v5 (EE (k + 1)).length (bcs (EE (k + 1))) := by
        rw [HZ.out, List.length_append, bcs_append]
        exact hown5
      clear hown hown5 hgrow5 hbe hx
      go_wp2
      go_roundw
      case rel => first | exact ⟨k + 1, by omega, by go_num, hown6, hb5⟩ | ((repeat apply Exists.intro); exact ⟨⟨k + 1, by omega, by go_num, hown6, hb5⟩, rfl⟩)
      case measure => simp [intOf]; omega
    · obtain rfl : N = k := by omega
      have x2 := cell_later hbe s2
      rw [← HG0.out] at hown
      clear hcW hlt HE0 HE1 HEL HR0
      go_wp2
      go_loopw [5, 28] (fun v i wr => ∃ k : Nat, k ≤ M ∧ i = .int .i64 k ∧ wr.ownsRow W.heap.size 5 1 v (GG k).length (bcs (GG k)) ∧ Below W.heap.size W wr) (fun _ i _ => M - (intOf i).toNat)
      case atStart => exact ⟨0, Nat.zero_le _, rfl, hown, hbe⟩
      case round =>
        clear hown hbe x2
        obtain ⟨k, hk, rfl, hown, hbe⟩ := hrel
        by_cases hlt : k < M
        · obtain ⟨b1, o1, rfl⟩ := hpW.addr (by omega)
          obtain ⟨q6, k6, x, gx, ec, hx⟩ := (hpW.later hbe).get k hlt
          have hlt2 : (k : Int) < (M : Int) := by omega
          have HZ : Hid (GG (k + 1) = GG k ++ x) := HG1.out k x gx.out
          have hEk := HGL.out (k + 1)
          rw [HZ.out, List.length_append] at hEk
          have hsz := hbe.size
          generalize hX : GG k = X at *
          clear hX gx
          go_wp2_with (first | (at_builtin; refine wpList_append_hb rfl (.tmp 32) (.tmp 33) 22 rfl W.heap.size 5 Tryz.underlying22 i_u8 _ _ _ rfl hown _ _ _ x rfl hx ?ta ?tb ?_))
          case ta => omega
          case tb => omega
          intro v5 w5 hown5 hgrow5
          have hb5 : Below W.heap.size W w5 := hbe.grown hgrow5 hsz (fun k hk => (hown.lt k hk).1)
          have hown6 : w5.ownsRow W.heap.size 5 1 v5 (GG (k + 1)).length (bcs (GG (k + 1))) := by
            rw [HZ.out, List.length_append, bcs_append]
            exact hown5
          clear hown hown5 hgrow5 hbe hx
          go_wp2
          go_roundw
          case rel => first | exact ⟨k + 1, by omega, by go_num, hown6, hb5⟩ | ((repeat apply Exists.intro); exact ⟨⟨k + 1, by omega, by go_num, hown6, hb5⟩, rfl⟩)
          case measure => simp [intOf]; omega
        · obtain rfl : M = k := by omega
          rw [HGn.out] at hown
          have hown' := owns_mono hown sA
          have hb := bA.trans (hbe.mono sA)
          obtain ⟨p7, c7, rfl⟩ := owns_shape hown'
          clear hown hbe
          go_wp2
          go_ret
          exact ⟨_, _, rfl, hown', hb⟩

end Go.Proofs.YtganajmhdpiipaaGreatDoor.Vf

namespace Go.Proofs.YtganajmhdpiipaaGreatDoor
open Go.RowKit

theorem rmwrite_here (v ca pa : Value) (l : List UInt8) (idx : Int) (ls ps : List (List UInt8)) (w : World) (h : HB w v l) (hc : PA w ca ls) (hp : PA w pa ps) (hbig : l.length + ls.flatten.length + ps.flatten.length ≤ 140737488355200) :
    Calls Tryz.prog 20 #[v, .agg #[.int .i64 idx, ca, pa]] w fun e w' => ∃ p c, e = .returned (.slice p (wrF l idx ls ps).length c) ∧ w'.ownsRow w.heap.size 5 1 (.slice p (wrF l idx ls ps).length c) (wrF l idx ls ps).length (bcs (wrF l idx ls ps)) ∧ Below w.heap.size w w' :=
  Vf.rmwrite_any v ca pa l idx ls ps w h hc hp hbig

set_option maxRecDepth 100000 in
set_option maxHeartbeats 2000000 in
theorem rseal_yes (size e t c idx : Int) (tv lv kv cv pv : Value) (tr li : List UInt8) (lk ls ps : List (List UInt8)) (w : World) (h1 : HB w tv tr) (h2 : HB w lv li) (h3 : PA w kv lk) (h4 : PA w cv ls) (h5 : PA w pv ps) (hcan : canB size ⟨e, t, c, tr, li, lk⟩ = true) (hsh : shpR size idx ls ps = true) :
    Calls Tryz.prog 5 #[.int .i64 size, .agg #[.int .i64 e, .int .i64 t, tv, .int .i64 c, lv, kv, .int .i64 idx, cv, pv]] w fun x w' => ∃ v, x = .returned (.tuple #[v, .int .i64 0]) ∧ HB w' v (wrF (bytesL (encL ⟨e, t, c, tr, li, lk⟩)) idx ls ps) ∧ Below w.heap.size w w' := by
  obtain ⟨tp, tc, rfl⟩ := h1.shape
  obtain ⟨lp, lc, rfl⟩ := h2.shape
  obtain ⟨kp, kc, rfl⟩ := h3.shape
  obtain ⟨pc, cc, rfl⟩ := h4.shape
  obtain ⟨pp, cp, rfl⟩ := h5.shape
  have bA := (Below.refl w.heap.size w).alloc (Nat.le_refl _) (.cells #[.int .i64 e, .int .i64 t, .slice tp tr.length tc, .int .i64 c, .slice lp li.length lc, .slice kp lk.length kc, .int .i64 idx, .slice pc ls.length cc, .slice pp ps.length cp] 29)
  have gA := heap_alloc_new w (.cells #[.int .i64 e, .int .i64 t, .slice tp tr.length tc, .int .i64 c, .slice lp li.length lc, .slice kp lk.length kc, .int .i64 idx, .slice pc ls.length cc, .slice pp ps.length cp] 29)
  obtain ⟨V, hV⟩ : ∃ V, w.alloc (.cells #[.int .i64 e, .int .i64 t, .slice tp tr.length tc, .int .i64 c, .slice lp li.length lc, .slice kp lk.length kc, .int .i64 idx, .slice pc ls.length cc, .slice pp ps.length cp] 29) = V := ⟨_, rfl⟩
  rw [hV] at bA gA
  have hS : ∀ W, Below V.heap.size V W → (W.cell? ⟨w.heap.size, 6, none⟩ = some (.int .i64 idx) ∧ W.cell? ⟨w.heap.size, 7, none⟩ = some (.slice pc ls.length cc) ∧ W.cell? ⟨w.heap.size, 8, none⟩ = some (.slice pp ps.length cp)) := by
    intro W hb
    have g := (hb.block _ (Array.getElem?_eq_some_iff.1 gA).1).trans gA
    refine ⟨?_, ?_, ?_⟩ <;> (rw [cell_of_row _ _ _ _ _ _ g]; rfl)
  have q0 : V.cell? ⟨w.heap.size, 0, none⟩ = some (.int .i64 e) := by rw [cell_of_row _ _ 0 _ _ _ gA]; rfl
  have q1 : V.cell? ⟨w.heap.size, 1, none⟩ = some (.int .i64 t) := by rw [cell_of_row _ _ 1 _ _ _ gA]; rfl
  have q2 : V.cell? ⟨w.heap.size, 2, none⟩ = some (.slice tp tr.length tc) := by rw [cell_of_row _ _ 2 _ _ _ gA]; rfl
  have q3 : V.cell? ⟨w.heap.size, 3, none⟩ = some (.int .i64 c) := by rw [cell_of_row _ _ 3 _ _ _ gA]; rfl
  have q4 : V.cell? ⟨w.heap.size, 4, none⟩ = some (.slice lp li.length lc) := by rw [cell_of_row _ _ 4 _ _ _ gA]; rfl
  have q5 : V.cell? ⟨w.heap.size, 5, none⟩ = some (.slice kp lk.length kc) := by rw [cell_of_row _ _ 5 _ _ _ gA]; rfl
  have hs0 := (canB_size hcan).1
  have hs1 := (canB_size hcan).2
  have hEl := encL_len hcan
  have hF1 := flat_small hsh hs0 hs1
  have hE := rencode_yes size e t c _ _ _ tr li lk V (h1.later bA) (h2.later bA) (h3.later bA) hcan
  have hH := fun W (hb : Below V.heap.size V W) => whole_any size idx (.slice pc ls.length cc) (.slice pp ps.length cp) ls ps W (h4.later (bA.trans (hb.mono bA.size))) (h5.later (bA.trans (hb.mono bA.size))) hs0 hs1
  rw [hsh] at hH
  obtain ⟨EL, hEL⟩ : ∃ EL, EL = encL ⟨e, t, c, tr, li, lk⟩ := ⟨_, rfl⟩
  rw [← hEL] at hE hEl ⊢
  have hBl := bytesL_big' EL (by omega)
  have hP4 := fun W (hb : Below V.heap.size V W) => h4.later (bA.trans (hb.mono bA.size))
  have hP5 := fun W (hb : Below V.heap.size V W) => h5.later (bA.trans (hb.mono bA.size))
  have hMW := fun v W (hv : HB W v (bytesL EL)) (hb : Below V.heap.size V W) => rmwrite_here v (.slice pc ls.length cc) (.slice pp ps.length cp) (bytesL EL) idx ls ps W hv (hP4 W hb) (hP5 W hb) (by omega)
  obtain ⟨BE, hBE⟩ : ∃ BE, BE = bytesL EL := ⟨_, rfl⟩
  have hCB := fun v W (hv : HB W v EL) => rbytes_any (.slice none 0 0) v [] EL W (HB.nil W) hv (by simp; omega)
  rw [List.nil_append, ← hBE] at hCB
  rw [← hBE] at hMW ⊢
  clear hEL hEl hF1 hBl hBE hcan hsh hs0 hs1 h1 h2 h3 h4 h5 hP4 hP5
  obtain ⟨WF, hWF⟩ : ∃ WF, WF = wrF BE idx ls ps := ⟨_, rfl⟩
  rw [← hWF] at hMW ⊢
  clear hWF
  go_enter Tryz.func5, Tryz.ntmps5
  go_wp2_with (first
    | (go_at_call 18; refine hE.mono ?_; rintro x w1 ⟨v1, rfl, k1, c1⟩; obtain ⟨z6, z7, z8⟩ := hS w1 c1; obtain ⟨p1, cp1, hv1⟩ := k1.shape; subst hv1)
    | (go_at_call 19; refine (hH _ c1).mono ?_; rintro x w2 ⟨rfl, c2⟩))
  have d2 := c1.trans (c2.mono c1.size)
  have bD : Below w2.heap.size w2 w2.drew := (Below.refl _ _).drew
  have d3 := d2.trans (bD.mono d2.size)
  have hS2 := hS _ d2
  have hS3 := hS _ d3
  have k3 := (k1.later c2).later bD
  go_region_held3 (fun w' => w'.cell? ⟨w.heap.size, 6, none⟩ = some (.int .i64 idx) ∧ w'.cell? ⟨w.heap.size, 7, none⟩ = some (.slice pc ls.length cc) ∧ w'.cell? ⟨w.heap.size, 8, none⟩ = some (.slice pp ps.length cp)) (first | with_reducible exact hS2 | with_reducible exact hS3 | with_reducible exact hS4 | with_reducible exact hS5) (first
    | (go_at_call 21; refine (hCB _ _ k3).mono ?_; rintro x w4 ⟨p4, c4, rfl, o4, b4⟩; have d4 := d3.trans (b4.mono d3.size); have hS4 := hS _ d4; have k4 := HB.of_owns o4)
    | (go_at_call 20; refine (hMW _ _ k4 d4).mono ?_; rintro x w5 ⟨p5, c5, rfl, o5, b5⟩; have d5 := d4.trans (b5.mono d4.size); have hS5 := hS _ d5; have k5 := HB.of_owns o5))
  go_wp2
  go_ret2
  exact ⟨_, rfl, k5, bA.trans (d5.mono bA.size)⟩

/-- Both Seals answer alike. -/
theorem seals_two (size e t c idx : Int) (tv lv kv cv pv : Value) (tr li : List UInt8) (lk ls ps : List (List UInt8)) :
    ∃ (E : Int) (Z : List UInt8), (∀ w, HB w tv tr → HB w lv li → PA w kv lk → PA w cv ls → PA w pv ps → TD w → Calls Tryz.prog 4 #[.int .i64 size, .agg #[.int .i64 e, .int .i64 t, tv, .int .i64 c, lv, kv, .int .i64 idx, cv, pv]] w fun x w' => ∃ p q, x = .returned (.tuple #[.slice p Z.length q, .int .i64 E]) ∧ HB w' (.slice p Z.length q) Z ∧ Below w.heap.size w w') ∧
      (∀ w, HB w tv tr → HB w lv li → PA w kv lk → PA w cv ls → PA w pv ps → Calls Tryz.prog 5 #[.int .i64 size, .agg #[.int .i64 e, .int .i64 t, tv, .int .i64 c, lv, kv, .int .i64 idx, cv, pv]] w fun x w' => ∃ p q, x = .returned (.tuple #[.slice p Z.length q, .int .i64 E]) ∧ HB w' (.slice p Z.length q) Z ∧ Below w.heap.size w w') := by
  by_cases hg : canB size ⟨e, t, c, tr, li, lk⟩ = true ∧ shpR size idx ls ps = true
  · refine ⟨0, wrF (bytesL (encL ⟨e, t, c, tr, li, lk⟩)) idx ls ps, fun w h1 h2 h3 h4 h5 hTD => ?_, fun w h1 h2 h3 h4 h5 => ?_⟩
    · refine (seal_yes size e t c idx tv lv kv cv pv tr li lk ls ps w h1 h2 h3 h4 h5 hTD hg.1 hg.2).mono ?_
      rintro x w' ⟨v, rfl, hv, hb⟩
      obtain ⟨p, q, rfl⟩ := hv.shape
      exact ⟨p, q, rfl, hv, hb⟩
    · refine (rseal_yes size e t c idx tv lv kv cv pv tr li lk ls ps w h1 h2 h3 h4 h5 hg.1 hg.2).mono ?_
      rintro x w' ⟨v, rfl, hv, hb⟩
      obtain ⟨p, q, rfl⟩ := hv.shape
      exact ⟨p, q, rfl, hv, hb⟩
  · have hbad : canB size ⟨e, t, c, tr, li, lk⟩ = false ∨ shpR size idx ls ps = false := by
      cases h1 : canB size ⟨e, t, c, tr, li, lk⟩ <;> cases h2 : shpR size idx ls ps <;> simp_all
    refine ⟨1, [], fun w h1 h2 h3 h4 h5 hTD => ?_, fun w h1 h2 h3 h4 h5 => ?_⟩
    · exact (seal_no size e t c idx tv lv kv cv pv tr li lk ls ps w h1 h2 h3 h4 h5 hTD hbad).mono fun x w' ⟨he, hb⟩ => ⟨none, 0, he, HB.nil _, hb⟩
    · exact (rseal_no size e t c idx tv lv kv cv pv tr li lk ls ps w h1 h2 h3 h4 h5 hbad).mono fun x w' ⟨he, hb⟩ => ⟨none, 0, he, HB.nil _, hb⟩

end Go.Proofs.YtganajmhdpiipaaGreatDoor
