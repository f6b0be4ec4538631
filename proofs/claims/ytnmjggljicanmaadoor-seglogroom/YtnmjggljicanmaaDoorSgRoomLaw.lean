/- What this text proves: the walk of the statement SeglogRoom over this program: it answers true for any arguments, and writes nothing that was there. -/
import Derived.Test.YtnmjggljicanmaaDoorSgRmStep
import Derived.Test.YtnmjggljicanmaaDoorSgMul
import Derived.Test.YtnmjggljicanmaaDoorSgAwake
import Derived.Test.YtnmjggljicanmaaDoorSame
import Derived.Test.YtnmjggljicanmaaDoorUnguard
namespace Go.Proofs.YtnmjggljicanmaaDoor
open Go.RowKit

theorem rmu64 (n : Int) : ∃ U : Nat, IntKind.u64.wrap n = (U : Int) ∧ U < 18446744073709551616 := by
  have e : IntKind.u64.wrap n = n % 18446744073709551616 := by simp [IntKind.wrap, IntKind.bits, IntKind.signed]
  exact ⟨(n % 18446744073709551616).toNat, by rw [e]; omega, by omega⟩

theorem s_u8R : (Tryd.prog.info? 5).map (·.size) = some 1 := by kernel_rfl

set_option maxRecDepth 100000 in
set_option maxHeartbeats 4000000 in
theorem sroomWalk (v : Value) (ll : List (List UInt8)) (S n : Int) (w : World) (hp : PA w v ll) (hT : Tabs w) :
    Calls Tryd.prog 3 #[.int .i64 S, v, .int .i64 n] w fun x w' => x = .returned (.bool true) ∧ Below w.heap.size w w' := by
  have hs3 : 3 ≤ w.heap.size := cell_in (hT.2 0 _ rfl)
  obtain ⟨p, c, rfl⟩ := hp.shape
  have hpl := hp.len.2
  unfold maxLen at hpl
  obtain ⟨U, hU, hU2⟩ := rmu64 S
  obtain ⟨V, hV, hV2⟩ := rmu64 n
  obtain ⟨N, hN⟩ : ∃ N : Nat, N = 1 + U % 80 := ⟨_, rfl⟩
  obtain ⟨M, hM⟩ : ∃ M : Nat, M = 1 + V % 4000 := ⟨_, rfl⟩
  have eN : 1 + (U : Int) % 80 = (N : Int) := by omega
  have eM : 1 + (V : Int) % 4000 = (M : Int) := by omega
  have hN1 : 1 ≤ N ∧ N ≤ 80 := by omega
  have hM1 : 1 ≤ M ∧ M ≤ 4000 := by omega
  clear hN hM
  have hNw := fun W => new_any N W hN1.1 (by omega)
  have hA := new_alive N
  have hZ := new_zero N
  have hD : (DevS.new N).dead = false := rfl
  generalize DevS.new N = S0 at *
  go_enter Tryd.func3, Tryd.ntmps3
  go_wp2_with fail
  refine (hNw _).mono ?_
  rintro e w1 ⟨bd, bn, bm, rfl, hd1, hbd, hbn, hbm, hb1⟩
  have hO := open_new hd1 hZ hD
  rw [hA.2.2.1] at hO
  clear hNw hZ hD
  go_wp2_with fail
  refine hO.mono ?_
  rintro e w2 ⟨g, rfl, l2, hg2, hb2⟩
  have b02 := hb1.trans (hb2.mono hb1.size)
  have hI0 : RmI w w2.heap.size g bd bn N 0 w2 := ⟨0, S0, bm, 0, none, 0, [], l2, RB.nil _ _, hd1.later hb2, hA, by omega, by simp, by omega, hbm, (fun l hl => by cases hl), b02⟩
  have hgw : w.heap.size ≤ g := Nat.le_trans hb1.size hg2
  have hw2 : w.heap.size ≤ w2.heap.size := b02.size
  have hbs2 : w2.heap.size ≤ w2.heap.size := Nat.le_refl _
  have hbd' : w.heap.size ≤ bd := hbd
  have hbn' : w.heap.size ≤ bn := hbn
  clear hO l2 hd1 hb2 hb1 hA b02 hbm hg2
  obtain ⟨base, hbase⟩ : ∃ base, base = w2.heap.size := ⟨_, rfl⟩
  rw [← hbase] at hI0 hw2 hbs2
  rw [hbase] at hbs2
  have hbs3 : base ≤ w2.heap.size := by omega
  clear hbase hbs2
  go_wp2
  go_loopw [41] (fun i wr => ∃ k : Nat, k ≤ ll.length ∧ i = .int .i64 (k : Int) ∧ RmI w base g bd bn N (min k 8) wr ∧ base ≤ wr.heap.size) (fun i _ => ll.length - (Go.RowKit.intOf i).toNat)
  case atStart => exact ⟨0, Nat.zero_le _, rfl, hI0, hbs3⟩
  case round =>
    obtain ⟨k, hk, rfl, hI, hbs⟩ := hrel
    have hbe := hI.below
    by_cases hlt : k < ll.length
    · obtain ⟨bl, o, rfl⟩ := hp.addr (by omega)
      obtain ⟨q, kc, x, hx, hc, hu⟩ := hp.get k hlt
      have hlt2 : (k : Int) < (ll.length : Int) := by omega
      have e1 := cell_later hbe hc
      by_cases k8 : k < 8
      · have k8' : (k : Int) < 8 := by omega
        obtain ⟨m, hm⟩ : ∃ m, m = min x.length 700 := ⟨_, rfl⟩
        have hxl := hu.len
        have emin : (if (700 : Int) < (x.length : Int) then (700 : Int) else (x.length : Int)) = (m : Int) := by split <;> omega
        have emin2 : min (x.length : Int) 700 = (m : Int) := by omega
        have hmx : m ≤ x.length := by omega
        have hm7 : m ≤ 700 := by omega
        have hv := hu.front m hmx
        have k1 : ∀ w, (Instr.slice 31 (.slice q x.length kc) none (some (.int .i64 (m : Int))) none).run Tryd.prog w = .ok (.slice q m kc) w := fun w => run_upto (P := Tryd.prog) Tryd.underlying31 s_u8R q x.length kc m m rfl (by omega) w
        obtain ⟨b, hb⟩ : ∃ b, b = x.take m := ⟨_, rfl⟩
        have hbl : b.length = m := by rw [hb, List.length_take]; omega
        rw [← hb] at hv
        have hSt := rm_step hI hT hs3 hbd' hbn' hgw hw2 hbs (by omega) (by omega) b q kc (by rw [hbl]; exact hv) (by omega)
        rw [hbl, show min k 8 + 1 = min (k + 1) 8 by omega] at hSt
        clear hb hbl hv hm hx hc hu hxl hI hI0
        go_wp2_with fail
        refine hSt.mono ?_
        rintro e w3 ⟨z, rfl, h3, hs3'⟩
        clear hSt
        go_wp2
        go_roundw
        case rel => exact ⟨k + 1, by omega, by go_num, h3, by omega⟩
        case measure => simp [Go.RowKit.intOf]; omega
      · have k8' : ¬ (k : Int) < 8 := by omega
        have hI8 : RmI w base g bd bn N (min (k + 1) 8) wr := by rw [show min (k + 1) 8 = min k 8 by omega]; exact hI
        clear hx hc hu hI hI0
        go_wp2
        go_roundw
        case rel => exact ⟨k + 1, by omega, by go_num, hI8, hbs⟩
        case measure => simp [Go.RowKit.intOf]; omega
    · obtain rfl : k = ll.length := by omega
      obtain ⟨k, s, bm', c0, pr, cr, ls, l0, o0, d0, a0, hc0, hl0, hk0, hbm0, h90, hb0⟩ := hI
      have hls : ls.length ≤ 8 := by omega
      have hc9 : c0 ≤ 1600 := by omega
      have H9 : Hid (∀ l ∈ ls, l.length ≤ 140737488355328) := fun l hl => by have := h90 l hl; omega
      have H9b : Hid (∀ l ∈ ls, l.length ≤ 4000) := h90
      have bA := (Below.refl wr.heap.size wr).alloc (Nat.le_refl _) (.cells #[.int .u8 5] 5)
      have nA := heap_alloc_new wr (.cells #[.int .u8 5] 5)
      obtain ⟨wA, hwA⟩ : ∃ wA, wr.alloc (.cells #[.int .u8 5] 5) = wA := ⟨_, rfl⟩
      rw [hwA] at bA nA
      have cA : wA.cell? ⟨wr.heap.size, 0, none⟩ = some (bc 5) := by rw [cell_of_row _ _ _ _ _ _ nA]; rfl
      have hRp := repeat_any M hM1.1 (by omega) 5 wr.heap.size 0 1 wA cA (fun W => mul_small M hM1.2 W)
      clear hI0 hp hpl h90 cA nA hc0 hl0 hbs3
      go_wp2_with fail
      refine hRp.mono ?_
      rintro e w3 ⟨rfl, hR3, b3'⟩
      obtain ⟨b, hb⟩ : ∃ b : List UInt8, b = List.replicate M 5 := ⟨_, rfl⟩
      have hbl : M = b.length := by rw [hb]; simp
      rw [← hb] at hR3
      obtain ⟨gR, hgR⟩ : ∃ gR, gR = wA.heap.size := ⟨_, rfl⟩
      rw [← hgR] at hR3
      have hgR1 : wr.heap.size ≤ gR := by rw [hgR]; exact bA.size
      have b3 : Below wr.heap.size wr w3 := bA.trans (b3'.mono bA.size)
      (try rw [← hgR])
      subst hbl
      have hgR3 : gR < w3.heap.size := by
        obtain ⟨b', o', e, hc⟩ := hR3.addr hM1.1
        cases e
        obtain ⟨x, hx⟩ : ∃ x, b[0]? = some x := ⟨_, List.getElem?_eq_getElem (by omega)⟩
        exact cell_in (hc 0 x hx)
      have l3 := l0.same (b3.block _ l0.lt)
      have o3 := o0.later b3
      have d3 := d0.later b3
      have hb3 := hb0.trans (b3.mono hb0.size)
      have dl := dev_lt d0
      have gl := l0.lt
      obtain ⟨vs0, ho0, _⟩ := id o0
      have ol := own_lt ho0
      have HOl : Hid (∀ q, (Value.slice pr ls.length cr).ownBlock = some q → q < wr.heap.size) := ol
      have hRm := sroom_any (n := N) (x := k) l3 (by omega) hk0
      have hr1 : k + (tsec b.length + 1) ≤ N → (b.length : Int) ≤ (roomF N k : Int) := fun h => by have := room_yes N k b.length hM1.1 hM1.2 h; omega
      have hr2 : N < k + (tsec b.length + 1) → (roomF N k : Int) < (b.length : Int) := fun h => by have := room_no N k b.length hM1.1 h; omega
      generalize roomF N k = RM at *
      have s3 := b3.size
      clear hb hgR hRp bA b3' b3 l0 o0 d0 ol ho0 hwA
      go_wp2_with fail
      refine hRm.mono ?_
      rintro e w4 ⟨rfl, b4'⟩
      have s4 := b4'.size
      have l4 := l3.same (b4'.block _ l3.lt)
      have o4 := o3.later b4'
      have d4 := d3.later b4'
      have hR4 := hR3.later b4'
      have hb4 := hb3.trans (b4'.mono hb3.size)
      have hRc := srecs_any l4 o4 (by omega) H9.out
      clear hRm l3 o3 d3 hR3 b4' hb3
      go_wp2_with fail
      refine hRc.mono ?_
      rintro e w5 ⟨pW, cW, rfl, oW, b5'⟩
      have s5 := b5'.size
      have l5 := l4.same (b5'.block _ l4.lt)
      have o5 := o4.later b5'
      have d5 := d4.later b5'
      have hR5 := hR4.later b5'
      have hb5 := hb4.trans (b5'.mono hb4.size)
      have hIm := image_any d5
      clear hRc l4 o4 d4 hR4 b5' hb4
      go_wp2_with fail
      refine hIm.mono ?_
      rintro e w6 ⟨gI, rfl, im6, b6'⟩
      have s6 := b6'.size
      have l6 := l5.same (b6'.block _ l5.lt)
      have o6 := o5.later b6'
      have d6 := d5.later b6'
      have hR6 := hR5.later b6'
      have hb6 := hb5.trans (b6'.mono hb5.size)
      have oW6 := oW.later b6'
      have hrow : ∀ j, j < s.now.length → (nowF s j).length = 64 := fun j hj => (nowF_row d6.ok j hj).2
      have HRow : Hid (∀ j, j < s.now.length → (nowF s j).length = 64) := hrow
      have hT6 := hT.later hb6
      clear hIm l5 o5 d5 hR5 b6' hb5 oW hrow
      by_cases hf : N < k + (tsec b.length + 1)
      · have hroom := hr2 hf
        have hAp := append_full (p := some ⟨gR, 0, none⟩) (cp := b.length) l6 hM1.1 hM1.2 hf ⟨by omega, hk0⟩
        clear hr1 hr2 hf
        go_wp2_with fail
        refine hAp.mono ?_
        rintro e w7 ⟨rfl, b7'⟩
        have l7 := l6.same (b7'.block _ l6.lt)
        have o7 := o6.later b7'
        have d7 := d6.later b7'
        have hb7 := hb6.trans (b7'.mono hb6.size)
        have oW7 := oW6.later b7'
        have im7 := im6.later b7'
        have hRc := srecs_any l7 o7 (by omega) H9.out
        clear hAp l6 o6 d6 b7' hb6 oW6 im6 hR6 hT6
        go_wp2_with fail
        refine hRc.mono ?_
        rintro e w8 ⟨pX, cX, rfl, oX, b8'⟩
        have hb8 := hb7.trans (b8'.mono hb7.size)
        have d8 := d7.later b8'
        have im8 := im7.later b8'
        have hS := same_t _ _ ls ls w8 oX.pa (oW7.later b8').pa rfl
        have hIm := image_any d8
        clear hRc l7 o7 d7 b8' hb7 oW7 im7 oX d8
        go_wp2_with fail
        refine hS.mono ?_
        rintro e w9 ⟨rfl, hw9⟩
        subst hw9
        clear hS
        go_wp2_with fail
        refine hIm.mono ?_
        rintro e w10 ⟨gJ, rfl, jm, b10'⟩
        have hb10 := hb8.trans (b10'.mono hb8.size)
        have hS2 := same_t _ _ _ _ w10 (jm.pa HRow.out) ((im8.later b10').pa HRow.out) rfl
        have hAw := sawake_any w10 (hT.later hb10) (Nat.le_trans hs3 hb10.size)
        clear hIm jm im8 b10' hb8
        go_wp2_with fail
        refine hS2.mono ?_
        rintro e w11 ⟨rfl, hw11⟩
        subst hw11
        clear hS2
        go_wp2_with fail
        refine hAw.mono ?_
        rintro e w12 ⟨rfl, b12'⟩
        have hb12 := hb10.trans (b12'.mono hb10.size)
        go_wp2
        go_ret
        exact ⟨rfl, hb12⟩
      · have hf' : k + (tsec b.length + 1) ≤ N := by omega
        have hroom := hr1 hf'
        obtain ⟨vs6, ho6, _⟩ := id o6
        have hAp := append_log (base := base) l6 o6 (by omega) d6 a0 hT6 ⟨by omega, by omega, by omega⟩ hR6 (fun a ha => by cases ha; refine ⟨?_, ?_, ?_⟩ <;> (show gR ≠ _; omega)) hM1.1 hM1.2 hf' (by omega) (by omega) (by omega)
        clear hr1 hr2 hf
        go_wp2_with fail
        refine hAp.mono ?_
        rintro e w7 ⟨rfl, s', bm'', rs', d7, a7, e7, l7, o7, pt⟩
        obtain ⟨pr7, cr7, rfl⟩ := o7.pa.shape
        have hsty := sty_put d6 l6 ho6 pt
        have hR7 := hR6.part pt (fun a ha => by
          cases ha
          rintro (e | e | e | e | e)
          · have : gR = bd := e
            omega
          · have : gR = bn := e
            omega
          · have : gR = bm' := e
            omega
          · have : gR = g := e
            omega
          · have := HOl.out gR e.symm
            omega)
        obtain ⟨vsW, hoW, _⟩ := id oW6
        have oW7 := oW6.keep hsty (fun q hq => pt.2 q (own_lt hoW q hq) (by
          have hq4 := (hoW.lt q hq).1
          rintro (e | e | e | e | e)
          · omega
          · omega
          · omega
          · omega
          · have := HOl.out q e.symm
            omega))
        have hb7 : Below w.heap.size w w7 := hb6.trans (pt.below hb6.size (by
          rintro q (e | e | e | e | e)
          · omega
          · omega
          · omega
          · omega
          · have := (ho6.lt q e.symm).1
            omega))
        have s7 := pt.size
        have hRc := srecs_any l7 o7 (by simp; omega) (fun l hl => by
          rcases List.mem_append.1 hl with h | h
          · exact H9.out l h
          · simp at h; subst h; omega)
        have HWl : Hid (∀ q, (Value.slice pW ls.length cW).ownBlock = some q → w4.heap.size ≤ q ∧ q < w6.heap.size) := fun q hq => ⟨(hoW.lt q hq).1, own_lt hoW q hq⟩
        clear hAp l6 o6 d6 hb6 oW6 im6 hR6 hT6 d7 a7 e7 l7 o7 pt hsty hoW ho6
        obtain ⟨L2, hL2⟩ : ∃ L2, L2 = ls ++ [b] := ⟨_, rfl⟩
        rw [← hL2] at hRc
        go_wp2_with fail
        refine hRc.mono ?_
        rintro e w8 ⟨pX, cX, rfl, oX, b8'⟩
        have hsz := hb0.size
        have s8 := b8'.size
        have hb8 := hb7.trans (b8'.mono hb7.size)
        have oW8 := oW7.later b8'
        have hR8 := hR7.later b8'
        obtain ⟨vsX, hoX, _⟩ := id oX
        obtain ⟨vs8, ho8, hv8⟩ := id oW8
        have hvl : Hid (vs8.length = ls.length) := by have := ho8.1; rwa [Nat.mul_one] at this
        have HV8 : Hid (∀ (j : Nat) u l, vs8[j]? = some u → ls[j]? = some l → HB w8 u l ∧ BY w8 u) := hv8
        have HL2 : Hid (L2 = ls ++ [b]) := hL2
        obtain ⟨i0, hi0, hz0, hz1, hz2⟩ := info_parts i_byt
        have bB := (Below.refl _ w8).alloc (Nat.le_refl _) (.cells #[.slice (some ⟨gR, 0, none⟩) b.length b.length] 31)
        have oB := owns_later ho8 bB
        have hnews : ∀ j u, [Value.slice (some ⟨gR, 0, none⟩) b.length b.length][j]? = some u → (w8.alloc (.cells #[.slice (some ⟨gR, 0, none⟩) b.length b.length] 31)).cell? ((⟨w8.heap.size, 0, none⟩ : Addr).add j) = some u := World.news_of_block (cs := #[.slice (some ⟨gR, 0, none⟩) b.length b.length]) (t := 31) (fr := (0, 0)) (heap_alloc_new w8 _)
        have hsB : (w8.alloc (.cells #[.slice (some ⟨gR, 0, none⟩) b.length b.length] 31)).heap.size = w8.heap.size + 1 := by simp
        clear hRc hL2 oW7 hR7 b8' hb7 hv8 oW8
        go_wp2_with (first
          | (at_builtin; refine wpList_unguard (by first | rfl | decide | (simp [Region.wanted, yielded]; done)) ?_; refine wpList_append_lies _ rfl _ _ 22 rfl w4.heap.size 31 i0 _ 1 24 Tryd.underlying22 hi0 hz0 hz1 hz2 rfl (by omega) (.slice pW ls.length cW) ls.length vs8 rfl oB ⟨w8.heap.size, 0, none⟩ 1 1 [.slice (some ⟨gR, 0, none⟩) b.length b.length] rfl rfl hnews (by simp [Value.oneCell']) (by omega) (by unfold maxLen; omega) (by omega) (by rw [hsB]; omega) (w8.heap.size + 1) hsB ?_; intro g1 cap1 w9 hown9 hgrow9 hat9 hlt9))
        have p9 : Part (fun q => some q = (Value.slice pW ls.length cW).ownBlock) w8 w9 := ((Part.refl _ w8).alloc (.cells #[.slice (some ⟨gR, 0, none⟩) b.length b.length] 31)).grown hgrow9 (fun b e => e.symm)
        have sty9 : Sty 5 w8 w9 := (Sty.of_below bB).trans (Sty.of_grown oB hgrow9 (by decide))
        have hR9 := hR8.part p9 (fun a ha => by
          cases ha
          intro e
          have := HWl.out gR e.symm
          omega)
        have oX9 := oX.keep sty9 (fun q hq => p9.2 q (own_lt hoX q hq) (by
          intro e
          have := HWl.out q e.symm
          have := (hoX.lt q hq).1
          omega))
        have hb9 : Below w.heap.size w w9 := hb8.trans (p9.below hb8.size (by
          intro q e
          have := HWl.out q e.symm
          omega))
        have hS := same_t _ _ L2 (ls ++ [b]) w9 oX9.pa (pa_snoc (base := w4.heap.size) hown9 hvl.out (fun j u l hu hl => ((HV8.out j u l hu hl).1.sty (HV8.out j u l hu hl).2 sty9).1) hR9) HL2.out
        have hAw := sawake_any w9 (hT.later hb9) (Nat.le_trans hs3 hb9.size)
        clear hown9 hgrow9 hat9 hlt9 p9 sty9 hR9 oX9 oX hoX HV8 HL2 hvl ho8 bB oB hnews hsB hb8 hR8 HWl
        go_wp2_with fail
        refine hS.mono ?_
        rintro e w10 ⟨rfl, hw10⟩
        subst hw10
        clear hS
        go_wp2_with fail
        refine hAw.mono ?_
        rintro e w11 ⟨rfl, b11'⟩
        have hb11 := hb9.trans (b11'.mono hb9.size)
        go_wp2
        go_ret
        exact ⟨rfl, hb11⟩

end Go.Proofs.YtnmjggljicanmaaDoor
