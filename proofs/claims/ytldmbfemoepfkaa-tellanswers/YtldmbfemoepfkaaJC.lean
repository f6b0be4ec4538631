/- What this text proves: the walks of fields' Caught and of the closure that tell.ReadAnswer defers, over this program. What this text proves: the walk of tell.ReadAnswer over this program, whatever the bytes and the kind. -/
import Derived.Test.YtldmbfemoepfkaaJR
import Derived.Test.YtldmbfemoepfkaaTlNine
import Derived.Recover
import Derived.Test.YtldmbfemoepfkaaCloneO
namespace Go.Proofs.Ytldmbfemoepfkaa
open Go.RowKit

set_option maxHeartbeats 400000 in
theorem caught_nil (w : World) : Calls Try.prog 13 #[.nilIface] w fun x w' => x = .returned (.int .i64 0) ∧ w' = w := by
  go_enter Try.func13, Try.ntmps13
  go_wp2
  go_ret
  exact ⟨rfl, rfl⟩

set_option maxHeartbeats 400000 in
theorem caught_some (e : Int) (w : World) : Calls Try.prog 13 #[.iface 62 (.int .i64 e)] w fun x w' => x = .returned (.int .i64 e) ∧ w' = w := by
  have hta : ∀ v w, (Instr.typeAssert (.iface 62 v) 20 62 true).run Try.prog w = .ok (.tuple #[v, .bool true]) w := fun _ _ => by kernel_rfl
  go_enter Try.func13, Try.ntmps13
  go_wp2
  go_ret
  exact ⟨rfl, rfl⟩

set_option maxHeartbeats 2000000 in
theorem catch_idle (gE gA gL : Nat) (e : Int) (w : World) (h : CB 23 w gE #[.int .i64 e]) :
    CallsD Try.prog 12 #[.pointer (some ⟨gE, 0, none⟩), .pointer (some ⟨gA, 0, none⟩), .pointer (some ⟨gL, 0, none⟩)] .returning w fun x u' w' => x = .returned (.tuple #[]) ∧ u' = .returning ∧ w' = w.setCell ⟨gE, 0, none⟩ (.int .i64 0) := by
  have c0 : w.cell? ⟨gE, 0, none⟩ = some (.int .i64 e) := h.cell rfl
  have f0 := h.free 0
  have c1 : (w.setCell ⟨gE, 0, none⟩ (.int .i64 0)).cell? ⟨gE, 0, none⟩ = some (.int .i64 0) := (h.put 0 (.int .i64 0)).cell rfl
  refine callsD_of_wpS Try.func12 rfl fun c₀ cs hu => ?_
  apply wpS_seq
  apply wpS_region
  simp [wpOpsS, go_sem, recoverD, hu, Try.ntmps12, Exit.thenS]
  refine (caught_nil w).mono ?_
  rintro x w' ⟨rfl, rfl⟩
  simp [go_sem, c0, f0]
  refine wpS_of_wp ?_
  go_wp2
  cases c₀
  simp_all [bodyPostS, results, Try.results12]

theorem array9A {α : Type} {cs : Array α} (h : cs.size = 9) : ∃ c0 c1 c2 c3 c4 c5 c6 c7 c8, cs = #[c0, c1, c2, c3, c4, c5, c6, c7, c8] := by
  obtain ⟨l⟩ := cs
  match l, h with
  | [c0, c1, c2, c3, c4, c5, c6, c7, c8], _ => exact ⟨c0, c1, c2, c3, c4, c5, c6, c7, c8, rfl⟩

theorem cb_ne {U V : TypeId} {w : World} {g k : Nat} {xs ys : Array Value} (h : CB U w g xs) (h' : CB V w k ys) (hUV : U ≠ V) : g ≠ k := by
  rintro rfl
  have := Eq.trans (Eq.symm h) h'
  simp only [Option.some.injEq, Obj.cells.injEq] at this
  exact hUV this.2.1

set_option maxHeartbeats 4000000 in
theorem catch_panicking (base gE gA gL : Nat) (z e : Int) (he : e ≠ 0) (cs : Array Value) (vl : Value) (w : World) (h : CB 23 w gE #[.int .i64 z]) (hA : CB 27 w gA cs) (hs : cs.size = 9) (hL : CB 22 w gL #[vl]) (h1 : base ≤ gE) (h2 : base ≤ gA) (h3 : base ≤ gL) :
    CallsD Try.prog 12 #[.pointer (some ⟨gE, 0, none⟩), .pointer (some ⟨gA, 0, none⟩), .pointer (some ⟨gL, 0, none⟩)] (.panicking (thrown e)) w fun x u' w' =>
      x = .returned (.tuple #[]) ∧ u' = .panicking [{ v := .iface 62 (.int .i64 e), recovered := true }] ∧ CB 23 w' gE #[.int .i64 e] ∧ CB 27 w' gA zeroC ∧ CB 22 w' gL #[.slice none 0 0] ∧ Below base w w' := by
  have c0 : w.cell? ⟨gE, 0, none⟩ = some (.int .i64 z) := h.cell rfl
  have f0 := h.free 0
  have hp := h.set 0 (.int .i64 e) #[.int .i64 e] rfl
  have n1 : gE ≠ gA := cb_ne h hA (by decide)
  have n2 : gE ≠ gL := cb_ne h hL (by decide)
  have n3 : gA ≠ gL := cb_ne hA hL (by decide)
  have hA1 := hA.other ⟨gE, 0, none⟩ (.int .i64 e) (Ne.symm n1)
  have hL1 := hL.other ⟨gE, 0, none⟩ (.int .i64 e) (Ne.symm n2)
  obtain ⟨v0, v1, v2, v3, v4, v5, v6, v7, v8, rfl⟩ := array9A hs
  have b1 := (Below.refl base w).setCell (p := ⟨gE, 0, none⟩) h1 (.int .i64 e)
  obtain ⟨V, hV⟩ : ∃ x, x = w.setCell ⟨gE, 0, none⟩ (.int .i64 e) := ⟨_, rfl⟩
  rw [← hV] at hp hA1 hL1 b1
  have HV : Hid (V = w.setCell ⟨gE, 0, none⟩ (.int .i64 e)) := hV
  have c1 : V.cell? ⟨gE, 0, none⟩ = some (.int .i64 e) := hp.cell rfl
  obtain ⟨d0, d1, d2, d3, d4, d5, d6, d7, d8⟩ := nine hA1
  have fz := fun i => hA1.free i
  have e1 : V.cell? ⟨gL, 0, none⟩ = some vl := hL1.cell rfl
  have e2 := hL1.free 0
  have m3 : ¬ gL = gA := fun h => n3 h.symm
  have F1 := nine_put (.int .i64 0) (.int .i64 0) (.bool false) (.bool false) (.slice none 0 0) (.int .i64 0) (.slice none 0 0) (.slice none 0 0) (.bool false) hA1
  have F2 := nine_other (g := gA) (.int .i64 0) (.int .i64 0) (.bool false) (.bool false) (.slice none 0 0) (.int .i64 0) (.slice none 0 0) (.slice none 0 0) (.bool false) hp n1
  have F3 := nine_other (g := gA) (.int .i64 0) (.int .i64 0) (.bool false) (.bool false) (.slice none 0 0) (.int .i64 0) (.slice none 0 0) (.slice none 0 0) (.bool false) hL1 m3
  have F4 := nine_below (.int .i64 0) (.int .i64 0) (.bool false) (.bool false) (.slice none 0 0) (.int .i64 0) (.slice none 0 0) (.slice none 0 0) (.bool false) b1 h2
  have GG : Hid (CB 23 ((nineS V gA (.int .i64 0) (.int .i64 0) (.bool false) (.bool false) (.slice none 0 0) (.int .i64 0) (.slice none 0 0) (.slice none 0 0) (.bool false)).setCell ⟨gL, 0, none⟩ (.slice none 0 0)) gE #[.int .i64 e] ∧ CB 27 ((nineS V gA (.int .i64 0) (.int .i64 0) (.bool false) (.bool false) (.slice none 0 0) (.int .i64 0) (.slice none 0 0) (.slice none 0 0) (.bool false)).setCell ⟨gL, 0, none⟩ (.slice none 0 0)) gA zeroC ∧ CB 22 ((nineS V gA (.int .i64 0) (.int .i64 0) (.bool false) (.bool false) (.slice none 0 0) (.int .i64 0) (.slice none 0 0) (.slice none 0 0) (.bool false)).setCell ⟨gL, 0, none⟩ (.slice none 0 0)) gL #[.slice none 0 0] ∧ Below base w ((nineS V gA (.int .i64 0) (.int .i64 0) (.bool false) (.bool false) (.slice none 0 0) (.int .i64 0) (.slice none 0 0) (.slice none 0 0) (.bool false)).setCell ⟨gL, 0, none⟩ (.slice none 0 0))) :=
    ⟨F2.other ⟨gL, 0, none⟩ (.slice none 0 0) n2, F1.other ⟨gL, 0, none⟩ (.slice none 0 0) n3, F3.set 0 (.slice none 0 0) #[.slice none 0 0] rfl, F4.setCell (p := ⟨gL, 0, none⟩) h3 (.slice none 0 0)⟩
  unfold nineS at GG
  clear F1 F2 F3 F4 hp hA1 hL1 hA hL b1 h1 h2 h3 h n2 n1 hV
  refine callsD_of_wpS Try.func12 rfl fun c₀ cs hu => ?_
  apply wpS_seq
  apply wpS_region
  simp [wpOpsS, go_sem, recoverD, hu, Try.ntmps12, Exit.thenS, thrown]
  refine (caught_some e w).mono ?_
  rintro x w' ⟨rfl, rfl⟩
  simp [go_sem, c0, f0]
  refine wpS_of_wp ?_
  rw [← HV.out]
  clear c0 f0 HV
  go_wp2
  have GG := GG.out
  revert GG
  generalize World.setCell _ _ _ = WF
  intro GG
  cases c₀
  simp_all [bodyPostS, results, Try.results12]

end Go.Proofs.Ytldmbfemoepfkaa

namespace Go.Proofs.Ytldmbfemoepfkaa
open Go.RowKit

theorem IAx.shape {w : World} {gc : Nat} {v : Value} {its : List It} (h : IAx w gc v its) : ∃ p n c, v = .slice p n c := by
  rcases h with ⟨_, rfl⟩ | ⟨gI, xs, rfl, _⟩
  · exact ⟨_, _, _, rfl⟩
  · exact ⟨_, _, _, rfl⟩
theorem EAx.shape {w : World} {gc : Nat} {v : Value} {evs : List Ev} (h : EAx w gc v evs) : ∃ p n c, v = .slice p n c := by
  rcases h with ⟨_, rfl⟩ | ⟨gI, xs, rfl, _⟩
  · exact ⟨_, _, _, rfl⟩
  · exact ⟨_, _, _, rfl⟩
theorem AnsX.any {U : TypeId} {w w' : World} {gc : Nat} {a : AA} {k i e : Value} (h : AnsX w gc a k i e) (t : TKR U w w') (h1 : 5 ≠ U) (h2 : 58 ≠ U) (h3 : 61 ≠ U) : AnsX w' gc a k i e :=
  ⟨h.1.tkr t (by decide) h1, h.2.1.tkr t h1 h2, h.2.2.tkr t h1 h3⟩
theorem nine_selfW {w : World} {g : Nat} {c0 c1 c2 c3 c4 c5 c6 c7 c8 : Value} (h : CB 27 w g #[c0, c1, c2, c3, c4, c5, c6, c7, c8]) :
    ((((((((w.setCell ⟨g, 0, none⟩ c0).setCell ⟨g, 1, none⟩ c1).setCell ⟨g, 2, none⟩ c2).setCell ⟨g, 3, none⟩ c3).setCell ⟨g, 4, none⟩ c4).setCell ⟨g, 5, none⟩ c5).setCell ⟨g, 6, none⟩ c6).setCell ⟨g, 7, none⟩ c7).setCell ⟨g, 8, none⟩ c8 = w := by
  rw [setCell_selfR (i := 0) (v := c0) h rfl, setCell_selfR (i := 1) (v := c1) h rfl, setCell_selfR (i := 2) (v := c2) h rfl, setCell_selfR (i := 3) (v := c3) h rfl, setCell_selfR (i := 4) (v := c4) h rfl, setCell_selfR (i := 5) (v := c5) h rfl, setCell_selfR (i := 6) (v := c6) h rfl, setCell_selfR (i := 7) (v := c7) h rfl, setCell_selfR (i := 8) (v := c8) h rfl]
theorem IAx.ia {w : World} {gc : Nat} {v : Value} {its : List It} (h : IAx w gc v its) : IA w v its := by
  rcases h with ⟨rfl, rfl⟩ | ⟨gI, xs, rfl, hn, hc, hx⟩
  · exact IA.nil w
  · refine ⟨_, _, rfl, Nat.le_refl _, by unfold maxLen; omega, fun _ => ⟨gI, 0, rfl, fun k x hk => ?_⟩⟩
    obtain ⟨q, c, r, d, ⟨g1, g2, g3⟩, g4, g5⟩ := hx k x hk
    rw [Nat.zero_add]
    exact ⟨q, c, r, d, ⟨hc.cell g1, hc.cell g2, hc.cell g3⟩, g4.1, g5.1⟩
theorem EAx.ea {w : World} {gc : Nat} {v : Value} {evs : List Ev} (h : EAx w gc v evs) : EA w v evs := by
  rcases h with ⟨rfl, rfl⟩ | ⟨gI, xs, rfl, hn, hc, hx⟩
  · exact EA.nil w
  · refine ⟨_, _, rfl, Nat.le_refl _, by unfold maxLen; omega, fun _ => ⟨gI, 0, rfl, fun k x hk => ?_⟩⟩
    obtain ⟨q, c, r, d, ⟨g1, g2, g3, g6⟩, g4, g5⟩ := hx k x hk
    rw [Nat.zero_add]
    exact ⟨q, c, r, d, ⟨hc.cell g1, hc.cell g2, hc.cell g3, hc.cell g6⟩, g4.1, g5.1⟩

set_option maxHeartbeats 2000000 in
theorem leave_bad (d : Int × List UInt8 × AA) (w W : World) (P : Pl) (e : Int) (tmps : Array Value) (h2 : tmps[4]?.getD undef = .pointer (some ⟨P.gA, 0, none⟩)) (h3 : tmps[5]?.getD undef = .pointer (some ⟨P.gL, 0, none⟩)) (h6 : tmps[6]?.getD undef = .pointer (some ⟨P.gE, 0, none⟩)) (he : e ≠ 0) (h : EI w P W) (h4 : w.heap.size ≤ P.gE) (h5 : w.heap.size ≤ P.gA) (h7 : w.heap.size ≤ P.gL) (hd : d.1 = e) :
    Leaves Try.prog Try.f6 tmps (RdTold d w) [{ target := .fn (.func 12) #[.pointer (some ⟨P.gE, 0, none⟩), .pointer (some ⟨P.gA, 0, none⟩), .pointer (some ⟨P.gL, 0, none⟩)], args := #[] }] (.panicking (thrown e)) W := by
  obtain ⟨hb, ⟨cs, hs, hA⟩, hE, hL⟩ := h
  refine leaves_cons (f := 12) (args := #[.pointer (some ⟨P.gE, 0, none⟩), .pointer (some ⟨P.gA, 0, none⟩), .pointer (some ⟨P.gL, 0, none⟩)]) (by simp) (by simp [go_sem]) ?_
  refine (catch_panicking w.heap.size P.gE P.gA P.gL 0 e he cs _ W hE hA hs hL h4 h5 h7).mono ?_
  rintro x u' w' ⟨rfl, rfl, hE', hA', hL', hb'⟩
  have c0 : w'.cell? ⟨P.gE, 0, none⟩ = some (.int .i64 e) := hE'.cell rfl
  have c1 : w'.cell? ⟨P.gL, 0, none⟩ = some (.slice none 0 0) := hL'.cell rfl
  obtain ⟨d0, d1, d2, d3, d4, d5, d6, d7, d8⟩ := nine hA'
  have hT : RdTold d w (.returned (.tuple #[.agg zeroC, .slice none 0 0, .int .i64 e])) w' := ⟨hb.trans hb', fun h => absurd (hd.symm.trans h) he, fun _ => by rw [hd]⟩
  simp [Leaves, settle, results, Try.results6, go_sem, h2, h3, h6, c0, c1, d0, d1, d2, d3, d4, d5, d6, d7, d8]
  exact hT

set_option maxHeartbeats 2000000 in
theorem leave_ok (d : Int × List UInt8 × AA) (w W : World) (gE gA gL : Nat) (kv iv ev rv : Value) (tmps : Array Value) (h2 : tmps[4]?.getD undef = .pointer (some ⟨gA, 0, none⟩)) (h3 : tmps[5]?.getD undef = .pointer (some ⟨gL, 0, none⟩)) (h6 : tmps[6]?.getD undef = .pointer (some ⟨gE, 0, none⟩)) (hE : CB 23 W gE #[.int .i64 0]) (hA : CB 27 W gA (ansC d.2.2 kv iv ev)) (hv : AnsV W d.2.2 kv iv ev) (hL : CB 22 W gL #[rv]) (hr : HB W rv d.2.1) (hb : Below w.heap.size w W) (hd : d.1 = 0) :
    Leaves Try.prog Try.f6 tmps (RdTold d w) [{ target := .fn (.func 12) #[.pointer (some ⟨gE, 0, none⟩), .pointer (some ⟨gA, 0, none⟩), .pointer (some ⟨gL, 0, none⟩)], args := #[] }] .returning W := by
  refine leaves_cons (f := 12) (args := #[.pointer (some ⟨gE, 0, none⟩), .pointer (some ⟨gA, 0, none⟩), .pointer (some ⟨gL, 0, none⟩)]) (by simp) (by simp [go_sem]) ?_
  refine (catch_idle gE gA gL 0 W hE).mono ?_
  rintro x u' w' ⟨rfl, rfl, hw⟩
  rw [setCell_selfR (i := 0) (v := .int .i64 0) hE rfl] at hw
  subst hw
  have c0 : w'.cell? ⟨gE, 0, none⟩ = some (.int .i64 0) := hE.cell rfl
  have c1 : w'.cell? ⟨gL, 0, none⟩ = some rv := hL.cell rfl
  obtain ⟨d0, d1, d2, d3, d4, d5, d6, d7, d8⟩ := nine hA
  have hT : RdTold d w (.returned (.tuple #[.agg (ansC d.2.2 kv iv ev), rv, .int .i64 0])) w' := ⟨hb, fun _ => ⟨kv, iv, ev, rv, rfl, hv, hr⟩, fun h => absurd hd h⟩
  simp [Leaves, settle, results, Try.results6, go_sem, h2, h3, h6, c0, c1, d0, d1, d2, d3, d4, d5, d6, d7, d8]
  exact hT

set_option maxHeartbeats 2000000 in
theorem readA_any (k : Int) (v : Value) (b : List UInt8) (w : World) (hv : HB w v b) (hsz : b.length ≤ 140737488351232) :
    Calls Try.prog 6 #[.int .i64 k, v] w (RdTold (rdA k b) w) := by
  have hmf : ∀ (fn : Fn) (first cap : Array Value) (w : World), (Instr.makeFunc fn first cap).run Try.prog w = .ok (.func fn first cap) w := fun _ _ _ _ => rfl
  obtain ⟨p, c, rfl⟩ := hv.shape
  have b1 := (Below.refl w.heap.size w).alloc (Nat.le_refl _) (.cells #[.int .i64 0, .int .i64 0, .bool false, .bool false, .slice none 0 0, .int .i64 0, .slice none 0 0, .slice none 0 0, .bool false] 27)
  have a1 := CB.made 27 w #[.int .i64 0, .int .i64 0, .bool false, .bool false, .slice none 0 0, .int .i64 0, .slice none 0 0, .slice none 0 0, .bool false]
  have s1 : (w.alloc (.cells #[.int .i64 0, .int .i64 0, .bool false, .bool false, .slice none 0 0, .int .i64 0, .slice none 0 0, .slice none 0 0, .bool false] 27)).heap.size = w.heap.size + 1 := World.size_alloc _ _
  obtain ⟨w1, hw1⟩ : ∃ x, x = w.alloc (.cells #[.int .i64 0, .int .i64 0, .bool false, .bool false, .slice none 0 0, .int .i64 0, .slice none 0 0, .slice none 0 0, .bool false] 27) := ⟨_, rfl⟩
  rw [← hw1] at b1 a1 s1
  have b2 := (Below.refl w1.heap.size w1).alloc (Nat.le_refl _) (.cells #[.slice none 0 0] 22)
  have a2 := CB.made 22 w1 #[.slice none 0 0]
  have s2 : (w1.alloc (.cells #[.slice none 0 0] 22)).heap.size = w1.heap.size + 1 := World.size_alloc _ _
  obtain ⟨w2, hw2⟩ : ∃ x, x = w1.alloc (.cells #[.slice none 0 0] 22) := ⟨_, rfl⟩
  rw [← hw2] at b2 a2 s2
  have b3 := (Below.refl w2.heap.size w2).alloc (Nat.le_refl _) (.cells #[.int .i64 0] 23)
  have a3 := CB.made 23 w2 #[.int .i64 0]
  obtain ⟨w3, hw3⟩ : ∃ x, x = w2.alloc (.cells #[.int .i64 0] 23) := ⟨_, rfl⟩
  rw [← hw3] at b3 a3
  have hB3 := (b1.trans (b2.mono b1.size)).trans (b3.mono (b1.trans (b2.mono b1.size)).size)
  have hO := flopen_any (.slice p b.length c) b w3 (hv.later hB3) (by omega)
  have A1 := (a1.later b2).later b3
  have A2 := a2.later b3
  rw [s1] at A2
  rw [s2, s1] at a3
  rw [hw3, hw2, hw1] at hO
  have HW : Hid (w3 = ((w.alloc (.cells #[.int .i64 0, .int .i64 0, .bool false, .bool false, .slice none 0 0, .int .i64 0, .slice none 0 0, .slice none 0 0, .bool false] 27)).alloc (.cells #[.slice none 0 0] 22)).alloc (.cells #[.int .i64 0] 23)) := by rw [hw3, hw2, hw1]; exact rfl
  obtain ⟨D, hD⟩ : ∃ D, D = rdA k b := ⟨_, rfl⟩
  rw [← hD]
  have HD : Hid (D = rdA k b) := hD
  have hsuf : D.2.1 <:+ b := by rw [hD]; exact rdA_suf k b
  clear hD hw1 hw2 hw3 s1 s2 a1 a2 b1 b2 b3
  go_enter_defers Try.func6, Try.ntmps6
  go_wp2_with fail
  refine hO.mono ?_
  clear hO
  rintro x w4 ⟨gc, hgc, rfl, hr, hb4⟩
  rw [← HW.out] at hb4 hgc
  have b5 := (Below.refl w4.heap.size w4).alloc (Nat.le_refl _) (.cells #[.slice p b.length c, .pointer (some ⟨gc, 0, none⟩)] 39)
  have hR : RF 39 (w4.alloc (.cells #[.slice p b.length c, .pointer (some ⟨gc, 0, none⟩)] 39)) w4.heap.size gc (.slice p b.length c) b 0 := ⟨heap_alloc_new w4 _, hr.later b5⟩
  have hb5 := (hB3.trans (hb4.mono hB3.size)).trans (b5.mono (hB3.trans (hb4.mono hB3.size)).size)
  have hT := thrR_any w ⟨w4.heap.size, gc, w.heap.size, w.heap.size + 1 + 1, w.heap.size + 1, .slice p b.length c⟩ k b _ hR hb5 ((A1.later hb4).later b5) ((a3.later hb4).later b5) ((A2.later hb4).later b5) (by show w.heap.size ≤ gc; have := hB3.size; omega) (Nat.le_refl _) (by omega)
  rw [← HD.out] at hT
  clear hr hR hb4 b5 A1 A2 a3 hgc hB3 HW
  go_wp2_with fail
  refine hT.mono ?_
  clear hT
  rintro x w6 (⟨hd, rfl, gb, kv, iv, ev, hC, hX⟩ | ⟨hd, rfl, hE⟩)
  rotate_left
  · exact leave_bad D w w6 _ D.1 _ rfl rfl rfl hd hE (by show w.heap.size ≤ w.heap.size + 1 + 1; omega) (Nat.le_refl _) (by show w.heap.size ≤ w.heap.size + 1; omega) rfl
  obtain ⟨hF, hb6, hA, hE, hL, _⟩ := hC
  obtain ⟨pk, ck, hk⟩ := hX.1.1.shape
  obtain ⟨pi, ni, ci, hi⟩ := hX.2.1.shape
  obtain ⟨pe, ne, ce, he⟩ := hX.2.2.shape
  have hlen := hsuf.length_le
  have hdr := suf_drop hsuf
  have bd := Below.drew (Below.refl w6.heap.size w6)
  have hLf := flleft_any 39 w4.heap.size gc p b.length c b D.2.1 w6.drew (RF.later hF bd) ((hv.later hb6).later bd) hlen
  rw [hdr] at hLf
  have hAd := hA.later bd
  have hEd := hE.later bd
  have hLd := hL.later bd
  have hok := leave_ok D w
  subst hk hi he
  unfold ansC at hA hAd
  obtain ⟨d0, d1, d2, d3, d4, d5, d6, d7, d8⟩ := nine hA
  have n1 : ¬ w.heap.size = w.heap.size + 1 := by omega
  have n2 : ¬ w.heap.size = w.heap.size + 1 + 1 := by omega
  have n3 : ¬ w.heap.size + 1 = w.heap.size + 1 + 1 := by omega
  clear hF hE hL hA hv hdr
  go_wp2
  go_region_with (first
    | (go_at_call 16; refine hLf.mono ?_; rintro e w7 ⟨v7, rfl, hv7, hb7⟩; have hA7 := hAd.later hb7; obtain ⟨d0, d1, d2, d3, d4, d5, d6, d7, d8⟩ := nine hA7; have hCl := clone_own v7 _ w7 hv7 (by omega))
    | (go_at_call 5; refine hCl.mono ?_; rintro e w8 ⟨p8, c8, rfl, hv8, hb8⟩; have hA8 := hA7.later hb8; obtain ⟨d0, d1, d2, d3, d4, d5, d6, d7, d8⟩ := nine hA8; have hb68 := hb7.trans (hb8.mono hb7.size); have hE8 := hEd.later hb68; have hL8 := hLd.later hb68; have fa := fun i => hA8.free i; have e0 : w8.cell? ⟨w.heap.size + 1, 0, none⟩ = some (.slice none 0 0) := hL8.cell rfl; have e1 := hL8.free 0; have e2 : w8.cell? ⟨w.heap.size + 1 + 1, 0, none⟩ = some (.int .i64 0) := hE8.cell rfl; have e3 := hE8.free 0; have S1 : Hid _ := nine_selfW hA8))
  all_goals
    have hX8 : AnsX w8 gc D.2.2 (.slice pk D.2.2.key.length ck) (.slice pi ni ci) (.slice pe ne ce) := AnsX.any hX (TKR.of_below (U := 22) (bd.trans (hb68.mono bd.size))) (by decide) (by decide) (by decide)
    have t9 : TKR 22 w8 (w8.setCell ⟨w.heap.size + 1, 0, none⟩ (.slice p8 D.2.1.length c8)) := TKR.put hL8 _
    have k9 : TK 22 w8 (w8.setCell ⟨w.heap.size + 1, 0, none⟩ (.slice p8 D.2.1.length c8)) := TK.of_only ((Only.refl (w.heap.size + 1) w8).setCell 0 _) hL8
    have hX9 := hX8.any t9 (by decide) (by decide) (by decide)
    have hA9 := hA8.other ⟨w.heap.size + 1, 0, none⟩ (.slice p8 D.2.1.length c8) n1
    have hE9 := hE8.other ⟨w.heap.size + 1, 0, none⟩ (.slice p8 D.2.1.length c8) (fun h => n3 h.symm)
    have hL9 := hL8.set 0 (.slice p8 D.2.1.length c8) #[.slice p8 D.2.1.length c8] rfl
    have hr9 := HB.of_owns (owns_tk hv8 k9 (by decide))
    have hb9 := (hb6.trans ((bd.trans (hb68.mono bd.size)).mono hb6.size)).setCell (p := ⟨w.heap.size + 1, 0, none⟩) (by show w.heap.size ≤ w.heap.size + 1; omega) (.slice p8 D.2.1.length c8)
    have S2 : Hid _ := setCell_selfR (i := 0) (v := .int .i64 0) hE9 rfl
    have HOK : Hid _ := fun (tmps : Array Value) h2 h3 h6 => hok (w8.setCell ⟨w.heap.size + 1, 0, none⟩ (.slice p8 D.2.1.length c8)) (w.heap.size + 1 + 1) w.heap.size (w.heap.size + 1) _ _ _ _ tmps h2 h3 h6 hE9 hA9 ⟨hX9.1.1, hX9.2.1.ia, hX9.2.2.ea⟩ hL9 hr9 hb9 hd
    clear hX8 hX9 hA9 hE9 hL9 hr9 hb9 t9 k9 hv8 hA8 hE8 hL8 hX hb68 hb7 hb8 hv7 hA7 hCl hLf hb6 hok
    rw [S1.out, S2.out]
    clear d0 d1 d2 d3 d4 d5 d6 d7 d8 fa e0 e1 e2 e3 S1 S2
    go_wp2
    exact HOK.out _ rfl rfl rfl

end Go.Proofs.Ytldmbfemoepfkaa
