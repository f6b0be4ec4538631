/- What this text proves: the walks of ledger's headOf (without a seed), of judge and of what it gives, at the first record, over this program. What this text proves: the walk of ledger's Open over this program, at a new device, with any parameters that may be and no seed. -/
import Derived.Test.YtcgpgnajmfemhaaGreatDoorJG1
import Derived.Test.YtcgpgnajmfemhaaGreatDoorJAd
import Derived.Test.YtcgpgnajmfemhaaGreatDoorJSm
import Derived.Lib.SlBytesConst
import Derived.Test.YtcgpgnajmfemhaaGreatDoorJL2
namespace Go.Proofs.YtcgpgnajmfemhaaGreatDoor
open Go.RowKit

theorem lhead_len (ns : List Int) : 1 ≤ (wrN [72] ns).length ∧ (wrN [72] ns).length ≤ 1 + 9 * ns.length := by
  refine ⟨?_, wrN_len [72] ns⟩
  rw [wrN_app]
  simp

set_option maxRecDepth 100000 in
set_option maxHeartbeats 3200000 in
theorem lhead_any (s h mi mk ch ar ca pg : Int) (w : World) (hT : Tabs w) :
    Calls Tryz.prog 69 #[.agg #[.int .i64 s, .int .i64 h, .int .i64 mi, .int .i64 mk, .int .i64 ch, .int .i64 ar, .int .i64 ca, .int .i64 pg], .slice none 0 0] w fun x w' => ∃ (v : Value) (l : List UInt8), x = .returned v ∧ w'.ownsRow w.heap.size 5 1 v l.length (bcs l) ∧ 1 ≤ l.length ∧ l.length ≤ 200 ∧ Below w.heap.size w w' := by
  have b0 := (Below.refl w.heap.size w).alloc (Nat.le_refl _) (.cells #[.int .i64 s, .int .i64 h, .int .i64 mi, .int .i64 mk, .int .i64 ch, .int .i64 ar, .int .i64 ca, .int .i64 pg] 25)
  have g0 := heap_alloc_new w (.cells #[.int .i64 s, .int .i64 h, .int .i64 mi, .int .i64 mk, .int .i64 ch, .int .i64 ar, .int .i64 ca, .int .i64 pg] 25)
  obtain ⟨V, hV⟩ : ∃ V, w.alloc (.cells #[.int .i64 s, .int .i64 h, .int .i64 mi, .int .i64 mk, .int .i64 ch, .int .i64 ar, .int .i64 ca, .int .i64 pg] 25) = V := ⟨_, rfl⟩
  rw [hV] at b0 g0
  have sV : V.heap.size = w.heap.size + 1 := by rw [← hV]; simp
  have kc := Lib.run_convert_bytes_const (P := Tryz.prog) V 37 5 #[.int .u8 72] 1 1 Tryz.underlying37 Tryz.underlying5
  rw [show (#[Value.int .u8 72] : Array Value).size = 1 from rfl] at kc
  have bL := (Below.refl _ V).alloc (Nat.le_refl _) (.cells #[.int .u8 72] 5 (1, 2))
  have hlit := HB.litF V 5 [72] #[.int .u8 72] 1 (1, 2) rfl rfl (by unfold maxLen; omega)
  obtain ⟨U, hU⟩ : ∃ U, V.alloc (.cells #[.int .u8 72] 5 (1, 2)) = U := ⟨_, rfl⟩
  rw [hU] at bL hlit kc
  have bU := b0.trans (bL.mono b0.size)
  obtain ⟨q0, q1, q2, q3, q4, q5, q6, q7⟩ := par_cells ((bL.block _ (by omega)).trans g0)
  have hA := adwrite_any (.slice (some ⟨V.heap.size, 0, none⟩) 1 1) [72] s h mi mk ch ar ca pg U hlit (by simp)
  rw [sV] at hA kc
  have hln := lhead_len [s, h, mi, mk, ch, ar, ca, pg]
  simp only [List.length_cons, List.length_nil] at hln
  generalize wrN [72] [s, h, mi, mk, ch, ar, ca, pg] = LW at *
  have hS := fun W (hb : Tabs W) => sum_any (.slice none 0 0) [] W (HB.nil _) (by simp) hb
  have hD := sha_length []
  generalize sha [] = D at *
  have HD : Hid (D.length = 32) := hD
  clear hlit g0 hD
  go_enter Tryz.func69, Tryz.ntmps69
  go_wp2_with fail
  refine hA.mono ?_
  rintro e w1 ⟨v1, rfl, _, o1, b1⟩
  obtain ⟨p1, c1, rfl⟩ := owns_shape o1
  have bW1 := bU.trans (b1.mono bU.size)
  have hS1 := hS w1 (hT.later bW1)
  clear hA hS
  go_wp2_with fail
  refine hS1.mono ?_
  rintro e w2 ⟨v2, rfl, o2, b2⟩
  obtain ⟨p2, c2, rfl⟩ := owns_shape o2
  have h2 : HB w2 (.slice p2 32 c2) D := by rw [← HD.out]; rw [← HD.out] at o2; exact HB.of_owns o2
  have o12 := owns_later o1 b2
  have bW2 := bW1.trans (b2.mono bW1.size)
  clear hS1 o1 o2
  go_wp2_with (first | (at_builtin; refine wpList_append_hb rfl _ _ 37 rfl U.heap.size 5 Tryz.underlying37 i_u8 (.slice p1 LW.length c1) LW.length (bcs LW) rfl o12 _ _ _ D rfl h2 (by omega) (Nat.le_trans b1.size b2.size) ?_))
  intro v3 w3 o3 gr3
  have bW3 : Below w.heap.size w w3 := bW2.grown gr3 bW2.size (by intro k hk; exact Nat.le_trans bU.size (o12.lt k hk).1)
  have o3' : w3.ownsRow w.heap.size 5 1 v3 (LW ++ D).length (bcs (LW ++ D)) := by
    have := owns_mono o3 bU.size
    simpa [bcs_append, HD.out] using this
  go_wp2
  go_ret
  exact ⟨_, LW ++ D, rfl, o3', by simp; omega, by have := HD.out; simp; omega, bW3⟩

set_option maxRecDepth 100000 in
set_option maxHeartbeats 400000 in
theorem ljudge_any (g : Nat) (p : Option Addr) (n c : Nat) (w : World) : Calls Tryz.prog 71 #[.pointer (some ⟨g, 0, none⟩), .slice p n c] w fun x w' => x = .returned (.func (.func 116) #[] #[.pointer (some ⟨w.heap.size + 2, 0, none⟩), .pointer (some ⟨w.heap.size + 1, 0, none⟩), .pointer (some ⟨w.heap.size, 0, none⟩)]) ∧ w' = ((w.alloc (.cells #[.pointer (some ⟨g, 0, none⟩)] 26)).alloc (.cells #[.slice p n c] 37)).alloc (.cells #[.int .i64 0] 3) := by
  go_enter Tryz.func71, Tryz.ntmps71
  go_wp2
  go_ret
  exact ⟨rfl, rfl⟩

set_option maxRecDepth 100000 in
set_option maxHeartbeats 800000 in
theorem ljudge_first (gs gh : Nat) (gl : Value) (b : Value) (l : List UInt8) (u : Value) (w : World) (hs : w.heap[gs]? = some (.cells #[.int .i64 0] 3 (0, 0))) (hh : w.cell? ⟨gh, 0, none⟩ = some u) (hne : gh ≠ gs) (hb : HB w b l) (hu : HB w u l) (hbs : ∀ p n c, b = .slice (some p) n c → p.block ≠ gs) (hus : ∀ p n c, u = .slice (some p) n c → p.block ≠ gs) :
    Calls Tryz.prog 116 #[b, .pointer (some ⟨gs, 0, none⟩), .pointer (some ⟨gh, 0, none⟩), gl] w fun x w' => x = .returned (.bool true) ∧ Only gs w w' := by
  obtain ⟨p, c, rfl⟩ := hb.shape
  obtain ⟨q, d, rfl⟩ := hu.shape
  have c0 : w.cell? ⟨gs, 0, none⟩ = some (.int .i64 0) := by rw [cell_of_row _ _ _ _ _ _ hs]; rfl
  have f0 : w.frozen? ⟨gs, 0, none⟩ = false := by simp [World.frozen?, hs]
  have ho : Only gs w (w.setCell ⟨gs, 0, none⟩ (.int .i64 1)) := (Only.refl _ w).setCell _ _
  have c1 : (w.setCell ⟨gs, 0, none⟩ (.int .i64 1)).cell? ⟨gs, 0, none⟩ = some (.int .i64 1) := by
    rw [cell_of_row _ _ _ _ _ _ (heap_setCell_same w gs 0 _ _ _ hs)]; rfl
  have hb1 : HB (w.setCell ⟨gs, 0, none⟩ (.int .i64 1)) (.slice p l.length c) l := hb.only (fun a n c' e => hbs a n c' e) ho
  have hu1 : HB (w.setCell ⟨gs, 0, none⟩ (.int .i64 1)) (.slice q l.length d) l := hu.only (fun a n c' e => hus a n c' e) ho
  have h1 : (w.setCell ⟨gs, 0, none⟩ (.int .i64 1)).cell? ⟨gh, 0, none⟩ = some (.slice q l.length d) := by
    rw [World.cell?_of_block (ho.block gh hne (cell_lt hh))]; exact hh
  have hE := equal_t _ _ l l _ hb1 hu1 rfl
  obtain ⟨W, hW⟩ : ∃ W, w.setCell ⟨gs, 0, none⟩ (.int .i64 1) = W := ⟨_, rfl⟩
  rw [hW] at ho c1 hb1 hu1 h1 hE
  clear hb hu hb1 hu1 hbs hus
  go_enter Tryz.func116, Tryz.ntmps116
  go_wp2_with (go_at_call 117; refine hE.mono ?_; rintro e w1 ⟨rfl, rfl⟩)
  go_ret
  exact ⟨rfl, ho⟩

end Go.Proofs.YtcgpgnajmfemhaaGreatDoor

namespace Go.Proofs.YtcgpgnajmfemhaaGreatDoor
open Go.RowKit

/-- A store into a block of another type leaves a log and its device. -/
theorem only_T {T : TypeId} (t1 : 197 ≠ T) (t2 : 214 ≠ T) (t3 : 157 ≠ T) (t4 : 37 ≠ T) (t5 : 5 ≠ T) {w w' : World} {g gl bd bn bm base r : Nat} {cs : Array Value} {fr : Nat × Nat} {N k : Int} {rs : Value} {st : DevS} {sp : Bool} {vs : List Value} (kg : w.heap[g]? = some (.cells cs T fr)) (ho : Only g w w') (d : Dev w bd bn bm st) (l : LB w gl bd N k rs sp) (o : w.ownsRow base 37 1 rs r vs) : Dev w' bd bn bm st ∧ LB w' gl bd N k rs sp ∧ Sty 5 w w' ∧ ∀ b, rs.ownBlock = some b → w'.heap[b]? = w.heap[b]? := by
  have h1 := d.db
  obtain ⟨cs2, h2, _⟩ := id d.sr
  obtain ⟨D, ⟨es, clock, h3, _⟩, _⟩ := id d.dm
  unfold DB at h1
  have l0 := l
  unfold LB at l
  refine ⟨d.same ?_, l0.same (ho.block gl ?_ l0.lt), ?_, ?_⟩
  · rintro q (rfl | rfl | rfl)
    · exact ho.block _ (by rintro rfl; rw [kg] at h1; simp only [Option.some.injEq, Obj.cells.injEq] at h1; exact t1 h1.2.1.symm) (Array.getElem?_eq_some_iff.1 h1).1
    · exact ho.block _ (by rintro rfl; rw [kg] at h2; simp only [Option.some.injEq, Obj.cells.injEq] at h2; exact t2 h2.2.1.symm) (Array.getElem?_eq_some_iff.1 h2).1
    · exact ho.block _ (by rintro rfl; rw [kg] at h3; simp at h3) (Array.getElem?_eq_some_iff.1 h3).1
  · rintro rfl
    rw [kg] at l
    simp only [Option.some.injEq, Obj.cells.injEq] at l
    exact t3 l.2.1.symm
  · intro q cur fr' hq
    rw [ho.block q (by rintro rfl; rw [kg] at hq; simp only [Option.some.injEq, Obj.cells.injEq] at hq; exact t5 hq.2.1.symm) (Array.getElem?_eq_some_iff.1 hq).1]
    exact hq
  · intro b hb
    rcases o.2 with ⟨rfl, _⟩ | ⟨g', cap, cur', rfl, _, hg', _⟩
    · cases hb
    · obtain rfl : b = g' := by simpa [Value.ownBlock] using hb.symm
      exact ho.block _ (by rintro rfl; rw [kg] at hg'; simp only [Option.some.injEq, Obj.cells.injEq] at hg'; exact t4 hg'.2.1.symm) (Array.getElem?_eq_some_iff.1 hg').1

theorem by_ne {T : TypeId} (t5 : 5 ≠ T) {w : World} {g : Nat} {cs : Array Value} {fr : Nat × Nat} {u : Value} (kg : w.heap[g]? = some (.cells cs T fr)) (hb : BY w u) : ∀ a n c, u = .slice (some a) n c → a.block ≠ g := by
  rintro a n c e rfl
  obtain ⟨cur, f, hq⟩ := hb a n c e
  rw [kg] at hq
  simp only [Option.some.injEq, Obj.cells.injEq] at hq
  exact t5 hq.2.1.symm

theorem RB.first {w : World} {base c : Nat} {p : Option Addr} {l : List UInt8} (h : RB w base (.slice p [l].length c) [l]) : ∃ (g : Nat) (u : Value), p = some ⟨g, 0, none⟩ ∧ w.cell? ⟨g, 0, none⟩ = some u ∧ HB w u l ∧ BY w u := by
  obtain ⟨vs, h1, h2⟩ := h
  rcases h1.2 with ⟨e, _⟩ | ⟨g, cap, cur, e, _⟩
  · simp at e
  · simp only [Value.slice.injEq] at e
    obtain ⟨rfl, _, rfl⟩ := e
    have hl := h1.1
    rw [Nat.mul_one] at hl
    have hc := h1.cellAt 0 (by simp)
    rw [List.getElem?_eq_getElem (by rw [hl]; simp)] at hc
    have := h2 0 _ l (List.getElem?_eq_getElem (by rw [hl]; simp)) rfl
    exact ⟨g, _, rfl, hc, this.1, this.2⟩

theorem sty_onlyI {T T' : TypeId} {g : Nat} {w w' : World} {cs : Array Value} {f : Nat × Nat} (ho : Only g w w') (hg : w.heap[g]? = some (.cells cs T' f)) (hT : T' ≠ T) : Sty T w w' := by
  intro k cur fr hk
  refine (ho.block k ?_ (Array.getElem?_eq_some_iff.1 hk).1).trans hk
  rintro rfl
  rw [hg] at hk
  simp only [Option.some.injEq, Obj.cells.injEq] at hk
  exact hT hk.2.1

set_option maxRecDepth 100000 in
set_option maxHeartbeats 8000000 in
theorem lopen_new (s h mi mk ch ar ca pg : Int) (hz : chkV s h mi mk ch ar ca pg = 0) {N B bd bn bm : Nat} {st : DevS} {w : World} (hd : Dev w bd bn bm st) (hA : Alive st N 0) (hN1 : 20 ≤ N) (hN2 : N ≤ 16384) (hZ : ∀ r ∈ st.now, r = nulls) (hT : Tabs w) (hB : 3 ≤ B) (hbd : B ≤ bd ∧ B ≤ bn ∧ B ≤ bm) (hBw : B ≤ w.heap.size) :
    Calls Tryz.prog 37 #[.pointer (some ⟨bd, 0, none⟩), .agg #[.int .i64 s, .int .i64 h, .int .i64 mi, .int .i64 mk, .int .i64 ch, .int .i64 ar, .int .i64 ca, .int .i64 pg], .slice none 0 0] w fun x w' => ∃ (g gl : Nat) (l : List UInt8), x = .returned (.tuple #[.pointer (some ⟨g, 0, none⟩), .int .i64 0]) ∧ LS B g gl N (tsec l.length + 1) 200 s h mi mk ch ar ca pg 0 0 0 [l] w' ∧ (1 ≤ l.length ∧ l.length ≤ 200) ∧ Below B w w' ∧ ∀ T, 197 ≠ T → 214 ≠ T → 157 ≠ T → 37 ≠ T → 3 ≠ T → Sty T w w' := by
  have b0 := (Below.refl w.heap.size w).alloc (Nat.le_refl _) (.cells #[.int .i64 s, .int .i64 h, .int .i64 mi, .int .i64 mk, .int .i64 ch, .int .i64 ar, .int .i64 ca, .int .i64 pg] 25)
  have g0 := heap_alloc_new w (.cells #[.int .i64 s, .int .i64 h, .int .i64 mi, .int .i64 mk, .int .i64 ch, .int .i64 ar, .int .i64 ca, .int .i64 pg] 25)
  obtain ⟨V, hV⟩ : ∃ V, w.alloc (.cells #[.int .i64 s, .int .i64 h, .int .i64 mi, .int .i64 mk, .int .i64 ch, .int .i64 ar, .int .i64 ca, .int .i64 pg] 25) = V := ⟨_, rfl⟩
  rw [hV] at b0 g0
  obtain ⟨q0, q1, q2, q3, q4, q5, q6, q7⟩ := par_cells g0
  have hC := chk_any s h mi mk ch ar ca pg V
  rw [hz] at hC
  clear hz
  go_enter Tryz.func37, Tryz.ntmps37
  go_wp2_with fail
  refine hC.mono ?_
  rintro e w1 ⟨rfl, b1⟩
  have bw1 := b0.trans (b1.mono b0.size)
  have d1 := hd.later bw1
  have hO := open_new d1 hZ hA.1
  rw [hA.2.2.1] at hO
  clear hC q0 q1 q2 q3 q4 q5 q6 q7
  go_wp2_with fail
  refine hO.mono ?_
  rintro e w2 ⟨gl, rfl, l2, hgl, b2⟩
  have b12 := b1.trans (b2.mono b1.size)
  have bw2 := b0.trans (b12.mono b0.size)
  have gP2 := (b12.block _ (Array.getElem?_eq_some_iff.1 g0).1).trans g0
  obtain ⟨q0, q1, q2, q3, q4, q5, q6, q7⟩ := par_cells gP2
  have hH := lhead_any s h mi mk ch ar ca pg w2 (hT.later bw2)
  clear hO
  go_wp2_with fail
  refine hH.mono ?_
  rintro e w3 ⟨v3, l, rfl, o3, hl1, hl2, b3⟩
  obtain ⟨p3, c3, rfl⟩ := owns_shape o3
  have bw3 := bw2.trans (b3.mono bw2.size)
  have gP3 := (b3.block _ (Array.getElem?_eq_some_iff.1 gP2).1).trans gP2
  have l3 := l2.same (b3.block _ l2.lt)
  have d3 := hd.later bw3
  have hLn := slen_any l3
  have dl := dev_lt d1
  have s2 := b2.size
  have s3 := b3.size
  have sw1 := bw1.size
  have hvb : ∀ a, p3 = some a → a.block ≠ bd ∧ a.block ≠ bn ∧ a.block ≠ bm := by
    intro a ha
    subst ha
    have := (o3.lt a.block rfl).1
    refine ⟨?_, ?_, ?_⟩ <;> omega
  have ht : tsec l.length ≤ 10 := by unfold tsec; omega
  have hAp := append_log (base := w3.heap.size) (ls := []) (k := 0) l3 (RB.nil _ _) (Nat.le_refl _) d3 hA (hT.later bw3) ⟨by omega, by omega, by omega⟩ (HB.of_owns o3) hvb hl1 (by omega) (by omega) (by omega) (by omega) (by simp)
  have hbl3 : BY w3 (.slice p3 l.length c3) := own_by o3
  have hh3 := HB.of_owns o3
  clear hH q0 q1 q2 q3 q4 q5 q6 q7
  go_wp2_with (first | (go_at_call 70; refine hLn.mono ?_; rintro e wl ⟨rfl, hwl⟩; have hwl2 := hwl.symm; clear hwl; subst hwl2) | fail)
  refine hAp.mono ?_
  rintro e w4 ⟨rfl, s', bm', rs', d4, a4, e4, l4, r4, pt⟩
  obtain ⟨pr4, cr4, rfl⟩ := r4.pa.shape
  have l4' : LB w4 gl bd (N : Int) ((tsec l.length + 1 : Nat) : Int) (.slice pr4 [l].length cr4) false := by rw [Nat.zero_add] at l4; exact l4
  have r4' : RB w4 w3.heap.size (.slice pr4 [l].length cr4) [l] := r4
  have hnil : w3.ownsRow w3.heap.size 37 1 (.slice none 0 0) 0 [] := World.ownsRow_nil _ _ _ _
  have sP : Hid (∀ T, 197 ≠ T → 214 ≠ T → 157 ≠ T → 37 ≠ T → Sty T w w4) := fun T t1 t2 t3 t4 => (Sty.of_below bw3).trans (sty_putT t1 t2 t3 t4 d3 l3 hnil pt)
  have gP4 := sty_putT (T := 25) (by decide) (by decide) (by decide) (by decide) d3 l3 hnil pt _ _ _ gP3
  have su4 := sty_putT (T := 5) (by decide) (by decide) (by decide) (by decide) d3 l3 hnil pt
  obtain ⟨hh4, hbl4⟩ := hh3.sty hbl3 su4
  have s4 := pt.size
  have bB4 : Below B w3 w4 := pt.below (by omega) (by
    rintro q (e | e | e | e | e)
    · omega
    · omega
    · omega
    · omega
    · simp [Value.ownBlock] at e)
  have bBw4 := (bw3.mono hBw).trans bB4
  have bm4 : B ≤ bm' := by rcases e4 with e | e <;> omega
  obtain ⟨q0, q1, q2, q3, q4, q5, q6, q7⟩ := par_cells gP4
  obtain ⟨kk, hkk⟩ : ∃ kk, kk = tsec l.length + 1 := ⟨_, rfl⟩
  rw [← hkk] at l4'
  have HKK : Hid (kk = tsec l.length + 1) := hkk
  clear hkk ht
  have b5 := (Below.refl w4.heap.size w4).alloc (Nat.le_refl _) (.cells #[.int .i64 s, .int .i64 h, .int .i64 mi, .int .i64 mk, .int .i64 ch, .int .i64 ar, .int .i64 ca, .int .i64 pg, .pointer (some ⟨gl, 0, none⟩), .int .i64 0, .int .i64 0, .int .i64 0] 97)
  have g5 := heap_alloc_new w4 (.cells #[.int .i64 s, .int .i64 h, .int .i64 mi, .int .i64 mk, .int .i64 ch, .int .i64 ar, .int .i64 ca, .int .i64 pg, .pointer (some ⟨gl, 0, none⟩), .int .i64 0, .int .i64 0, .int .i64 0] 97)
  obtain ⟨W5, hW5⟩ : ∃ W5, w4.alloc (.cells #[.int .i64 s, .int .i64 h, .int .i64 mi, .int .i64 mk, .int .i64 ch, .int .i64 ar, .int .i64 ca, .int .i64 pg, .pointer (some ⟨gl, 0, none⟩), .int .i64 0, .int .i64 0, .int .i64 0] 97) = W5 := ⟨_, rfl⟩
  rw [hW5] at b5 g5
  have hJ := ljudge_any w4.heap.size p3 l.length c3 W5
  clear hAp hLn l4 r4 hnil su4 hh3 hbl3 hvb o3 l3 d3 pt gP3 gP4 l2 gP2 g0 d1 hd
  go_wp2_with fail
  refine hJ.mono ?_
  rintro e W6 ⟨rfl, hW6⟩
  have b6a := (Below.refl W5.heap.size W5).alloc (Nat.le_refl _) (.cells #[.pointer (some ⟨w4.heap.size, 0, none⟩)] 26)
  have b6b := b6a.alloc b6a.size (.cells #[.slice p3 l.length c3] 37)
  have b6 := b6b.alloc b6b.size (.cells #[.int .i64 0] 3)
  have gs6 : W6.heap[W5.heap.size + 2]? = some (.cells #[.int .i64 0] 3 (0, 0)) := by
    rw [hW6]
    have := heap_alloc_new ((W5.alloc (.cells #[.pointer (some ⟨w4.heap.size, 0, none⟩)] 26)).alloc (.cells #[.slice p3 l.length c3] 37)) (.cells #[.int .i64 0] 3)
    simpa using this
  have gh6 : W6.heap[W5.heap.size + 1]? = some (.cells #[.slice p3 l.length c3] 37 (0, 0)) := by
    rw [hW6, Below.heap_alloc _ _ _ (by simp)]
    have := heap_alloc_new (W5.alloc (.cells #[.pointer (some ⟨w4.heap.size, 0, none⟩)] 26)) (.cells #[.slice p3 l.length c3] 37)
    simpa using this
  rw [← hW6] at b6
  have b46 := b5.trans (b6.mono b5.size)
  have l6 := l4'.same (b46.block _ l4'.lt)
  have r6 := r4'.later b46
  have hRc := srecs_any l6 r6 (by simp) (fun x hx => by simp at hx; subst hx; omega)
  clear hJ b6a b6b hW6
  go_wp2_with fail
  refine hRc.mono ?_
  rintro e w7 ⟨p7, c7, rfl, o7, b7⟩
  obtain ⟨g7, u7, rfl, hc7, hu7, hy7⟩ := o7.first
  obtain ⟨pu, cu, rfl⟩ := hu7.shape
  have b47 := b46.trans (b7.mono b46.size)
  have gs7 := (b7.block _ (Array.getElem?_eq_some_iff.1 gs6).1).trans gs6
  have gh7 := (b7.block _ (Array.getElem?_eq_some_iff.1 gh6).1).trans gh6
  have ch7 : w7.cell? ⟨W5.heap.size + 1, 0, none⟩ = some (.slice p3 l.length c3) := by rw [cell_of_row _ _ _ _ _ _ gh7]; rfl
  obtain ⟨hh7, hbl7⟩ := hh4.sty hbl4 (Sty.of_below b47)
  have hF := ljudge_first (W5.heap.size + 2) (W5.heap.size + 1) (.pointer (some ⟨W5.heap.size, 0, none⟩)) _ l _ w7 gs7 ch7 (by omega) hu7 hh7 (by_ne (T := 3) (by decide) gs7 hy7) (by_ne (T := 3) (by decide) gs7 hbl7)
  have hs5 := b5.size
  clear hRc hu7 hy7 hh7 hbl7 hh4 hbl4 gh6 gh7 o7 ch7 hW5
  go_wp2
  go_loopw [55] (fun i wr => ∃ k : Nat, k ≤ 1 ∧ i = .int .i64 (k : Int) ∧ ((k = 0 ∧ wr = w7) ∨ (k = 1 ∧ Only (W5.heap.size + 2) w7 wr))) (fun i _ => 1 - (Go.RowKit.intOf i).toNat)
  case atStart => exact ⟨0, by omega, rfl, .inl ⟨rfl, rfl⟩⟩
  case round =>
    obtain ⟨k, hk, rfl, hr⟩ := hrel
    rcases hr with ⟨rfl, rfl⟩ | ⟨rfl, o8⟩
    · go_wp2_with (first | (go_at_call 116; refine hF.mono ?_; rintro e w8 ⟨rfl, o8⟩))
      go_roundw
      case rel => first | exact ⟨1, by omega, by go_num, .inr ⟨rfl, o8⟩⟩ | ((repeat apply Exists.intro); exact ⟨⟨1, by omega, by go_num, .inr ⟨rfl, o8⟩⟩, rfl⟩)
      case measure => simp [Go.RowKit.intOf]
    · go_wp2
      go_ret2
      obtain ⟨vs4, ho4, _⟩ := id (r4'.later b47)
      obtain ⟨d8, l8, t8, q8⟩ := only_T (T := 3) (by decide) (by decide) (by decide) (by decide) (by decide) gs7 o8 (d4.later b47) (l4'.same (b47.block _ l4'.lt)) ho4
      have s7 := b47.size
      have s8 := o8.size
      have kg7 := ((b6.trans (b7.mono b6.size)).block _ (Array.getElem?_eq_some_iff.1 g5).1).trans g5
      have kg8 := (o8.block w4.heap.size (by omega) (Array.getElem?_eq_some_iff.1 kg7).1).trans kg7
      refine ⟨w4.heap.size, gl, l, rfl, ⟨bd, bn, bm', w3.heap.size, 0 + 200, cr4, pr4, s', kg8, (by rw [← HKK.out]; exact l8), (r4'.later b47).keep t8 q8, by omega, by omega, d8, a4, by omega, ⟨hbd.1, hbd.2.1, bm4⟩, by omega, by omega⟩, ⟨hl1, hl2⟩, (bBw4.trans (b47.mono (by omega))).trans (o8.below (by omega)), fun T t1 t2 t3 t4 t5 => ((sP.out T t1 t2 t3 t4).trans (Sty.of_below b47)).trans (sty_onlyI o8 gs7 t5)⟩

end Go.Proofs.YtcgpgnajmfemhaaGreatDoor
