/- What this text proves: the walk of sha.mix over this program: the state behind a block. -/
import Derived.Test.YtcgpgnajmfemhaaGreatDoorJSched
namespace Go.Proofs.YtcgpgnajmfemhaaGreatDoor
open Go.RowKit

/-- The rounds' numbers lie in their variable. -/
def KT (w : World) : Prop := ∀ i x, kTab[i]? = some x → w.cell? ⟨1, i, none⟩ = some (.int .u32 (x.toNat : Int))
theorem KT.later {w w' : World} (h : KT w) (hb : Below w.heap.size w w') : KT w' := fun i x hx => cell_later hb (h i x hx)

def stL (s : St) : List UInt32 := [s.a, s.b, s.c, s.d, s.e, s.f, s.g, s.h]
/-- A state as a value. -/
def stV (s : St) : Value := .agg #[.int .u32 (s.a.toNat : Int), .int .u32 (s.b.toNat : Int), .int .u32 (s.c.toNat : Int), .int .u32 (s.d.toNat : Int), .int .u32 (s.e.toNat : Int), .int .u32 (s.f.toNat : Int), .int .u32 (s.g.toNat : Int), .int .u32 (s.h.toNat : Int)]
theorem kTab_length : kTab.length = 64 := by decide
theorem i8w : (Tryz.prog.info? 217).map (·.size) = some 8 := by kernel_rfl

theorem bsig0_eq (x : UInt32) : bits .xor .u32 (bits .xor .u32 ((rotr x 2).toNat : Int) ((rotr x 13).toNat : Int)) ((rotr x 22).toNat : Int) = ((bsig0 x).toNat : Int) := by
  have h1 := w32 (rotr x 2)
  have h2 := w32 (rotr x 13)
  have h3 := w32 (rotr x 22)
  rw [b_xor _ _ h1 h2, b_xor _ _ (xor_lt _ _ h1 h2) h3]
  unfold bsig0
  rw [ofNat32 _ (xor_lt _ _ (xor_lt _ _ h1 h2) h3)]
theorem bsig1_eq (x : UInt32) : bits .xor .u32 (bits .xor .u32 ((rotr x 6).toNat : Int) ((rotr x 11).toNat : Int)) ((rotr x 25).toNat : Int) = ((bsig1 x).toNat : Int) := by
  have h1 := w32 (rotr x 6)
  have h2 := w32 (rotr x 11)
  have h3 := w32 (rotr x 25)
  rw [b_xor _ _ h1 h2, b_xor _ _ (xor_lt _ _ h1 h2) h3]
  unfold bsig1
  rw [ofNat32 _ (xor_lt _ _ (xor_lt _ _ h1 h2) h3)]
theorem majf_eq (a b c : UInt32) : bits .xor .u32 (bits .xor .u32 (bits .and .u32 (a.toNat : Int) (b.toNat : Int)) (bits .and .u32 (a.toNat : Int) (c.toNat : Int))) (bits .and .u32 (b.toNat : Int) (c.toNat : Int)) = ((majf a b c).toNat : Int) := by
  have ha := w32 a
  have hb := w32 b
  have hc := w32 c
  rw [b_and _ _ ha hb, b_and _ _ ha hc, b_and _ _ hb hc, b_xor _ _ (and_lt _ _ hb) (and_lt _ _ hc), b_xor _ _ (xor_lt _ _ (and_lt _ _ hb) (and_lt _ _ hc)) (and_lt _ _ hc)]
  unfold majf
  rw [ofNat32 _ (xor_lt _ _ (xor_lt _ _ (and_lt _ _ hb) (and_lt _ _ hc)) (and_lt _ _ hc))]
theorem chf_eq (e f g : UInt32) : bits .xor .u32 (bits .and .u32 (e.toNat : Int) (f.toNat : Int)) (bits .and .u32 (bits .xor .u32 IntKind.u32.max (e.toNat : Int)) (g.toNat : Int)) = ((chf e f g).toNat : Int) := by
  have he := w32 e
  have hf := w32 f
  have hg := w32 g
  have e1 : IntKind.u32.max = ((4294967295 : Nat) : Int) := by decide
  rw [e1, b_xor _ _ (by decide) he, b_and _ _ he hf, b_and _ _ (xor_lt _ _ (by decide) he) hg, b_xor _ _ (and_lt _ _ hf) (and_lt _ _ hg)]
  unfold chf
  rw [ofNat32 _ (xor_lt _ _ (and_lt _ _ hf) (and_lt _ _ hg))]
theorem a_eq (S : St) (k w : UInt32) : ((((tOf S k w).toNat : Int) + ((bsig0 S.a).toNat : Int)) % 4294967296 + ((majf S.a S.b S.c).toNat : Int)) % 4294967296 = ((rnd S k w).a.toNat : Int) := by
  show _ = ((UInt32.ofNat _).toNat : Int)
  rw [ofNat32m]
  omega
theorem e_eq (S : St) (k w : UInt32) : ((S.d.toNat : Int) + ((tOf S k w).toNat : Int)) % 4294967296 = ((rnd S k w).e.toNat : Int) := by
  show _ = ((UInt32.ofNat _).toNat : Int)
  rw [ofNat32m]
  omega

theorem addw_eq (x y : UInt32) : ((x.toNat : Int) + (y.toNat : Int)) % 4294967296 = ((addw x y).toNat : Int) := by
  unfold addw
  rw [ofNat32m]
  omega

/-- What mix's memory holds while it goes. -/
def MI (w : World) (s : St) (WL : List UInt32) (gw : Nat) (wr : World) : Prop :=
  AR wr w.heap.size 217 (stL s) ∧ AR wr (w.heap.size + 1) 217 (List.replicate 8 0) ∧ AR wr gw 248 WL ∧ Below w.heap.size w wr ∧ KT wr
theorem MI.drewN {w wr : World} {s : St} {WL : List UInt32} {gw : Nat} (h : MI w s WL gw wr) (n : Nat) : MI w s WL gw (wr.drewN n) := ⟨h.1, h.2.1, h.2.2.1, below_drewN h.2.2.2.1 n, h.2.2.2.2⟩

theorem kTab_get (k : Nat) (hk : k < 64) : kTab[k]? = some (kTab.getD k 0) := by
  have : k < kTab.length := by rw [kTab_length]; exact hk
  simp [List.getD, this]
theorem Wl_at (l : List UInt8) (n : Nat) : ∀ m, n < m → (Wl l m)[n]? = some (nextW l (Wl l n)) := by
  intro m
  induction m with
  | zero => intro h; omega
  | succ m ih =>
    intro h
    by_cases hm : n < m
    · rw [Wl, List.getElem?_append_left (by rw [Wl_length]; exact hm)]
      exact ih hm
    · obtain rfl : n = m := by omega
      rw [Wl, List.getElem?_append_right (by rw [Wl_length]; exact Nat.le_refl _), Wl_length]
      simp

theorem t_eq (s : St) (k w : UInt32) : (((s.h.toNat : Int) + ((bsig1 s.e).toNat : Int) + ((chf s.e s.f s.g).toNat : Int) + (k.toNat : Int)) % 4294967296 + (w.toNat : Int)) % 4294967296 = ((tOf s k w).toNat : Int) := by
  unfold tOf
  rw [ofNat32m]
  omega

set_option maxRecDepth 100000 in
set_option maxHeartbeats 1000000 in
theorem mix_any (s : St) (v : Value) (l : List UInt8) (w : World) (h : HB w v l) (hl : l.length = 64) (hK : KT w) :
    Calls Tryz.prog 158 #[stV s, v] w fun e w' => e = .returned (stV (mixF s l)) ∧ Below w.heap.size w w' := by
  obtain ⟨p, c, rfl⟩ := h.shape
  rw [hl] at h ⊢
  have HL : Hid (l.length = 64) := hl
  clear hl
  obtain ⟨M, hM0⟩ : ∃ M, M = mixF s l := ⟨_, rfl⟩
  rw [← hM0]
  have HM0 : Hid (M = addSt s (rds s l 64)) := hM0
  clear hM0
  unfold stV
  have zb : Below w.heap.size w ((w.alloc (.cells (wcs (stL s)).toArray 217)).alloc (.cells (wcs (List.replicate 8 0)).toArray 217)) := ((Below.refl _ w).alloc (Nat.le_refl _) _).alloc (by simp) _
  have z0 : AR ((w.alloc (.cells (wcs (stL s)).toArray 217)).alloc (.cells (wcs (List.replicate 8 0)).toArray 217)) w.heap.size 217 (stL s) := (AR.new w _ _ _ rfl).alloc _
  have z1 : AR ((w.alloc (.cells (wcs (stL s)).toArray 217)).alloc (.cells (wcs (List.replicate 8 0)).toArray 217)) (w.heap.size + 1) 217 (List.replicate 8 0) := by
    have := AR.new (w.alloc (.cells (wcs (stL s)).toArray 217)) 217 (List.replicate 8 0) _ rfl
    rwa [World.size_alloc] at this
  obtain ⟨W0, hW0⟩ : ∃ W0, W0 = ((w.alloc (.cells (wcs (stL s)).toArray 217)).alloc (.cells (wcs (List.replicate 8 0)).toArray 217)) := ⟨_, rfl⟩
  rw [← hW0] at zb z0 z1
  have hW0' : Hid (((w.alloc (.cells (wcs (stL s)).toArray 217)).alloc (.cells (wcs (List.replicate 8 0)).toArray 217)) = W0) := hW0.symm
  clear hW0
  go_enter Tryz.func158, Tryz.ntmps158
  go_wp2_with fail
  have eW : ((w.alloc (.cells #[.int .u32 (s.a.toNat : Int), .int .u32 (s.b.toNat : Int), .int .u32 (s.c.toNat : Int), .int .u32 (s.d.toNat : Int), .int .u32 (s.e.toNat : Int), .int .u32 (s.f.toNat : Int), .int .u32 (s.g.toNat : Int), .int .u32 (s.h.toNat : Int)] 217)).alloc (.cells #[.int .u32 0, .int .u32 0, .int .u32 0, .int .u32 0, .int .u32 0, .int .u32 0, .int .u32 0, .int .u32 0] 217)) = W0 := hW0'.out
  rw [eW]
  clear eW hW0'
  refine (sched_any _ l _ (h.later zb) HL.out).mono ?_
  rintro e w1 ⟨rfl, hb1⟩
  have g0 := z0.later hb1
  have g1 := z1.later hb1
  have gb := zb.trans (hb1.mono zb.size)
  have gK := hK.later gb
  have hsz : (Wl l 64).length = 64 := Wl_length l 64
  have hWat : Hid (∀ n, n < 64 → (Wl l 64)[n]? = some (nextW l (Wl l n))) := fun n hn => Wl_at l n 64 hn
  generalize Wl l 64 = WL at *
  clear z0 z1 zb hb1 h
  go_wp2_with (refine wpList_store_ar rfl 248 (.tmp 5) (.tmp 21) rfl w1.heap.size WL rfl rfl 248 _ (heap_alloc_new w1 _) (by rw [hsz]; exact i64w) (by rw [hsz]; rfl) ?_)
  intro w2 g2 hg2
  have hb2 : Below w1.heap.size w1 w2 := ((Below.refl _ w1).alloc (Nat.le_refl _) _).grown hg2 (by simp) (by intro k hk; cases hk; exact Nat.le_refl _)
  have f0 := g0.later hb2
  have f1 := g1.later hb2
  have fb := gb.trans (hb2.mono gb.size)
  have fK := gK.later hb2
  have hgw : w.heap.size + 1 < w1.heap.size := g1.lt
  clear g0 g1 gb gK hg2 hb2 hK
  have c0 := f0.cell 0 s.a rfl
  have c1 := f0.cell 1 s.b rfl
  have c2 := f0.cell 2 s.c rfl
  have c3 := f0.cell 3 s.d rfl
  have c4 := f0.cell 4 s.e rfl
  have c5 := f0.cell 5 s.f rfl
  have c6 := f0.cell 6 s.g rfl
  have c7 := f0.cell 7 s.h rfl
  have HZ : Hid (WL.length = 64) := hsz
  clear hsz
  have hMI : MI w s WL w1.heap.size w2 := ⟨f0, f1, g2, fb, fK⟩
  go_wp2
  go_quiet (fail)
  have hM1 := hMI.drewN nq
  have d4 : (w2.drewN nq).cell? ⟨w.heap.size, 4, none⟩ = some (.int .u32 (s.e.toNat : Int)) := c4
  have d5 : (w2.drewN nq).cell? ⟨w.heap.size, 5, none⟩ = some (.int .u32 (s.f.toNat : Int)) := c5
  have d6 : (w2.drewN nq).cell? ⟨w.heap.size, 6, none⟩ = some (.int .u32 (s.g.toNat : Int)) := c6
  have d7 : (w2.drewN nq).cell? ⟨w.heap.size, 7, none⟩ = some (.int .u32 (s.h.toNat : Int)) := c7
  clear c0 c1 c2 c3 c4 c5 c6 c7 f0 f1 fb fK g2 hMI
  generalize w2.drewN nq = w3 at *
  go_wp2
  go_quiet (fail)
  have hM2 := hM1.drewN nq
  clear d4 d5 d6 d7 hM1
  generalize w3.drewN nq = w4 at *
  go_wp2
  go_loopw [6, 7, 8, 9, 10, 11, 12, 13, 38] (fun va vb vc vd ve vf vg vh i wr => ∃ k : Nat, k ≤ 64 ∧ i = .int .i64 k ∧ va = .int .u32 ((rds s l k).a.toNat : Int) ∧ vb = .int .u32 ((rds s l k).b.toNat : Int) ∧ vc = .int .u32 ((rds s l k).c.toNat : Int) ∧ vd = .int .u32 ((rds s l k).d.toNat : Int) ∧
      ve = .int .u32 ((rds s l k).e.toNat : Int) ∧ vf = .int .u32 ((rds s l k).f.toNat : Int) ∧ vg = .int .u32 ((rds s l k).g.toNat : Int) ∧ vh = .int .u32 ((rds s l k).h.toNat : Int) ∧ MI w s WL w1.heap.size wr)
    (fun _ _ _ _ _ _ _ _ i _ => 64 - (intOf i).toNat)
  case atStart => exact ⟨0, Nat.zero_le _, rfl, rfl, rfl, rfl, rfl, rfl, rfl, rfl, rfl, hM2⟩
  case round =>
    clear hM2
    obtain ⟨k, hk, rfl, rfl, rfl, rfl, rfl, rfl, rfl, rfl, rfl, hM⟩ := hrel
    by_cases hlt : k < 64
    · have HR : rds s l (k + 1) = rnd (rds s l k) (kTab.getD k 0) (nextW l (Wl l k)) := rfl
      have qk := hM.2.2.2.2 k _ (kTab_get k hlt)
      have qw := hM.2.2.1.cell k _ (hWat.out k hlt)
      generalize kTab.getD k 0 = kk at *
      generalize nextW l (Wl l k) = ww at *
      generalize rds s l k = S at *
      have HS : Hid (rds s l (k + 1) = rnd S kk ww) := HR
      clear HR
      have hsg : IntKind.u32.signed = false := rfl
      go_wp2_with fail
      refine (rot6 S.e _).mono ?_
      rintro e w' ⟨rfl, hw⟩
      have hw2 := hw.symm
      subst hw2
      clear hw
      go_wp2_with fail
      refine (rot11 S.e _).mono ?_
      rintro e w' ⟨rfl, hw⟩
      have hw2 := hw.symm
      subst hw2
      clear hw
      go_wp2_with fail
      refine (rot25 S.e _).mono ?_
      rintro e w' ⟨rfl, hw⟩
      have hw2 := hw.symm
      subst hw2
      clear hw
      go_wp2_with fail
      rw [bsig1_eq S.e]
      rw [chf_eq S.e S.f S.g]
      go_quiet (fail)
      rw [t_eq S kk ww]
      have hM2 := hM.drewN nq
      clear hM qk qw
      generalize wr.drewN nq = w5 at *
      go_wp2_with fail
      refine (rot2 S.a _).mono ?_
      rintro e w' ⟨rfl, hw⟩
      have hw2 := hw.symm
      subst hw2
      clear hw
      go_wp2_with fail
      refine (rot13 S.a _).mono ?_
      rintro e w' ⟨rfl, hw⟩
      have hw2 := hw.symm
      subst hw2
      clear hw
      go_wp2_with fail
      refine (rot22 S.a _).mono ?_
      rintro e w' ⟨rfl, hw⟩
      have hw2 := hw.symm
      subst hw2
      clear hw
      go_wp2_with fail
      rw [bsig0_eq S.a, majf_eq S.a S.b S.c, a_eq S kk ww, e_eq S kk ww]
      exact ⟨⟨k + 1, by omega, by go_num, by rw [HS.out], by rw [HS.out]; rfl, by rw [HS.out]; rfl, by rw [HS.out]; rfl, by rw [HS.out], by rw [HS.out]; rfl, by rw [HS.out]; rfl, by rw [HS.out]; rfl, hM2⟩, by simp [intOf]; omega⟩
    · have hk64 : k = 64 := by omega
      subst hk64
      clear hlt hk
      have HM : M = addSt s (rds s l 64) := HM0.out
      clear HM0
      generalize rds s l 64 = S at *
      have HM1 : Hid (M = addSt s S) := HM
      clear HM
      obtain ⟨f0, f1, _, fb, _⟩ := hM
      have c0 := f0.cell 0 s.a rfl
      have c1 := f0.cell 1 s.b rfl
      have c2 := f0.cell 2 s.c rfl
      have c3 := f0.cell 3 s.d rfl
      have c4 := f0.cell 4 s.e rfl
      have c5 := f0.cell 5 s.f rfl
      have c6 := f0.cell 6 s.g rfl
      have c7 := f0.cell 7 s.h rfl
      go_wp2_with (refine wpList_store_row rfl 217 (.tmp 4) (.tmp 136) rfl (w.heap.size + 1) _ rfl rfl 217 _ f1 ?si ?sh ?sa ?_)
      case si => rw [i8w]; simp
      case sh => simp [wcs]
      case sa => exact all8 _ _ _ _ _ _ _ _
      have hM2 : .agg #[.int .u32 (M.a.toNat : Int), .int .u32 (M.b.toNat : Int), .int .u32 (M.c.toNat : Int), .int .u32 (M.d.toNat : Int), .int .u32 (M.e.toNat : Int), .int .u32 (M.f.toNat : Int), .int .u32 (M.g.toNat : Int), .int .u32 (M.h.toNat : Int)] = (Value.agg #[.int .u32 (((s.a.toNat : Int) + (S.a.toNat : Int)) % 4294967296), .int .u32 (((s.b.toNat : Int) + (S.b.toNat : Int)) % 4294967296), .int .u32 (((s.c.toNat : Int) + (S.c.toNat : Int)) % 4294967296), .int .u32 (((s.d.toNat : Int) + (S.d.toNat : Int)) % 4294967296), .int .u32 (((s.e.toNat : Int) + (S.e.toNat : Int)) % 4294967296), .int .u32 (((s.f.toNat : Int) + (S.f.toNat : Int)) % 4294967296), .int .u32 (((s.g.toNat : Int) + (S.g.toNat : Int)) % 4294967296), .int .u32 (((s.h.toNat : Int) + (S.h.toNat : Int)) % 4294967296)]) := by
        rw [HM1.out]
        simp only [addw_eq]
        rfl
      rw [hM2]
      refine bodyPost_ret ?_ rfl ⟨rfl, Below.row fb (by omega : w.heap.size ≤ w.heap.size + 1) _⟩
      exact results_cell_row Tryz.results158 _ _ (w.heap.size + 1) 217 _ _ _ rfl (setRow_heap wr (w.heap.size + 1) _ _ 217 (0, 0) f1) Tryz.underlying217 rfl (by rw [i8w]; simp)

end Go.Proofs.YtcgpgnajmfemhaaGreatDoor
