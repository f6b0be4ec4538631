/- What this text proves: the walk of a step on two devices side by side (Step.Do) over this program: both go alike. -/
import Derived.Test.YtmikhebbcmniaaaXDSame
import Derived.Test.YtmikhebbcmniaaaXDSpoil
import Derived.Test.YtmikhebbcmniaaaXDCrash
namespace Go.Proofs.Ytmikhebbcmniaaa
open Go.RowKit

set_option maxRecDepth 10000 in
set_option maxHeartbeats 400000 in
theorem full_own (w : World) (op i : Int) (u : Value) (l : List UInt8) (hu : HB w u l) : Calls Try.prog 22 #[.agg #[.int .i64 op, .int .i64 i, u]] w fun e w' => ∃ g, e = .returned (.slice (some ⟨g, 0, none⟩) 64 64) ∧ w'.ownsRow w.heap.size 5 1 (.slice (some ⟨g, 0, none⟩) 64 64) 64 (bcs (fullL l)) ∧ w.heap.size ≤ g ∧ Below w.heap.size w w' := by
  obtain ⟨i0, hi, hz0, hz1, hz2⟩ := info_parts i_u8
  obtain ⟨p, c, rfl⟩ := hu.shape
  have c2 : (w.alloc (.cells #[.int .i64 op, .int .i64 i, .slice p l.length c] 33)).cell? ⟨w.heap.size, 2, none⟩ = some (.slice p l.length c) := by
    rw [cell_of_row _ _ 2 _ _ _ (heap_alloc_new w _)]; rfl
  have hb0 : Below w.heap.size w (w.alloc (.cells #[.int .i64 op, .int .i64 i, .slice p l.length c] 33)) := (Below.refl _ w).alloc (Nat.le_refl _) _
  have hsz : w.heap.size < (w.alloc (.cells #[.int .i64 op, .int .i64 i, .slice p l.length c] 33)).heap.size := by simp
  have hm := made_bcs 64
  have hnl : List.replicate 64 (0 : UInt8) = nulls := rfl
  rw [hnl] at hm
  clear hnl
  have hby : i0.bytes * 64 ≤ 281474976710656 := by rw [hz2]; omega
  have hbx : ∀ w1, (w.alloc (.cells #[.int .i64 op, .int .i64 i, .slice p l.length c] 33)).grownBy w1 none → Below w.heap.size w w1 ∧ w1.cell? ⟨w.heap.size, 2, none⟩ = some (.slice p l.length c) ∧ w.heap.size < w1.heap.size := by
    intro w1 hg
    have h1 := (Below.refl _ (w.alloc (.cells #[.int .i64 op, .int .i64 i, .slice p l.length c] 33))).grown hg (Nat.le_refl _) (fun _ e => by cases e)
    exact ⟨hb0.trans (h1.mono (by simp)), cell_later h1 c2, Nat.lt_of_lt_of_le hsz h1.size⟩
  obtain ⟨w1, hrun, how, hgr⟩ := run_make_full (P := Try.prog) (w.alloc (.cells #[.int .i64 op, .int .i64 i, .slice p l.length c] 33)) w.heap.size 31 5 i0 (.int .u8 0) 1 Try.underlying31 hi hz0 hz1 .i64 .i64 64 hby (by unfold maxLen; omega) (Nat.le_of_lt hsz)
  rw [World.size_alloc] at hrun how
  have hrun' : (Instr.makeSlice 31 (.int .i64 64) (.int .i64 64)).run Try.prog (w.alloc (.cells #[.int .i64 op, .int .i64 i, .slice p l.length c] 33)) = .ok (.slice (some ⟨w.heap.size + 1, 0, none⟩) 64 64) w1 := hrun
  have how2 : w1.ownsRow w.heap.size 5 1 (.slice (some ⟨w.heap.size + 1, 0, none⟩) 64 64) 64 (bcs nulls) := by
    rw [← hm]; exact how
  obtain ⟨hb1, c21, hs1⟩ := hbx w1 hgr
  have hu1 := hu.later hb1
  have hfin : ∀ w2, w2.ownsRow w.heap.size 5 1 (.slice (some ⟨w.heap.size + 1, 0, none⟩) 64 64) 64 (bcs (l.take 64 ++ nulls.drop l.length)) → w1.grownBy w2 (some (w.heap.size + 1)) → ∃ g, Ending.returned (.slice (some ⟨w.heap.size + 1, 0, none⟩) 64 64) = .returned (.slice (some ⟨g, 0, none⟩) 64 64) ∧ w2.ownsRow w.heap.size 5 1 (.slice (some ⟨g, 0, none⟩) 64 64) 64 (bcs (fullL l)) ∧ w.heap.size ≤ g ∧ Below w.heap.size w w2 := by
    intro w2 ho hg
    exact ⟨w.heap.size + 1, rfl, ho, by omega, hb1.grown hg (Nat.le_of_lt hs1) (fun j e => by cases e; omega)⟩
  clear hrun how hm hbx hgr hb0 hsz hu hby hi hz0 hz1 hz2 hb1
  have hs8 := s_u8
  go_enter Try.func22, Try.ntmps22
  go_wp2_with (first
    | (refine wpList_copy_into rfl _ _ 31 31 rfl 5 Try.underlying31 hs8 (w.heap.size + 1) 64 p l.length c rfl rfl w.heap.size nulls how2 l hu1 ?_; intro w2 k ho hg))
  go_ret
  exact hfin w2 ho hg

theorem HB.awayN {w w' : World} {v : Value} {l : List UInt8} {S : Nat → Prop} (h : HB w v l) (hp : Part S w w') (hv : l ≠ [] → ∀ a n c, v = .slice (some a) n c → ¬ S a.block) : HB w' v l := by
  by_cases hl : l = []
  · obtain ⟨p, c, rfl⟩ := h.shape
    subst hl
    exact HB.empty _ p c h.len.2.2.1 h.len.2.2.2
  · exact h.away hp (hv hl)
theorem HB.oldN {w W : World} {base : Nat} {v : Value} {l : List UInt8} (h : HB w v l) (hp : l ≠ [] → ∀ a n c, v = .slice (some a) n c → a.block < base) (b : Below base w W) : HB W v l := by
  by_cases hl : l = []
  · obtain ⟨p, c, rfl⟩ := h.shape
    subst hl
    exact HB.empty _ p c h.len.2.2.1 h.len.2.2.2
  · exact h.old (hp hl) b
theorem ByB.later {w w' : World} {b : Nat} (h : ByB w b) (hb : Below w.heap.size w w') : ByB w' b := by
  obtain ⟨cs, T, h1, h2, h3⟩ := h
  exact ⟨cs, T, (hb.block b (Array.getElem?_eq_some_iff.1 h1).1).trans h1, h2, h3⟩
theorem cell_under {B : Nat} {w w' : World} {b o : Nat} {v : Value} (hb : Below B w w') (hlt : b < B) (h : w.cell? ⟨b, o, none⟩ = some v) : w'.cell? ⟨b, o, none⟩ = some v := by
  rw [World.cell?_of_block (w := w) (hb.block b hlt)]
  exact h

/-- What a Write tells, and what is then there. -/
def wOk (s : DevS) (I : Int) (l : List UInt8) : Prop := (0 ≤ I ∧ I < (s.now.length : Int)) ∧ l.length = 64
theorem write_both {s : DevS} (hok : s.Ok) (hc : s.ch + 1 ≤ 1099511627776) (I : Int) (l : List UInt8) : ∃ (E : Int) (t : DevS), t.Ok ∧ t.ch ≤ s.ch + 1 ∧ t.now.length = s.now.length ∧
    (∀ {w : World} {bd bn bm : Nat} (v : Value), Dev w bd bn bm s → HB w v l → (l ≠ [] → ∀ a n c, v = .slice (some a) n c → a.block ≠ bd ∧ a.block ≠ bn) → Calls Try.prog 23 #[.pointer (some ⟨bd, 0, none⟩), .int .i64 I, v] w fun e w' => e = .returned (.int .i64 E) ∧ Dev w' bd bn bm t ∧ Part (dS bd bn bm) w w') ∧
    (∀ {w : World} {bx bl bk bw cl ck cw : Nat} (v : Value), XDev w bx bl bk bw cl ck cw s → HB w v l → (l ≠ [] → ∀ a n c, v = .slice (some a) n c → a.block ≠ bx) → Calls Try.prog 37 #[.pointer (some ⟨bx, 0, none⟩), .int .i64 I, v] w fun e w' => e = .returned (.int .i64 E) ∧ XDev w' bx bl bk bw cl ck cw t ∧ Part (xS bx bl bk bw) w w') := by
  by_cases hw : (0 ≤ I ∧ I < (s.now.length : Int)) ∧ l.length = 64
  · obtain ⟨⟨h0, h1⟩, h2⟩ := hw
    obtain ⟨i, rfl⟩ : ∃ i : Nat, I = (i : Int) := ⟨I.toNat, by omega⟩
    have hi : i < s.now.length := by omega
    have hok' := hok.write hc i l hi h2
    have hne : l ≠ [] := fun e => by rw [e] at h2; cases h2
    refine ⟨s.err, s.write i l, hok', write_ch s i l, ?_, ?_, ?_⟩
    · cases hs : s.stops
      · rw [xw_now hs, List.length_set]
      · have : s.write i l = s.counted := by simp [DevS.write, hs]
        rw [this, counted_now]
    · intro w bd bn bm v hd hv hb
      exact write_any hd i v l hv hi h2 hc (hb hne)
    · intro w bx bl bk bw cl ck cw v hx hv hb
      obtain ⟨p, c, rfl⟩ := hv.shape
      rw [h2] at hv hb ⊢
      exact rwrite_any hx i p c l hv hi hc (fun a e => hb hne a 64 c (by rw [e]))
  · refine ⟨1, s, hok, by omega, rfl, ?_, ?_⟩
    · intro w bd bn bm v hd hv _
      have hbad : ¬ (0 ≤ I ∧ I < (s.now.length : Int)) ∨ l.length ≠ 64 := by
        by_cases h : 0 ≤ I ∧ I < (s.now.length : Int)
        · exact .inr (fun e => hw ⟨h, e⟩)
        · exact .inl h
      refine (write_arg hd I v l hv hbad).mono ?_
      rintro e w' ⟨rfl, rfl⟩
      exact ⟨rfl, hd, Part.refl _ _⟩
    · intro w bx bl bk bw cl ck cw v hx hv _
      have hbad : ¬ (0 ≤ I ∧ I < (s.now.length : Int)) ∨ l.length ≠ 64 := by
        by_cases h : 0 ≤ I ∧ I < (s.now.length : Int)
        · exact .inr (fun e => hw ⟨h, e⟩)
        · exact .inl h
      obtain ⟨p, c, rfl⟩ := hv.shape
      refine (rwrite_arg hx I p l.length c hbad).mono ?_
      rintro e w' ⟨rfl, rfl⟩
      exact ⟨rfl, hx, Part.refl _ _⟩

/-- Both devices, side by side, from base on. -/
structure Two (w : World) (base bd bn bm bx bl bk bw cl ck cw : Nat) (s : DevS) : Prop where
  d : Dev w bd bn bm s
  x : XDev w bx bl bk bw cl ck cw s
  b1 : base ≤ bd
  b2 : base ≤ bn
  b3 : base ≤ bm
  b4 : base ≤ bx
  b5 : base ≤ bl
  b6 : base ≤ bk
  b7 : base ≤ bw

theorem Two.later {w w' : World} {base bd bn bm bx bl bk bw cl ck cw : Nat} {s : DevS} (h : Two w base bd bn bm bx bl bk bw cl ck cw s) (hb : Below w.heap.size w w') : Two w' base bd bn bm bx bl bk bw cl ck cw s :=
  ⟨h.d.later hb, h.x.later hb, h.b1, h.b2, h.b3, h.b4, h.b5, h.b6, h.b7⟩
theorem Two.dS {w w' : World} {base bd bn bm bx bl bk bw cl ck cw : Nat} {s : DevS} (h : Two w base bd bn bm bx bl bk bw cl ck cw s) (hb : base ≤ w.heap.size) (hp : Part (dS bd bn bm) w w') : Below base w w' :=
  hp.below hb (by rintro k (rfl | rfl | rfl); exact h.b1; exact h.b2; exact h.b3)
theorem Two.xS {w w' : World} {base bd bn bm bx bl bk bw cl ck cw : Nat} {s : DevS} (h : Two w base bd bn bm bx bl bk bw cl ck cw s) (hb : base ≤ w.heap.size) (hp : Part (xS bx bl bk bw) w w') : Below base w w' :=
  hp.below hb (by rintro k (rfl | rfl | rfl | rfl); exact h.b4; exact h.b5; exact h.b6; exact h.b7)
theorem Two.lts {w : World} {base bd bn bm bx bl bk bw cl ck cw : Nat} {s : DevS} (h : Two w base bd bn bm bx bl bk bw cl ck cw s) : bd < w.heap.size ∧ bn < w.heap.size ∧ bm < w.heap.size ∧ bx < w.heap.size ∧ bl < w.heap.size ∧ bk < w.heap.size ∧ bw < w.heap.size :=
  ⟨h.d.db.lt, h.d.sr.lt, h.d.dm.lt, h.x.g.db.lt, h.x.g.l.lt, h.x.g.k.lt, h.x.g.w.lt⟩

/-- What a step on both does. -/
def DoIs (w : World) (base bd bn bx bl bk bw cl ck cw : Nat) (s : DevS) (op I : Int) (u : Value) : Prop :=
  Calls Try.prog 11 #[.agg #[.int .i64 op, .int .i64 I, u], .pointer (some ⟨bd, 0, none⟩), .pointer (some ⟨bx, 0, none⟩)] w fun e w' => e = .returned (.bool true) ∧ ∃ bm' t, Two w' base bd bn bm' bx bl bk bw cl ck cw t ∧ t.ch ≤ s.ch + 1 ∧ t.now.length = s.now.length ∧ Below base w w'

theorem sync_len (s : DevS) : s.sync.now.length = s.now.length := by
  cases hs : s.stops
  · rw [xs_eq hs]; simp only [counted_now]
  · have : s.sync = s.counted := by simp [DevS.sync, hs]
    rw [this, counted_now]
theorem crash_len {s : DevS} (hok : s.Ok) (keep : List UInt8) : (s.crash keep).now.length = s.now.length := (crashTo_rows s.old keep s.now.length hok.olds s.waits 0 s.now rfl (waits_some s) hok.rows).1

set_option maxRecDepth 10000 in
set_option maxHeartbeats 1600000 in
theorem do_sync {w : World} {base bd bn bm bx bl bk bw cl ck cw : Nat} {s : DevS} (h : Two w base bd bn bm bx bl bk bw cl ck cw s) (hc : s.ch + 1 ≤ 1099511627776) (op I : Int) (u : Value) (l : List UInt8) (hu : HB w u l) (hM : wrap64 ((IntKind.u64.wrap op).tmod 6) = 2) :
    DoIs w base bd bn bx bl bk bw cl ck cw s op I u := by
  obtain ⟨p, c, rfl⟩ := hu.shape
  have bA := (Below.refl w.heap.size w).alloc (Nat.le_refl _) (.cells #[.int .i64 op, .int .i64 I, .slice p l.length c] 33)
  have gA := heap_alloc_new w (.cells #[.int .i64 op, .int .i64 I, .slice p l.length c] 33)
  have cA0 := (cell_of_row _ _ 0 _ _ _ gA)
  have cA1 := (cell_of_row _ _ 1 _ _ _ gA)
  have cA2 := (cell_of_row _ _ 2 _ _ _ gA)
  have hA := h.later bA
  have hb0 : base ≤ w.heap.size := Nat.le_trans h.b1 (Nat.le_of_lt h.lts.1)
  have bA0 : Below base w (w.alloc (.cells #[.int .i64 op, .int .i64 I, .slice p l.length c] 33)) := bA.mono hb0
  have hbA : base ≤ (w.alloc (.cells #[.int .i64 op, .int .i64 I, .slice p l.length c] 33)).heap.size := Nat.le_trans hb0 bA.size
  have hlt := h.lts
  have hgs : ¬ dS bd bn bm w.heap.size ∧ ¬ xS bx bl bk bw w.heap.size := ⟨by rintro (e | e | e) <;> omega, by rintro (e | e | e | e) <;> omega⟩
  have huA := hu.later bA
  generalize hWA : w.alloc (.cells #[.int .i64 op, .int .i64 I, .slice p l.length c] 33) = WA at *
  have hY := sync_any hA.d hc
  have hln := sync_len s
  have hcs := sync_ch s
  have hfin : ∀ w1 bm1, Dev w1 bd bn bm1 s.sync → (bm1 = bm ∨ WA.heap.size ≤ bm1) → Part (fun k => k = bd) WA w1 → Calls Try.prog 38 #[.pointer (some ⟨bx, 0, none⟩)] w1 fun e w' => e = .returned (.int .i64 s.err) ∧ ∃ bm' t, Two w' base bd bn bm' bx bl bk bw cl ck cw t ∧ t.ch ≤ s.ch + 1 ∧ t.now.length = s.now.length ∧ Below base w w' := by
    intro w1 bm1 hd1 hbm p1
    have p1' : Part (dS bd bn bm) WA w1 := p1.of_eq (fun k e => .inl e)
    have hx1 := hA.x.dev hA.d p1'
    have b1 := hA.dS hbA p1'
    refine (rsync_any hx1 hc).mono ?_
    rintro e w2 ⟨rfl, hx2, p2⟩
    have hd2 := hd1.xdev hx1 p2
    have hb1 : base ≤ w1.heap.size := Nat.le_trans hbA b1.size
    have b2 : Below base w1 w2 := p2.below hb1 (by rintro k (rfl | rfl | rfl | rfl); exact h.b4; exact h.b5; exact h.b6; exact h.b7)
    exact ⟨rfl, bm1, s.sync, ⟨hd2, hx2, h.b1, h.b2, (by rcases hbm with rfl | e; exact h.b3; omega), h.b4, h.b5, h.b6, h.b7⟩, hcs, hln, (bA0.trans b1).trans b2⟩
  generalize s.err = E at *
  clear hA hu huA cA1 cA2 hlt hgs bA bA0 gA
  unfold DoIs
  go_enter Try.func11, Try.ntmps11
  go_wp2_with (first
    | (go_at_call 24; refine hY.mono ?_; rintro e w1 ⟨rfl, bm1, hd1, hbm, p1⟩; have hF := hfin w1 bm1 hd1 hbm p1)
    | (go_at_call 38; refine hF.mono ?_; rintro e w2 ⟨rfl, hr⟩))
  go_ret
  exact ⟨by simp, hr⟩

set_option maxRecDepth 10000 in
set_option maxHeartbeats 1600000 in
theorem do_fuse {w : World} {base bd bn bm bx bl bk bw cl ck cw : Nat} {s : DevS} (h : Two w base bd bn bm bx bl bk bw cl ck cw s) (op I : Int) (u : Value) (l : List UInt8) (hu : HB w u l) (hI2 : I ≤ 9223372036854775807) (hM : wrap64 ((IntKind.u64.wrap op).tmod 6) = 3) :
    DoIs w base bd bn bx bl bk bw cl ck cw s op I u := by
  obtain ⟨p, c, rfl⟩ := hu.shape
  have bA := (Below.refl w.heap.size w).alloc (Nat.le_refl _) (.cells #[.int .i64 op, .int .i64 I, .slice p l.length c] 33)
  have gA := heap_alloc_new w (.cells #[.int .i64 op, .int .i64 I, .slice p l.length c] 33)
  have cA0 := (cell_of_row _ _ 0 _ _ _ gA)
  have cA1 := (cell_of_row _ _ 1 _ _ _ gA)
  have cA2 := (cell_of_row _ _ 2 _ _ _ gA)
  have hA := h.later bA
  have hb0 : base ≤ w.heap.size := Nat.le_trans h.b1 (Nat.le_of_lt h.lts.1)
  have bA0 : Below base w (w.alloc (.cells #[.int .i64 op, .int .i64 I, .slice p l.length c] 33)) := bA.mono hb0
  have hbA : base ≤ (w.alloc (.cells #[.int .i64 op, .int .i64 I, .slice p l.length c] 33)).heap.size := Nat.le_trans hb0 bA.size
  have hlt := h.lts
  have hgs : ¬ dS bd bn bm w.heap.size ∧ ¬ xS bx bl bk bw w.heap.size := ⟨by rintro (e | e | e) <;> omega, by rintro (e | e | e | e) <;> omega⟩
  have huA := hu.later bA
  generalize hWA : w.alloc (.cells #[.int .i64 op, .int .i64 I, .slice p l.length c] 33) = WA at *
  have hfin : ∃ E : Int, (Calls Try.prog 32 #[.pointer (some ⟨bd, 0, none⟩), .int .i64 I] WA.drew fun e w' => e = .returned (.int .i64 E) ∧ w'.cell? ⟨w.heap.size, 1, none⟩ = some (.int .i64 I) ∧ (Calls Try.prog 39 #[.pointer (some ⟨bx, 0, none⟩), .int .i64 I] w' fun e w2 => e = .returned (.int .i64 E) ∧ w2.cell? ⟨w.heap.size, 1, none⟩ = some (.int .i64 I) ∧ ∃ bm' t, Two w2 base bd bn bm' bx bl bk bw cl ck cw t ∧ t.ch ≤ s.ch + 1 ∧ t.now.length = s.now.length ∧ Below base w w2)) := by
    have bD : Below WA.heap.size WA WA.drew := (Below.refl _ _).drew
    have hD := hA.later bD
    have bA1 : Below base w WA.drew := bA0.drew
    have cD1 : WA.drew.cell? ⟨w.heap.size, 1, none⟩ = some (.int .i64 I) := cA1
    by_cases hI : 0 ≤ I
    · refine ⟨0, (fuse_any hD.d I hI hI2).mono ?_⟩
      rintro e w1 ⟨rfl, hd1, p1⟩
      have p1' : Part (dS bd bn bm) WA.drew w1 := p1.of_eq (fun k e => .inl e)
      have hx1 := hD.x.dev hD.d p1'
      have b1 := hD.dS (Nat.le_trans hbA bD.size) p1'
      have c1 := cell_part p1' cD1 hgs.1
      refine ⟨rfl, c1, (rfuse_any hx1 I hI hI2).mono ?_⟩
      rintro e w2 ⟨rfl, hx2, p2⟩
      have p2' : Part (xS bx bl bk bw) w1 w2 := p2.of_eq (fun k e => .inl e)
      have hd2 := hd1.xdev hx1 p2'
      have hb1 : base ≤ w1.heap.size := Nat.le_trans (Nat.le_trans hbA bD.size) b1.size
      have b2 : Below base w1 w2 := p2'.below hb1 (by rintro k (rfl | rfl | rfl | rfl); exact h.b4; exact h.b5; exact h.b6; exact h.b7)
      exact ⟨rfl, cell_part p2' c1 hgs.2, bm, s.fused I, ⟨hd2, hx2, h.b1, h.b2, h.b3, h.b4, h.b5, h.b6, h.b7⟩, by show s.ch ≤ _; omega, rfl, (bA1.trans b1).trans b2⟩
    · refine ⟨1, (fuse_neg hD.d I (by omega)).mono ?_⟩
      rintro e w1 ⟨rfl, rfl⟩
      refine ⟨rfl, cD1, (rfuse_neg _ I (by omega)).mono ?_⟩
      rintro e w2 ⟨rfl, rfl⟩
      exact ⟨rfl, cD1, bm, s, hD, by omega, rfl, bA1⟩
  obtain ⟨E, hF⟩ := hfin
  have cD1 : WA.drew.cell? ⟨w.heap.size, 1, none⟩ = some (.int .i64 I) := cA1
  have cI : WA.cell? ⟨w.heap.size, 1, none⟩ = some (.int .i64 I) := cA1
  clear hA hu huA cA1 cA2 hlt hgs bA bA0 gA h
  unfold DoIs
  go_enter Try.func11, Try.ntmps11
  go_wp2
  go_region_held3 (fun W => W.cell? ⟨w.heap.size, 1, none⟩ = some (.int .i64 I)) (first | with_reducible exact cD1 | with_reducible exact c1 | with_reducible exact c2 | fail) (first
    | (go_at_call 32; refine hF.mono ?_; rintro e w1 ⟨rfl, c1, hG⟩)
    | (go_at_call 39; refine hG.mono ?_; rintro e w2 ⟨rfl, c2, hr⟩))
  clear hF hG
  go_wp2
  go_ret
  exact ⟨by simp, hr⟩

set_option maxRecDepth 10000 in
set_option maxHeartbeats 1600000 in
theorem do_crash4 {w : World} {base bd bn bm bx bl bk bw cl ck cw : Nat} {s : DevS} (h : Two w base bd bn bm bx bl bk bw cl ck cw s) (op I : Int) (u : Value) (l : List UInt8) (hu : HB w u l) (hub : l ≠ [] → ∀ a n c, u = .slice (some a) n c → a.block < base) (hM : wrap64 ((IntKind.u64.wrap op).tmod 6) = 4) :
    DoIs w base bd bn bx bl bk bw cl ck cw s op I u := by
  obtain ⟨p, c, rfl⟩ := hu.shape
  have bA := (Below.refl w.heap.size w).alloc (Nat.le_refl _) (.cells #[.int .i64 op, .int .i64 I, .slice p l.length c] 33)
  have gA := heap_alloc_new w (.cells #[.int .i64 op, .int .i64 I, .slice p l.length c] 33)
  have cA0 := (cell_of_row _ _ 0 _ _ _ gA)
  have cA1 := (cell_of_row _ _ 1 _ _ _ gA)
  have cA2 := (cell_of_row _ _ 2 _ _ _ gA)
  have hA := h.later bA
  have hb0 : base ≤ w.heap.size := Nat.le_trans h.b1 (Nat.le_of_lt h.lts.1)
  have bA0 : Below base w (w.alloc (.cells #[.int .i64 op, .int .i64 I, .slice p l.length c] 33)) := bA.mono hb0
  have hbA : base ≤ (w.alloc (.cells #[.int .i64 op, .int .i64 I, .slice p l.length c] 33)).heap.size := Nat.le_trans hb0 bA.size
  have hlt := h.lts
  have hgs : ¬ dS bd bn bm w.heap.size ∧ ¬ xS bx bl bk bw w.heap.size := ⟨by rintro (e | e | e) <;> omega, by rintro (e | e | e | e) <;> omega⟩
  have huA := hu.later bA
  generalize hWA : w.alloc (.cells #[.int .i64 op, .int .i64 I, .slice p l.length c] 33) = WA at *
  have hcl := crash_len h.d.ok l
  have hX := rcrash_any hA.x _ l huA (fun hl a n c e => by have := hub hl a n c e; have q1 := h.b4; have q2 := h.b5; have q3 := h.b6; have q4 := h.b7; rintro (e | e | e | e) <;> omega)
  have hfin : ∀ w1, XDev w1 bx bl bk bw cl ck cw (s.crash l) → Part (xS bx bl bk bw) WA w1 → w1.cell? ⟨w.heap.size, 2, none⟩ = some (.slice p l.length c) ∧ Calls Try.prog 25 #[.pointer (some ⟨bd, 0, none⟩), .slice p l.length c] w1 fun e w' => e = .returned (.int .i64 0) ∧ ∃ bm' t, Two w' base bd bn bm' bx bl bk bw cl ck cw t ∧ t.ch ≤ s.ch + 1 ∧ t.now.length = s.now.length ∧ Below base w w' := by
    intro w1 hx1 p1
    have hd1 := hA.d.xdev hA.x p1
    have b1 := hA.xS hbA p1
    have hu1 : HB w1 (.slice p l.length c) l := huA.awayN p1 (fun hl a n c e => by have := hub hl a n c e; have q1 := h.b4; have q2 := h.b5; have q3 := h.b6; have q4 := h.b7; rintro (e | e | e | e) <;> omega)
    have hb1 : base ≤ w1.heap.size := Nat.le_trans hbA b1.size
    refine ⟨cell_part p1 cA2 hgs.2, (crash_any hd1 _ l hu1 (fun hl a n c e => by have := hub hl a n c e; have := h.b2; omega)).mono ?_⟩
    rintro e w2 ⟨rfl, bm2, hd2, hbm2, p2⟩
    have p2' : Part (dS bd bn bm) w1 w2 := p2.of_eq (fun k e => by rcases e with e | e; exact .inl e; exact .inr (.inl e))
    have hx2 := hx1.dev hd1 p2'
    have b2 : Below base w1 w2 := p2'.below hb1 (by rintro k (rfl | rfl | rfl); exact h.b1; exact h.b2; exact h.b3)
    exact ⟨rfl, bm2, s.crash l, ⟨hd2, hx2, h.b1, h.b2, by omega, h.b4, h.b5, h.b6, h.b7⟩, by show s.ch ≤ _; omega, hcl, (bA0.trans b1).trans b2⟩
  have cI : WA.cell? ⟨w.heap.size, 2, none⟩ = some (.slice p l.length c) := cA2
  clear hA hu huA cA1 cA2 hlt hgs bA bA0 gA h hub hcl
  generalize s.crash l = SC at *
  unfold DoIs
  go_enter Try.func11, Try.ntmps11
  go_wp2_with (first
    | (go_at_call 27; refine hX.mono ?_; rintro e w1 ⟨rfl, hx1, p1⟩; obtain ⟨cJ, hF⟩ := hfin w1 hx1 p1)
    | (go_at_call 25; refine hF.mono ?_; rintro e w2 ⟨rfl, hr⟩))
  go_ret
  exact ⟨by simp, hr⟩

set_option maxRecDepth 10000 in
set_option maxHeartbeats 1600000 in
theorem do_crash5 {w : World} {base bd bn bm bx bl bk bw cl ck cw : Nat} {s : DevS} (h : Two w base bd bn bm bx bl bk bw cl ck cw s) (op I : Int) (u : Value) (l : List UInt8) (hu : HB w u l) (hub : l ≠ [] → ∀ a n c, u = .slice (some a) n c → a.block < base) (hM : wrap64 ((IntKind.u64.wrap op).tmod 6) = 5) :
    DoIs w base bd bn bx bl bk bw cl ck cw s op I u := by
  obtain ⟨p, c, rfl⟩ := hu.shape
  have bA := (Below.refl w.heap.size w).alloc (Nat.le_refl _) (.cells #[.int .i64 op, .int .i64 I, .slice p l.length c] 33)
  have gA := heap_alloc_new w (.cells #[.int .i64 op, .int .i64 I, .slice p l.length c] 33)
  have cA0 := (cell_of_row _ _ 0 _ _ _ gA)
  have cA1 := (cell_of_row _ _ 1 _ _ _ gA)
  have cA2 := (cell_of_row _ _ 2 _ _ _ gA)
  have hA := h.later bA
  have hb0 : base ≤ w.heap.size := Nat.le_trans h.b1 (Nat.le_of_lt h.lts.1)
  have bA0 : Below base w (w.alloc (.cells #[.int .i64 op, .int .i64 I, .slice p l.length c] 33)) := bA.mono hb0
  have hbA : base ≤ (w.alloc (.cells #[.int .i64 op, .int .i64 I, .slice p l.length c] 33)).heap.size := Nat.le_trans hb0 bA.size
  have hlt := h.lts
  have hgs : ¬ dS bd bn bm w.heap.size ∧ ¬ xS bx bl bk bw w.heap.size := ⟨by rintro (e | e | e) <;> omega, by rintro (e | e | e | e) <;> omega⟩
  have huA := hu.later bA
  generalize hWA : w.alloc (.cells #[.int .i64 op, .int .i64 I, .slice p l.length c] 33) = WA at *
  have hcl := crash_len h.d.ok l
  have hX := rcrash_any hA.x _ l huA (fun hl a n c e => by have := hub hl a n c e; have q1 := h.b4; have q2 := h.b5; have q3 := h.b6; have q4 := h.b7; rintro (e | e | e | e) <;> omega)
  have hfin : ∀ w1, XDev w1 bx bl bk bw cl ck cw (s.crash l) → Part (xS bx bl bk bw) WA w1 → w1.cell? ⟨w.heap.size, 2, none⟩ = some (.slice p l.length c) ∧ Calls Try.prog 25 #[.pointer (some ⟨bd, 0, none⟩), .slice p l.length c] w1 fun e w' => e = .returned (.int .i64 0) ∧ ∃ bm' t, Two w' base bd bn bm' bx bl bk bw cl ck cw t ∧ t.ch ≤ s.ch + 1 ∧ t.now.length = s.now.length ∧ Below base w w' := by
    intro w1 hx1 p1
    have hd1 := hA.d.xdev hA.x p1
    have b1 := hA.xS hbA p1
    have hu1 : HB w1 (.slice p l.length c) l := huA.awayN p1 (fun hl a n c e => by have := hub hl a n c e; have q1 := h.b4; have q2 := h.b5; have q3 := h.b6; have q4 := h.b7; rintro (e | e | e | e) <;> omega)
    have hb1 : base ≤ w1.heap.size := Nat.le_trans hbA b1.size
    refine ⟨cell_part p1 cA2 hgs.2, (crash_any hd1 _ l hu1 (fun hl a n c e => by have := hub hl a n c e; have := h.b2; omega)).mono ?_⟩
    rintro e w2 ⟨rfl, bm2, hd2, hbm2, p2⟩
    have p2' : Part (dS bd bn bm) w1 w2 := p2.of_eq (fun k e => by rcases e with e | e; exact .inl e; exact .inr (.inl e))
    have hx2 := hx1.dev hd1 p2'
    have b2 : Below base w1 w2 := p2'.below hb1 (by rintro k (rfl | rfl | rfl); exact h.b1; exact h.b2; exact h.b3)
    exact ⟨rfl, bm2, s.crash l, ⟨hd2, hx2, h.b1, h.b2, by omega, h.b4, h.b5, h.b6, h.b7⟩, by show s.ch ≤ _; omega, hcl, (bA0.trans b1).trans b2⟩
  have cI : WA.cell? ⟨w.heap.size, 2, none⟩ = some (.slice p l.length c) := cA2
  clear hA hu huA cA1 cA2 hlt hgs bA bA0 gA h hub hcl
  generalize s.crash l = SC at *
  unfold DoIs
  go_enter Try.func11, Try.ntmps11
  go_wp2_with (first
    | (go_at_call 27; refine hX.mono ?_; rintro e w1 ⟨rfl, hx1, p1⟩; obtain ⟨cJ, hF⟩ := hfin w1 hx1 p1)
    | (go_at_call 25; refine hF.mono ?_; rintro e w2 ⟨rfl, hr⟩))
  go_ret
  exact ⟨by simp, hr⟩

set_option maxRecDepth 10000 in
set_option maxHeartbeats 1600000 in
theorem do_one {w : World} {base bd bn bm bx bl bk bw cl ck cw : Nat} {s : DevS} (h : Two w base bd bn bm bx bl bk bw cl ck cw s) (hc : s.ch + 1 ≤ 1099511627776) (op I : Int) (u : Value) (l : List UInt8) (hu : HB w u l) (hub : l ≠ [] → ∀ a n c, u = .slice (some a) n c → a.block < base) (hM : wrap64 ((IntKind.u64.wrap op).tmod 6) = 1) :
    DoIs w base bd bn bx bl bk bw cl ck cw s op I u := by
  obtain ⟨p, c, rfl⟩ := hu.shape
  have bA := (Below.refl w.heap.size w).alloc (Nat.le_refl _) (.cells #[.int .i64 op, .int .i64 I, .slice p l.length c] 33)
  have gA := heap_alloc_new w (.cells #[.int .i64 op, .int .i64 I, .slice p l.length c] 33)
  have cA0 := (cell_of_row _ _ 0 _ _ _ gA)
  have cA1 := (cell_of_row _ _ 1 _ _ _ gA)
  have cA2 := (cell_of_row _ _ 2 _ _ _ gA)
  have hA := h.later bA
  have hb0 : base ≤ w.heap.size := Nat.le_trans h.b1 (Nat.le_of_lt h.lts.1)
  have bA0 : Below base w (w.alloc (.cells #[.int .i64 op, .int .i64 I, .slice p l.length c] 33)) := bA.mono hb0
  have hbA : base ≤ (w.alloc (.cells #[.int .i64 op, .int .i64 I, .slice p l.length c] 33)).heap.size := Nat.le_trans hb0 bA.size
  have hlt := h.lts
  have hgs : ¬ dS bd bn bm w.heap.size ∧ ¬ xS bx bl bk bw w.heap.size := ⟨by rintro (e | e | e) <;> omega, by rintro (e | e | e | e) <;> omega⟩
  have huA := hu.later bA
  generalize hWA : w.alloc (.cells #[.int .i64 op, .int .i64 I, .slice p l.length c] 33) = WA at *
  obtain ⟨E, t, htok, hch, hln, hP, hQ⟩ := write_both h.d.ok hc I l
  have bD : Below WA.heap.size WA WA.drew := (Below.refl _ _).drew
  have hD := hA.later bD
  have bA1 : Below base w WA.drew := bA0.drew
  have huD := huA.later bD
  have cD1 : WA.drew.cell? ⟨w.heap.size, 1, none⟩ = some (.int .i64 I) := cA1
  have cD2 : WA.drew.cell? ⟨w.heap.size, 2, none⟩ = some (.slice p l.length c) := cA2
  have hW1 := hP _ hD.d huD (fun hl a n c e => by have := hub hl a n c e; have q1 := h.b1; have q2 := h.b2; omega)
  have hfin : ∀ w1, Dev w1 bd bn bm t → Part (dS bd bn bm) WA.drew w1 → (w1.cell? ⟨w.heap.size, 1, none⟩ = some (.int .i64 I) ∧ w1.cell? ⟨w.heap.size, 2, none⟩ = some (.slice p l.length c)) ∧ Calls Try.prog 37 #[.pointer (some ⟨bx, 0, none⟩), .int .i64 I, .slice p l.length c] w1 fun e w2 => e = .returned (.int .i64 E) ∧ (w2.cell? ⟨w.heap.size, 1, none⟩ = some (.int .i64 I) ∧ w2.cell? ⟨w.heap.size, 2, none⟩ = some (.slice p l.length c)) ∧ ∃ bm' t, Two w2 base bd bn bm' bx bl bk bw cl ck cw t ∧ t.ch ≤ s.ch + 1 ∧ t.now.length = s.now.length ∧ Below base w w2 := by
    intro w1 hd1 p1
    have hx1 := hD.x.dev hD.d p1
    have b1 := hD.dS (Nat.le_trans hbA bD.size) p1
    have e1 := cell_part p1 cD1 hgs.1
    have e2 := cell_part p1 cD2 hgs.1
    have hu1 : HB w1 (.slice p l.length c) l := huD.awayN p1 (fun hl a n c e => by have := hub hl a n c e; have q1 := h.b1; have q2 := h.b2; have q3 := h.b3; rintro (e | e | e) <;> omega)
    refine ⟨⟨e1, e2⟩, (hQ _ hx1 hu1 (fun hl a n c e => by have := hub hl a n c e; have q1 := h.b4; omega)).mono ?_⟩
    rintro e w2 ⟨rfl, hx2, p2⟩
    have hd2 := hd1.xdev hx1 p2
    have hb1 : base ≤ w1.heap.size := Nat.le_trans (Nat.le_trans hbA bD.size) b1.size
    have b2 : Below base w1 w2 := p2.below hb1 (by rintro k (rfl | rfl | rfl | rfl); exact h.b4; exact h.b5; exact h.b6; exact h.b7)
    exact ⟨rfl, ⟨cell_part p2 e1 hgs.2, cell_part p2 e2 hgs.2⟩, bm, t, ⟨hd2, hx2, h.b1, h.b2, h.b3, h.b4, h.b5, h.b6, h.b7⟩, hch, hln, (bA1.trans b1).trans b2⟩
  have hS0 : WA.drew.cell? ⟨w.heap.size, 1, none⟩ = some (.int .i64 I) ∧ WA.drew.cell? ⟨w.heap.size, 2, none⟩ = some (.slice p l.length c) := ⟨cD1, cD2⟩
  have cI1 : WA.cell? ⟨w.heap.size, 1, none⟩ = some (.int .i64 I) := cA1
  have cI2 : WA.cell? ⟨w.heap.size, 2, none⟩ = some (.slice p l.length c) := cA2
  clear hA hu huA cA1 cA2 hlt hgs bA bA0 gA h hP hQ hD huD htok hch hln hub
  unfold DoIs
  go_enter Try.func11, Try.ntmps11
  go_wp2
  go_region_held3 (fun W => W.cell? ⟨w.heap.size, 1, none⟩ = some (.int .i64 I) ∧ W.cell? ⟨w.heap.size, 2, none⟩ = some (.slice p l.length c)) (first | with_reducible exact hS0 | with_reducible exact hS1 | with_reducible exact hS2 | fail) (first
    | (go_at_call 23; refine hW1.mono ?_; rintro e w1 ⟨rfl, hd1, p1⟩; obtain ⟨hS1, hG⟩ := hfin w1 hd1 p1)
    | (go_at_call 37; refine hG.mono ?_; rintro e w2 ⟨rfl, hS2, hr⟩))
  clear hW1 hfin hG
  go_wp2
  go_ret
  exact ⟨by simp, hr⟩

set_option maxRecDepth 10000 in
set_option maxHeartbeats 1600000 in
theorem do_zero {w : World} {base bd bn bm bx bl bk bw cl ck cw : Nat} {s : DevS} (h : Two w base bd bn bm bx bl bk bw cl ck cw s) (hc : s.ch + 1 ≤ 1099511627776) (op I : Int) (u : Value) (l : List UInt8) (hu : HB w u l) (hub : l ≠ [] → ∀ a n c, u = .slice (some a) n c → a.block < base) (hM : wrap64 ((IntKind.u64.wrap op).tmod 6) = 0) :
    DoIs w base bd bn bx bl bk bw cl ck cw s op I u := by
  obtain ⟨p, c, rfl⟩ := hu.shape
  have bA := (Below.refl w.heap.size w).alloc (Nat.le_refl _) (.cells #[.int .i64 op, .int .i64 I, .slice p l.length c] 33)
  have gA := heap_alloc_new w (.cells #[.int .i64 op, .int .i64 I, .slice p l.length c] 33)
  have cA0 := (cell_of_row _ _ 0 _ _ _ gA)
  have cA1 := (cell_of_row _ _ 1 _ _ _ gA)
  have cA2 := (cell_of_row _ _ 2 _ _ _ gA)
  have hA := h.later bA
  have hb0 : base ≤ w.heap.size := Nat.le_trans h.b1 (Nat.le_of_lt h.lts.1)
  have bA0 : Below base w (w.alloc (.cells #[.int .i64 op, .int .i64 I, .slice p l.length c] 33)) := bA.mono hb0
  have hbA : base ≤ (w.alloc (.cells #[.int .i64 op, .int .i64 I, .slice p l.length c] 33)).heap.size := Nat.le_trans hb0 bA.size
  have hlt := h.lts
  have hgs : ¬ dS bd bn bm w.heap.size ∧ ¬ xS bx bl bk bw w.heap.size := ⟨by rintro (e | e | e) <;> omega, by rintro (e | e | e | e) <;> omega⟩
  have huA := hu.later bA
  generalize hWA : w.alloc (.cells #[.int .i64 op, .int .i64 I, .slice p l.length c] 33) = WA at *
  obtain ⟨E, t, htok, hch, hln, hP, hQ⟩ := write_both h.d.ok hc I (fullL l)
  have hFull := full_own WA op I _ l huA
  have hfl := fullL_len l
  have hlA : w.heap.size < WA.heap.size := by rw [← hWA]; simp
  have cI0 : WA.cell? ⟨w.heap.size, 0, none⟩ = some (.int .i64 op) := cA0
  have cI1 : WA.cell? ⟨w.heap.size, 1, none⟩ = some (.int .i64 I) := cA1
  have cI2 : WA.cell? ⟨w.heap.size, 2, none⟩ = some (.slice p l.length c) := cA2
  -- behind the first Full: the program's Write
  have hst1 : ∀ w1 gf, w1.ownsRow WA.heap.size 5 1 (.slice (some ⟨gf, 0, none⟩) 64 64) 64 (bcs (fullL l)) → WA.heap.size ≤ gf → Below WA.heap.size WA w1 →
      w1.cell? ⟨w.heap.size, 1, none⟩ = some (.int .i64 I) ∧ Calls Try.prog 23 #[.pointer (some ⟨bd, 0, none⟩), .int .i64 I, .slice (some ⟨gf, 0, none⟩) 64 64] w1 fun e w2 => e = .returned (.int .i64 E) ∧ Dev w2 bd bn bm t ∧ Part (dS bd bn bm) w w2 ∧ (w2.cell? ⟨w.heap.size, 0, none⟩ = some (.int .i64 op) ∧ w2.cell? ⟨w.heap.size, 1, none⟩ = some (.int .i64 I) ∧ w2.cell? ⟨w.heap.size, 2, none⟩ = some (.slice p l.length c)) ∧ ByB w2 gf ∧ gf < w2.heap.size ∧ WA.heap.size ≤ w2.heap.size := by
    intro w1 gf hO hgf b1
    have h1 := hA.later b1
    have hb1 := HB.of_owns hO
    refine ⟨cell_later b1 cI1, (hP _ h1.d hb1 (fun _ a n c e => by cases e; constructor <;> simp only <;> omega)).mono ?_⟩
    rintro e w2 ⟨rfl, hd2, p2⟩
    have pw : Part (dS bd bn bm) w w2 := ((Part.of_below (S := dS bd bn bm) bA).trans (Part.of_below (S := dS bd bn bm) b1) (fun k _ e => e)).trans p2 (fun k _ e => e)
    have hlt1 : gf < w1.heap.size := (hO.lt gf rfl).2
    refine ⟨rfl, hd2, pw, ⟨cell_part p2 (cell_later b1 cI0) hgs.1, cell_part p2 (cell_later b1 cI1) hgs.1, cell_part p2 (cell_later b1 cI2) hgs.1⟩, ?_, Nat.lt_of_lt_of_le hlt1 p2.size, Nat.le_trans b1.size p2.size⟩
    rcases hO.2 with ⟨h0, _⟩ | ⟨g', cap, cur, he, hb, hg, hle, hm, hsz, ht⟩
    · cases h0
    · simp only [Value.slice.injEq, Option.some.injEq, Addr.mk.injEq, and_true, true_and] at he
      obtain ⟨rfl, rfl⟩ := he
      refine ⟨cur, 5, (p2.2 gf hlt1 (by rintro (e | e | e) <;> omega)).trans hg, by omega, fun i hi => ?_⟩
      have e1 : (bcs (fullL l))[i]? = ((fullL l)[i]?).map bc := bcs_get _ _
      obtain ⟨x, hx⟩ : ∃ x, (fullL l)[i]? = some x := ⟨_, List.getElem?_eq_getElem (by rw [hfl]; exact hi)⟩
      rw [hx] at e1
      rw [← ht, List.getElem?_take, if_pos (by omega)] at e1
      exact ⟨_, by simpa [bc] using e1⟩
  -- behind Spoil: the document's Write
  have hst2 : ∀ w2 w4, Dev w2 bd bn bm t → Part (dS bd bn bm) w w2 → Below WA.heap.size w2 w4 → Dev w4 bd bn bm t ∧ XDev w4 bx bl bk bw cl ck cw s ∧ Below base w w4 := by
    intro w2 w4 hd2 pw b24
    have p24 : Part (fun k => WA.heap.size ≤ k) w2 w4 := ⟨b24.mono (Nat.zero_le _), fun k hk hs => b24.block k (by omega)⟩
    have p04 : Part (dS bd bn bm) w w4 := pw.trans p24 (fun k hk e => by omega)
    exact ⟨hd2.part p24 ⟨by omega, by omega, by omega⟩, h.x.dev h.d p04, h.dS hb0 p04⟩
  have hst3 : ∀ w4 w5 g5, Dev w4 bd bn bm t → XDev w4 bx bl bk bw cl ck cw s → Below base w w4 → Below w4.heap.size w4 w5 → w4.heap.size ≤ g5 → HB w5 (.slice (some ⟨g5, 0, none⟩) 64 64) (fullL l) → (fun W : World => (W.cell? ⟨w.heap.size, 0, none⟩ = some (.int .i64 op) ∧ W.cell? ⟨w.heap.size, 1, none⟩ = some (.int .i64 I) ∧ W.cell? ⟨w.heap.size, 2, none⟩ = some (.slice p l.length c))) w5 → Calls Try.prog 37 #[.pointer (some ⟨bx, 0, none⟩), .int .i64 I, .slice (some ⟨g5, 0, none⟩) 64 64] w5 fun e w6 => e = .returned (.int .i64 E) ∧ (fun W : World => (W.cell? ⟨w.heap.size, 0, none⟩ = some (.int .i64 op) ∧ W.cell? ⟨w.heap.size, 1, none⟩ = some (.int .i64 I) ∧ W.cell? ⟨w.heap.size, 2, none⟩ = some (.slice p l.length c))) w6 ∧ ∃ bm' t, Two w6 base bd bn bm' bx bl bk bw cl ck cw t ∧ t.ch ≤ s.ch + 1 ∧ t.now.length = s.now.length ∧ Below base w w6 := by
    intro w4 w5 g5 hd4 hx4 b04 b45 hg5 hb5 hS5
    have hd5 := hd4.later b45
    have hx5 := hx4.later b45
    have hlx := hx4.g.db.lt
    have hs4 : base ≤ w4.heap.size := Nat.le_trans hb0 b04.size
    refine (hQ _ hx5 hb5 (fun _ a n c e => by cases e; show g5 ≠ bx; omega)).mono ?_
    rintro e w6 ⟨rfl, hx6, p6⟩
    have hd6 := hd5.xdev hx5 p6
    have b56 : Below base w5 w6 := p6.below (Nat.le_trans hs4 b45.size) (by rintro k (rfl | rfl | rfl | rfl); exact h.b4; exact h.b5; exact h.b6; exact h.b7)
    exact ⟨rfl, ⟨cell_part p6 hS5.1 hgs.2, cell_part p6 hS5.2.1 hgs.2, cell_part p6 hS5.2.2 hgs.2⟩, bm, t, ⟨hd6, hx6, h.b1, h.b2, h.b3, h.b4, h.b5, h.b6, h.b7⟩, hch, hln, (b04.trans (b45.mono hs4)).trans b56⟩
  clear hA huA cA1 cA2 hlt hgs bA bA0 gA h hP hQ htok hch hln
  unfold DoIs
  go_enter Try.func11, Try.ntmps11
  go_wp2_with (first
    | (go_at_call 22; refine hFull.mono ?_; rintro e w1 ⟨gf, rfl, hO, hgf, b1⟩; obtain ⟨cJ1, hW⟩ := hst1 w1 gf hO hgf b1)
    | (go_at_call 23; refine hW.mono ?_; rintro e w2 ⟨rfl, hd2, pw, hq2, hby, hgl, hsz⟩; have bB := (Below.refl w2.heap.size w2).alloc (Nat.le_refl _) (.cells #[.slice (some ⟨gf, 0, none⟩) 64 64] 31); have hRB : RowsB (w2.alloc (.cells #[.slice (some ⟨gf, 0, none⟩) 64 64] 31)) WA.heap.size w2.heap.size 1 := (by intro j hj; obtain rfl : j = 0 := (by omega); exact ⟨gf, by rw [cell_of_row _ _ 0 _ _ _ (heap_alloc_new w2 _)]; rfl, hgf, by omega, hby.later bB⟩); have hSp := spoil_any WA.heap.size w2.heap.size 1 1 (by omega) hRB)
    | (go_at_call 15; refine hSp.mono ?_; rintro e w4 ⟨rfl, b34⟩; have b24 : Below WA.heap.size w2 w4 := (bB.mono hsz).trans b34; obtain ⟨hd4, hx4, b04⟩ := hst2 w2 w4 hd2 pw b24; obtain ⟨q0, q1, q2⟩ := hq2; have r0 := cell_under b24 hlA q0; have r1 := cell_under b24 hlA q1; have r2 := cell_under b24 hlA q2))
  have hu4 : HB w4 (.slice p l.length c) l := hu.oldN hub b04
  have bD : Below w4.heap.size w4 w4.drew := (Below.refl _ _).drew
  have hF5 := full_any w4.drew op I _ l (hu4.later bD)
  have hS4 : (fun W : World => (W.cell? ⟨w.heap.size, 0, none⟩ = some (.int .i64 op) ∧ W.cell? ⟨w.heap.size, 1, none⟩ = some (.int .i64 I) ∧ W.cell? ⟨w.heap.size, 2, none⟩ = some (.slice p l.length c))) w4.drew := ⟨r0, r1, r2⟩
  have hst4 : ∀ w5 g5, HB w5 (.slice (some ⟨g5, 0, none⟩) 64 64) (fullL l) → w4.drew.heap.size ≤ g5 → Below w4.drew.heap.size w4.drew w5 → (fun W : World => (W.cell? ⟨w.heap.size, 0, none⟩ = some (.int .i64 op) ∧ W.cell? ⟨w.heap.size, 1, none⟩ = some (.int .i64 I) ∧ W.cell? ⟨w.heap.size, 2, none⟩ = some (.slice p l.length c))) w5 ∧ Calls Try.prog 37 #[.pointer (some ⟨bx, 0, none⟩), .int .i64 I, .slice (some ⟨g5, 0, none⟩) 64 64] w5 fun e w6 => e = .returned (.int .i64 E) ∧ (fun W : World => (W.cell? ⟨w.heap.size, 0, none⟩ = some (.int .i64 op) ∧ W.cell? ⟨w.heap.size, 1, none⟩ = some (.int .i64 I) ∧ W.cell? ⟨w.heap.size, 2, none⟩ = some (.slice p l.length c))) w6 ∧ ∃ bm' t, Two w6 base bd bn bm' bx bl bk bw cl ck cw t ∧ t.ch ≤ s.ch + 1 ∧ t.now.length = s.now.length ∧ Below base w w6 := by
    intro w5 g5 hb5 hg5 b5
    have hS5 : (fun W : World => (W.cell? ⟨w.heap.size, 0, none⟩ = some (.int .i64 op) ∧ W.cell? ⟨w.heap.size, 1, none⟩ = some (.int .i64 I) ∧ W.cell? ⟨w.heap.size, 2, none⟩ = some (.slice p l.length c))) w5 := ⟨cell_later b5 hS4.1, cell_later b5 hS4.2.1, cell_later b5 hS4.2.2⟩
    exact ⟨hS5, hst3 w4 w5 g5 hd4 hx4 b04 (bD.trans b5) hg5 hb5 hS5⟩
  clear hst1 hst2 hst3 hFull hW hSp hRB bB hd2 pw hby b34 b24 hd4 hx4 b04 hu4 hu hub hO b1
  go_region_held3 (fun W => (W.cell? ⟨w.heap.size, 0, none⟩ = some (.int .i64 op) ∧ W.cell? ⟨w.heap.size, 1, none⟩ = some (.int .i64 I) ∧ W.cell? ⟨w.heap.size, 2, none⟩ = some (.slice p l.length c))) (first | with_reducible exact hS4 | with_reducible exact hS5 | with_reducible exact hS6 | fail) (first
    | (go_at_call 22; refine hF5.mono ?_; rintro e w5 ⟨g5, rfl, hb5, hg5, b5⟩; obtain ⟨hS5, hG⟩ := hst4 w5 g5 hb5 hg5 b5)
    | (go_at_call 37; refine hG.mono ?_; rintro e w6 ⟨rfl, hS6, hr⟩))
  clear hF5 hst4 hG
  go_wp2
  go_ret
  exact ⟨by simp, hr⟩

theorem mod6 (op : Int) : ∃ m : Int, wrap64 ((IntKind.u64.wrap op).tmod 6) = m ∧ 0 ≤ m ∧ m < 6 := by
  have e : IntKind.u64.wrap op = op % 18446744073709551616 := by simp [IntKind.wrap, IntKind.signed, IntKind.bits]
  have h0 : 0 ≤ op % 18446744073709551616 := Int.emod_nonneg _ (by decide)
  have h1 : (op % 18446744073709551616).tmod 6 = (op % 18446744073709551616) % 6 := Int.tmod_eq_emod_of_nonneg h0
  refine ⟨_, rfl, ?_⟩
  rw [e, h1]
  unfold wrap64
  omega

/-- Whatever the step is, both go alike. -/
theorem do_any {w : World} {base bd bn bm bx bl bk bw cl ck cw : Nat} {s : DevS} (h : Two w base bd bn bm bx bl bk bw cl ck cw s) (hc : s.ch + 1 ≤ 1099511627776) (op I : Int) (hI2 : I ≤ 9223372036854775807) (u : Value) (l : List UInt8) (hu : HB w u l) (hub : l ≠ [] → ∀ a n c, u = .slice (some a) n c → a.block < base) :
    DoIs w base bd bn bx bl bk bw cl ck cw s op I u := by
  obtain ⟨m, hm, h0, h6⟩ := mod6 op
  have hcase : m = 0 ∨ m = 1 ∨ m = 2 ∨ m = 3 ∨ m = 4 ∨ m = 5 := by omega
  rcases hcase with rfl | rfl | rfl | rfl | rfl | rfl
  · exact do_zero h hc op I u l hu hub hm
  · exact do_one h hc op I u l hu hub hm
  · exact do_sync h hc op I u l hu hm
  · exact do_fuse h op I u l hu hI2 hm
  · exact do_crash4 h op I u l hu hub hm
  · exact do_crash5 h op I u l hu hub hm

end Go.Proofs.Ytmikhebbcmniaaa
