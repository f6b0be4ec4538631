/- What this text proves: the walk of annalslaw07.DeviceStays over this program: it answers true. -/
import Derived.Test.YtmikhebbcmniaaaDStep
import Derived.Test.YtmikhebbcmniaaaDCrash
import Derived.Test.YtmikhebbcmniaaaDWriteN
import Derived.Test.YtmikhebbcmniaaaEqual
namespace Go.Proofs.Ytmikhebbcmniaaa
open Go.RowKit Go.Maps

/-- Bytes that lie in no block of a device stay where the device is changed. -/
theorem HB.part {w w' : World} {v : Value} {l : List UInt8} {bd bn bm : Nat} {s : DevS} (h : HB w v l) (hd : Dev w bd bn bm s) (hp : Part (fun k => k = bd ∨ k = bn ∨ k = bm) w w') (hv : ∀ a n c, v = .slice (some a) n c → a.block ≠ bd ∧ a.block ≠ bn) : HB w' v l := by
  obtain ⟨p, cap, e, h1, h2, h3, h4⟩ := h
  refine ⟨p, cap, e, h1, h2, h3, fun hne => ?_⟩
  obtain ⟨b, o, e1, e2⟩ := h4 hne
  refine ⟨b, o, e1, fun i x hx => ?_⟩
  have hc := e2 i x hx
  have hb := hv ⟨b, o, none⟩ l.length cap (by rw [e, e1])
  have hbm : b ≠ bm := by
    rintro rfl
    obtain ⟨D, ⟨es, clock, hh, _⟩, _⟩ := hd.dm
    simp [World.cell?, hh] at hc
  rw [World.cell?_of_block (w := w) (hp.2 b (World.block_lt_of_cell? w _ hc) (by rintro (h | h | h); exact hb.1 h; exact hb.2 h; exact hbm h))]
  exact hc

theorem HB.blk {w : World} {v : Value} {l : List UInt8} (h : HB w v l) (hl : l ≠ []) : ∀ a n c, v = .slice (some a) n c → a.block < w.heap.size := by
  rintro a n c rfl
  obtain ⟨p, cap, e, h1, h2, h3, h4⟩ := h
  obtain ⟨b, o, e1, e2⟩ := h4 hl
  simp only [Value.slice.injEq] at e
  rw [e1] at e
  simp only [Option.some.injEq] at e
  rw [e.1]
  have hx : l[0]? = some (l[0]'(List.length_pos_iff.2 hl)) := List.getElem?_eq_getElem _
  exact World.block_lt_of_cell? w _ (e2 0 _ hx)

theorem cell_part {S : Nat → Prop} {w w' : World} {b o : Nat} {v : Value} (hp : Part S w w') (h : w.cell? ⟨b, o, none⟩ = some v) (hS : ¬ S b) : w'.cell? ⟨b, o, none⟩ = some v := by
  rw [World.cell?_of_block (w := w) (hp.2 b (World.block_lt_of_cell? w _ h) hS)]
  exact h

theorem crashTo_other (old : Nat → Option (List UInt8)) (keep : List UInt8) (i : Nat) : ∀ (ws : List Nat) (k : Nat) (now : List (List UInt8)), i ∉ ws → (crashTo old keep now ws k)[i]? = now[i]?
  | [], _, _, _ => rfl
  | j :: ws, k, now, h => by
    rw [crashTo, crashTo_other old keep i ws (k + 1) _ (fun e => h (List.mem_cons_of_mem _ e))]
    split
    · rfl
    · exact List.getElem?_set_ne (fun e => h (by rw [e]; exact List.mem_cons_self))

/-- What the statement keeps of the device. -/
structure Stay (st : DevS) (f : List UInt8) : Prop where
  three : st.now[3]? = some f
  old : st.old 3 = none
  len : st.now.length = 6
  fuse : st.fuse = -1
  dead : st.dead = false

theorem Stay.stops {st : DevS} {f : List UInt8} (h : Stay st f) : st.stops = false := by simp [DevS.stops, h.dead, h.fuse]
theorem counted_fuse {st : DevS} (h : st.stops = false) (hf : st.fuse = -1) : st.counted.fuse = -1 := by simp [DevS.counted, h, hf]
theorem counted_dead {st : DevS} (h : st.stops = false) (hf : st.dead = false) : st.counted.dead = false := by simp [DevS.counted, h, hf]
theorem write_eq {s : DevS} (hs : s.stops = false) (i : Nat) (l : List UInt8) : s.write i l = { s.counted with old := oldW s i, now := s.now.set i l } := by
  unfold DevS.write
  rw [hs]
  rfl
theorem sync_eq {s : DevS} (hs : s.stops = false) : s.sync = { s.counted with old := fun _ => none } := by
  unfold DevS.sync
  rw [hs]
  rfl
theorem write_now {s : DevS} (hs : s.stops = false) (i : Nat) (l : List UInt8) : (s.write i l).now = s.now.set i l := by rw [write_eq hs]
theorem write_fuse {s : DevS} (hs : s.stops = false) (hf : s.fuse = -1) (i : Nat) (l : List UInt8) : (s.write i l).fuse = -1 := by rw [write_eq hs]; exact counted_fuse hs hf
theorem write_dead {s : DevS} (hs : s.stops = false) (hf : s.dead = false) (i : Nat) (l : List UInt8) : (s.write i l).dead = false := by rw [write_eq hs]; exact counted_dead hs hf
theorem Stay.write {st : DevS} {f l : List UInt8} {i : Nat} (h : Stay st f) (hi : i ≠ 3) : Stay (st.write i l) f := by
  have hs := h.stops
  refine ⟨?_, ?_, ?_, write_fuse hs h.fuse i l, write_dead hs h.dead i l⟩
  · rw [write_now hs, List.getElem?_set_ne hi]; exact h.three
  · rw [write_old st i l hs]; unfold oldW; rw [if_neg (by omega)]; exact h.old
  · rw [write_now hs, List.length_set]; exact h.len
theorem new_stops (n : Nat) : (DevS.new n).stops = false := rfl
theorem new_len (n : Nat) : (DevS.new n).now.length = n := by simp only [DevS.new, DevS.made, List.length_replicate]
theorem stay_first (f : List UInt8) : Stay (((DevS.new 6).write 3 f).sync) f := by
  have hs := new_stops 6
  have hf := write_fuse hs rfl 3 f
  have hd := write_dead hs rfl 3 f
  have hs2 : ((DevS.new 6).write 3 f).stops = false := by simp only [DevS.stops, hf, hd]; rfl
  rw [sync_eq hs2]
  refine ⟨?_, rfl, ?_, counted_fuse hs2 hf, counted_dead hs2 hd⟩
  · simp only [counted_now]; rw [write_now hs, List.getElem?_set_self (by rw [new_len]; omega)]
  · simp only [counted_now]; rw [write_now hs, List.length_set, new_len]
theorem Stay.crash {st : DevS} {f : List UInt8} (h : Stay st f) (keep : List UInt8) : (st.crash keep).now[3]? = some f := by
  simp only [DevS.crash]
  rw [crashTo_other st.old keep 3 st.waits 0 st.now (fun e => by have := waits_some st 3 e; rw [h.old] at this; cases this)]
  exact h.three

theorem write_ch (s : DevS) (i : Nat) (l : List UInt8) : (s.write i l).ch ≤ s.ch + 1 := by
  unfold DevS.write
  split
  · exact counted_ch s
  · exact counted_ch s
theorem sync_ch (s : DevS) : s.sync.ch ≤ s.ch + 1 := by
  unfold DevS.sync
  split
  · exact counted_ch s
  · exact counted_ch s

set_option maxRecDepth 100000 in
set_option maxHeartbeats 1600000 in
theorem staysWalk (v0 v1 v2 : Value) (l0 l2 : List UInt8) (ss : List (Int × Int × List UInt8)) (w : World) (h0 : HB w v0 l0) (h1 : SA w v1 ss) (h2 : HB w v2 l2) :
    Calls Try.prog 5 #[v0, v1, v2] w fun e w' => e = .returned (.bool true) ∧ Below w.heap.size w w' := by
  obtain ⟨p0, c0, rfl⟩ := h0.shape
  obtain ⟨p1, c1, rfl⟩ := h1.shape
  obtain ⟨p2, c2, rfl⟩ := h2.shape
  have hsl := h1.len_le
  unfold maxLen at hsl
  have hN := new_any 6 w (by omega) (by omega)
  have hst := stay_first (fullL l0)
  have hfl := fullL_len l0
  have hch0 : (DevS.new 6).ch = 0 := rfl
  have hs0 := new_stops 6
  have he0 : (DevS.new 6).err = 0 := by simp [DevS.err, hs0]
  have hch1 := write_ch (DevS.new 6) 3 (fullL l0)
  have hch2 := sync_ch ((DevS.new 6).write 3 (fullL l0))
  have hs1 : ((DevS.new 6).write 3 (fullL l0)).stops = false := by
    simp only [DevS.stops, write_fuse hs0 rfl 3 (fullL l0), write_dead hs0 rfl 3 (fullL l0)]; rfl
  have he1 : ((DevS.new 6).write 3 (fullL l0)).err = 0 := by simp [DevS.err, hs1]
  have hn6 := new_len 6
  generalize DevS.new 6 = S0 at *
  generalize hS1 : S0.write 3 (fullL l0) = S1 at *
  generalize hS2 : S1.sync = S2 at *
  go_enter Try.func5, Try.ntmps5
  go_wp2_with (first
    | (go_at_call 8; refine hN.mono ?_; rintro e w1 ⟨bd, bn, bm, rfl, hd1, hbd, hbn, hbm, hb1⟩; have hF := full_any w1 0 0 _ l0 (h0.later hb1))
    | (go_at_call 22; refine hF.mono ?_; rintro e w2 ⟨gf, rfl, hf2, hgf, hb2⟩; have hd2 := hd1.later hb2; have hfar : ∀ a n c, (Value.slice (some ⟨gf, 0, none⟩) 64 64) = .slice (some a) n c → a.block ≠ bd ∧ a.block ≠ bn := (by rintro a n c e; cases e; have e1 := hd1.db.lt; have e2 := hd1.sr.lt; constructor <;> simp only <;> omega); have hW := write_any hd2 3 _ _ hf2 (by omega) hfl (by omega) hfar; rw [he0, hS1] at hW)
    | (go_at_call 23; refine hW.mono ?_; rintro e w3 ⟨rfl, hd3, hp3⟩; have hf3 := hf2.part hd2 hp3 hfar; have hY := sync_any hd3 (by omega); rw [he1, hS2] at hY)
    | (go_at_call 24; refine hY.mono ?_; rintro e w4 ⟨rfl, bm4, hd4, hbm4, hp4⟩))
  have hbe4 : Below w.heap.size w w4 := ((hb1.trans (hb2.mono hb1.size)).trans (hp3.below (Nat.le_trans hb1.size hb2.size) (by rintro k (rfl | rfl | rfl) <;> assumption))).trans (hp4.below (Nat.le_trans (Nat.le_trans hb1.size hb2.size) hp3.size) (by rintro k rfl; assumption))
  have hf4 : HB w4 (.slice (some ⟨gf, 0, none⟩) 64 64) (fullL l0) := hf3.part hd3 (hp4.mono (fun k _ e => .inl e)) hfar
  have hbm4' : w.heap.size ≤ bm4 := by
    rcases hbm4 with rfl | h
    · exact hbm
    · exact Nat.le_trans (Nat.le_trans (Nat.le_trans hb1.size hb2.size) hp3.size) h
  have hch4 : S2.ch ≤ 2 := by omega
  clear hN hF hW hY hd1 hd2 hd3 hf2 hf3 hb1 hb2 hp3 hp4 hbm4 hbm hch0 hch1 hch2 hs0 hs1 he0 he1 hn6 hS1 hS2 hgf
  generalize hFF : fullL l0 = FF at *
  go_loopw [35] (fun i wr => ∃ (k bm : Nat) (st : DevS), k ≤ ss.length ∧ i = .int .i64 k ∧ Dev wr bd bn bm st ∧ w.heap.size ≤ bm ∧ Stay st FF ∧ st.ch ≤ 2 + k ∧ st.ch ≤ 22 ∧ HB wr (.slice (some ⟨gf, 0, none⟩) 64 64) FF ∧ Below w.heap.size w wr) (fun i _ => ss.length - (intOf i).toNat)
  case atStart => exact ⟨0, bm4, S2, Nat.zero_le _, rfl, hd4, hbm4', hst, hch4, by omega, hf4, hbe4⟩
  case round =>
    obtain ⟨k, bm, st, hk, rfl, hd, hbm, hsy, hc1, hc2, hf, hbe⟩ := hrel
    clear hd4 hst hf4 hbe4 hbm4' hch4
    by_cases hlt : k < ss.length
    · obtain ⟨x, hx⟩ : ∃ x, ss[k]? = some x := ⟨_, List.getElem?_eq_getElem hlt⟩
      obtain ⟨b, o, rfl, hcs⟩ := (h1.later hbe).addr (by omega)
      obtain ⟨q1, q2, q3, q4, u, q5, q6⟩ := hcs k x hx
      obtain ⟨op, I, lb⟩ := x
      simp only at q1 q2 q3 q4 q6
      obtain ⟨pu, cu, rfl⟩ := q6.shape
      clear hcs
      have hlt2 : (k : Int) < (ss.length : Int) := by omega
      by_cases hgo : k < 20 ∧ I ≠ 3
      · have hk20 : (k : Int) < 20 := by omega
        have hI3 : ¬ I = 3 := hgo.2
        have hnx : ∀ (W : World) (g : Nat) , wr.heap.size ≤ g → Below wr.heap.size wr W → HB W (.slice (some ⟨g, 0, none⟩) 64 64) (fullL lb) → Calls Try.prog 23 #[.pointer (some ⟨bd, 0, none⟩), .int .i64 I, .slice (some ⟨g, 0, none⟩) 64 64] W fun e w' => (∃ n, e = .returned (.int .i64 n)) ∧ ∃ st', Dev w' bd bn bm st' ∧ Stay st' FF ∧ st'.ch ≤ st.ch + 1 ∧ HB w' (.slice (some ⟨gf, 0, none⟩) 64 64) FF ∧ Below w.heap.size w w' ∧ Part (fun k => k = bd ∨ k = bn ∨ k = bm) W w' := by
          intro W g hg hbW hb
          have hdW := hd.later hbW
          have hfW := hf.later hbW
          have hbe' := hbe.trans (hbW.mono hbe.size)
          by_cases hin : 0 ≤ I ∧ I < 6
          · obtain ⟨i, rfl⟩ : ∃ i : Nat, I = (i : Int) := ⟨I.toNat, by omega⟩
            have e1 := hd.db.lt
            have e2 := hd.sr.lt
            have hl6 := hsy.len
            refine (write_any hdW i _ _ hb (by omega) (fullL_len lb) (by omega) (by rintro a n c e; cases e; constructor <;> simp only <;> omega)).mono ?_
            rintro e w' ⟨rfl, hd', hp'⟩
            have hsz := hbe'.size
            exact ⟨⟨_, rfl⟩, _, hd', hsy.write (by omega), write_ch st i _, hfW.part hdW hp' hfar, hbe'.trans (hp'.below hsz (by rintro k (rfl | rfl | rfl) <;> assumption)), hp'⟩
          · refine (write_arg hdW I _ _ hb (.inl (by rw [hsy.len]; exact hin))).mono ?_
            rintro e w' ⟨rfl, rfl⟩
            exact ⟨⟨_, rfl⟩, st, hdW, hsy, by omega, hfW, hbe', Part.refl _ _⟩
        have hbA : Below wr.heap.size wr (wr.alloc (.cells #[.int .i64 op, .int .i64 I, .slice pu lb.length cu] 33)) := (Below.refl _ _).alloc (Nat.le_refl _) _
        have a0 : (wr.alloc (.cells #[.int .i64 op, .int .i64 I, .slice pu lb.length cu] 33)).cell? ⟨wr.heap.size, 0, none⟩ = some (.int .i64 op) := by rw [cell_of_row _ _ 0 _ _ _ (heap_alloc_new wr _)]; rfl
        have a1 : (wr.alloc (.cells #[.int .i64 op, .int .i64 I, .slice pu lb.length cu] 33)).cell? ⟨wr.heap.size, 1, none⟩ = some (.int .i64 I) := by rw [cell_of_row _ _ 1 _ _ _ (heap_alloc_new wr _)]; rfl
        have a2 : (wr.alloc (.cells #[.int .i64 op, .int .i64 I, .slice pu lb.length cu] 33)).cell? ⟨wr.heap.size, 2, none⟩ = some (.slice pu lb.length cu) := by rw [cell_of_row _ _ 2 _ _ _ (heap_alloc_new wr _)]; rfl
        have hsA : wr.heap.size < (wr.alloc (.cells #[.int .i64 op, .int .i64 I, .slice pu lb.length cu] 33)).heap.size := by simp
        have q6A := q6.later hbA
        have hnS : ¬ (wr.heap.size = bd ∨ wr.heap.size = bn ∨ wr.heap.size = bm) := by
          have e1 := hd.db.lt
          have e2 := hd.sr.lt
          have e3 := hd.dm.lt
          omega
        go_wp2
        clear hd hsy hf q1 q2 q5 q6 h0 h1 hk
        generalize wr.alloc (.cells #[.int .i64 op, .int .i64 I, .slice pu lb.length cu] 33) = W at *
        go_region_held3 (fun w' => w'.cell? ⟨wr.heap.size, 0, none⟩ = some (.int .i64 op) ∧ w'.cell? ⟨wr.heap.size, 1, none⟩ = some (.int .i64 I) ∧ w'.cell? ⟨wr.heap.size, 2, none⟩ = some (.slice pu lb.length cu)) (first | exact ⟨a0, a1, a2⟩ | exact ⟨b0, b1, b2⟩ | exact ⟨d0, d1, d2⟩) (first
          | (go_at_call 22; refine (full_any _ op I _ lb (q6A.later (by repeat (first | exact Below.refl _ _ | refine Below.drew ?_)))).mono ?_; rintro e w5 ⟨g, rfl, hg5, hge5, hb5⟩; have b0 : w5.cell? ⟨wr.heap.size, 0, none⟩ = some (.int .i64 op) := cell_later hb5 (by simpa using a0); have b1 : w5.cell? ⟨wr.heap.size, 1, none⟩ = some (.int .i64 I) := cell_later hb5 (by simpa using a1); have b2 : w5.cell? ⟨wr.heap.size, 2, none⟩ = some (.slice pu lb.length cu) := cell_later hb5 (by simpa using a2); have hb5' : Below wr.heap.size wr w5 := hbA.drew.trans (hb5.mono (by simp; omega)); have hge5' : wr.heap.size ≤ g := (by simp at hge5; omega))
          | (go_at_call 23; refine (hnx _ g hge5' (hb5'.trans (by repeat (first | exact Below.refl _ _ | refine Below.drew ?_))) (hg5.later (by repeat (first | exact Below.refl _ _ | refine Below.drew ?_)))).mono ?_; rintro e w6 ⟨⟨n6, rfl⟩, st', hd', hsy', hch', hf', hbe', hp'⟩; have d0 : w6.cell? ⟨wr.heap.size, 0, none⟩ = some (.int .i64 op) := cell_part hp' (by simpa using b0) hnS; have d1 : w6.cell? ⟨wr.heap.size, 1, none⟩ = some (.int .i64 I) := cell_part hp' (by simpa using b1) hnS; have d2 : w6.cell? ⟨wr.heap.size, 2, none⟩ = some (.slice pu lb.length cu) := cell_part hp' (by simpa using b2) hnS))
        go_wp2
        go_roundw
        case rel => first | exact ⟨k + 1, bm, st', by omega, by go_num, hd', hbm, hsy', by omega, by omega, hf', hbe'⟩ | ((repeat apply Exists.intro); exact ⟨⟨k + 1, bm, st', by omega, by go_num, hd', hbm, hsy', by omega, by omega, hf', hbe'⟩, rfl⟩)
        case measure => simp [intOf]; omega
      · have hfin : ∀ W, Below wr.heap.size wr W → Dev W bd bn bm st ∧ HB W (.slice (some ⟨gf, 0, none⟩) 64 64) FF ∧ Below w.heap.size w W := fun W hb => ⟨hd.later hb, hf.later hb, hbe.trans (hb.mono hbe.size)⟩
        obtain ⟨r1, r2, r3⟩ := hfin (wr.alloc (.cells #[.int .i64 op, .int .i64 I, .slice pu lb.length cu] 33)) ((Below.refl _ _).alloc (Nat.le_refl _) _)
        clear hfin hd hf q6 h0 h1
        by_cases hk20 : k < 20
        · have hI3 : I = 3 := by
            by_cases h : I = 3
            · exact h
            · exact absurd ⟨hk20, h⟩ hgo
          subst hI3
          have hk20' : (k : Int) < 20 := by omega
          clear hgo
          go_wp2
          go_roundw
          case rel => first | exact ⟨k + 1, bm, st, by omega, by go_num, r1, hbm, hsy, by omega, by omega, r2, r3⟩ | ((repeat apply Exists.intro); exact ⟨⟨k + 1, bm, st, by omega, by go_num, r1, hbm, hsy, by omega, by omega, r2, r3⟩, rfl⟩)
          case measure => simp [intOf]; omega
        · have hk20' : ¬ (k : Int) < 20 := by omega
          clear hgo
          go_wp2
          go_roundw
          case rel => first | exact ⟨k + 1, bm, st, by omega, by go_num, r1, hbm, hsy, by omega, by omega, r2, r3⟩ | ((repeat apply Exists.intro); exact ⟨⟨k + 1, bm, st, by omega, by go_num, r1, hbm, hsy, by omega, by omega, r2, r3⟩, rfl⟩)
          case measure => simp [intOf]; omega
    · have hC := crash_any hd _ _ (h2.later hbe) (by
        intro hne a n c e
        have := h2.blk hne a n c e
        omega)
      have hc3 := hsy.crash l2
      have hcd : (st.crash l2).dead = false := rfl
      generalize st.crash l2 = sc at *
      have hRd : ∀ w5 bm5, Dev w5 bd bn bm5 sc → _ := fun w5 bm5 (h : Dev w5 bd bn bm5 sc) => read_any h 3 FF hc3 hcd
      clear h0 h1
      go_wp2_with (first
        | (go_at_call 25; refine hC.mono ?_; rintro e w5 ⟨rfl, bm5, hd5, hbm5, hp5⟩; have hR5 := hRd w5 bm5 hd5; have hf5 := hf.part hd (hp5.mono (fun k _ e => e.elim .inl (fun h => .inr (.inl h)))) hfar; have hbe5 : Below w.heap.size w w5 := hbe.trans (hp5.below hbe.size (by rintro k (rfl | rfl) <;> assumption)))
        | (go_at_call 17; refine hR5.mono ?_; rintro e w6 ⟨rfl, rfl⟩; have hb6 : Below w5.heap.size w5 (w5.alloc (.cells (bcs FF).toArray 76)) := (Below.refl _ _).alloc (Nat.le_refl _) _; have hx6 : HB (w5.alloc (.cells (bcs FF).toArray 76)) (.slice (some ⟨w5.heap.size, 0, none⟩) 64 64) FF := (by have := HB.block (t := 76) (l := FF) (heap_alloc_new w5 (.cells (bcs FF).toArray 76)) (by rw [hfl]; unfold maxLen; omega); rw [hfl] at this; exact this); have hE := equal_t _ _ _ _ _ hx6 (hf5.later hb6) rfl)
        | (go_at_call 21; refine hE.mono ?_; rintro e w7 ⟨rfl, rfl⟩))
      go_ret
      exact ⟨rfl, hbe5.trans (hb6.mono hbe5.size)⟩

end Go.Proofs.Ytmikhebbcmniaaa
