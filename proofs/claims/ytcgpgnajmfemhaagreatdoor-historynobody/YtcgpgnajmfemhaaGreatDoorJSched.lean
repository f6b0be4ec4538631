/- What this text proves: the walk of sha.schedule over this program: the 64 words of a block. -/
import Derived.Test.YtcgpgnajmfemhaaGreatDoorJSha
namespace Go.Proofs.YtcgpgnajmfemhaaGreatDoor
open Go.RowKit

theorem byte_or (x0 x1 x2 x3 : UInt8) :
    bits .or .u32 (bits .or .u32 (bits .or .u32 ((x0.toNat : Int) * 16777216) ((x1.toNat : Int) * 65536)) ((x2.toNat : Int) * 256)) (x3.toNat : Int) = ((UInt32.ofNat (x0.toNat * 16777216 + x1.toNat * 65536 + x2.toNat * 256 + x3.toNat)).toNat : Int) := by
  have h0 := x0.toNat_lt
  have h1 := x1.toNat_lt
  have h2 := x2.toNat_lt
  have h3 := x3.toNat_lt
  have e0 : (x0.toNat : Int) * 16777216 = ((x0.toNat * 16777216 : Nat) : Int) := by simp
  have e1 : (x1.toNat : Int) * 65536 = ((x1.toNat * 65536 : Nat) : Int) := by simp
  have e2 : (x2.toNat : Int) * 256 = ((x2.toNat * 256 : Nat) : Int) := by simp
  have add_or : ∀ (i a b : Nat), b < 2 ^ i → a * 2 ^ i ||| b = a * 2 ^ i + b := fun i a b hb => by
    have := Nat.two_pow_add_eq_or_of_lt (i := i) hb a
    rw [Nat.mul_comm a]
    exact this.symm
  have f1 : x0.toNat * 16777216 ||| x1.toNat * 65536 = x0.toNat * 16777216 + x1.toNat * 65536 := add_or 24 x0.toNat _ (by omega)
  have f2 : (x0.toNat * 16777216 + x1.toNat * 65536) ||| x2.toNat * 256 = x0.toNat * 16777216 + x1.toNat * 65536 + x2.toNat * 256 := by
    have := add_or 16 (x0.toNat * 256 + x1.toNat) (x2.toNat * 256) (by omega)
    rw [show (x0.toNat * 256 + x1.toNat) * 2 ^ 16 = x0.toNat * 16777216 + x1.toNat * 65536 by omega] at this
    exact this
  have f3 : (x0.toNat * 16777216 + x1.toNat * 65536 + x2.toNat * 256) ||| x3.toNat = x0.toNat * 16777216 + x1.toNat * 65536 + x2.toNat * 256 + x3.toNat := by
    have := add_or 8 (x0.toNat * 65536 + x1.toNat * 256 + x2.toNat) x3.toNat (by omega)
    rw [show (x0.toNat * 65536 + x1.toNat * 256 + x2.toNat) * 2 ^ 8 = x0.toNat * 16777216 + x1.toNat * 65536 + x2.toNat * 256 by omega] at this
    exact this
  rw [e0, e1, e2, b_or _ _ (by omega) (by omega), f1, b_or _ _ (by omega) (by omega), f2, b_or _ _ (by omega) (by omega), f3, ofNat32 _ (by omega)]

theorem ssig0_eq (x : UInt32) : bits .xor .u32 (bits .xor .u32 ((rotr x 7).toNat : Int) ((rotr x 18).toNat : Int)) ((x.toNat : Int) / 8) = ((ssig0 x).toNat : Int) := by
  have h1 := w32 (rotr x 7)
  have h2 := w32 (rotr x 18)
  have h3 := w32 x
  have e : (x.toNat : Int) / 8 = ((x.toNat / 8 : Nat) : Int) := by simp
  rw [e, b_xor _ _ h1 h2, b_xor _ _ (xor_lt _ _ h1 h2) (by omega)]
  unfold ssig0
  rw [ofNat32 _ (xor_lt _ _ (xor_lt _ _ h1 h2) (by omega))]
theorem ssig1_eq (x : UInt32) : bits .xor .u32 (bits .xor .u32 ((rotr x 17).toNat : Int) ((rotr x 19).toNat : Int)) ((x.toNat : Int) / 1024) = ((ssig1 x).toNat : Int) := by
  have h1 := w32 (rotr x 17)
  have h2 := w32 (rotr x 19)
  have h3 := w32 x
  have e : (x.toNat : Int) / 1024 = ((x.toNat / 1024 : Nat) : Int) := by simp
  rw [e, b_xor _ _ h1 h2, b_xor _ _ (xor_lt _ _ h1 h2) (by omega)]
  unfold ssig1
  rw [ofNat32 _ (xor_lt _ _ (xor_lt _ _ h1 h2) (by omega))]

/-- The schedule's array behind k words. -/
def schedL (l : List UInt8) (k : Nat) : List UInt32 := Wl l k ++ List.replicate (64 - k) 0
theorem schedL_length (l : List UInt8) (k : Nat) (hk : k ≤ 64) : (schedL l k).length = 64 := by simp [schedL, Wl_length]; omega
theorem schedL_get (l : List UInt8) (k j : Nat) (hj : j < k) : (schedL l k)[j]? = some ((Wl l k).getD j 0) := by
  have : j < (Wl l k).length := by rw [Wl_length]; exact hj
  rw [schedL, List.getElem?_append_left this]
  simp [List.getD, this]
theorem schedL_some (l : List UInt8) (k j : Nat) (hk : k ≤ 64) (hj : j < 64) : ∃ x, (schedL l k)[j]? = some x := by
  have : j < (schedL l k).length := by rw [schedL_length l k hk]; exact hj
  exact ⟨_, List.getElem?_eq_getElem this⟩
theorem schedL_set (l : List UInt8) (k : Nat) (hk : k < 64) : (schedL l k).set k (nextW l (Wl l k)) = schedL l (k + 1) := by
  have e : 64 - k = (64 - (k + 1)) + 1 := by omega
  unfold schedL
  rw [List.set_append_right _ _ (by rw [Wl_length]; exact Nat.le_refl _), Wl_length, Nat.sub_self, e, List.replicate_succ, List.set_cons_zero]
  simp [Wl]

theorem nextW_first (l : List UInt8) (k : Nat) (hk : k < 16) : nextW l (Wl l k) = wordAt l k := by
  unfold nextW
  rw [Wl_length, if_pos hk]
theorem nextW_then (l : List UInt8) (k : Nat) (hk : 16 ≤ k) (a b c d : UInt32) (ha : (Wl l k).getD (k - 16) 0 = a) (hb : (Wl l k).getD (k - 15) 0 = b) (hc : (Wl l k).getD (k - 7) 0 = c) (hd : (Wl l k).getD (k - 2) 0 = d) :
    ((a.toNat : Int) + ((ssig0 b).toNat : Int) + (c.toNat : Int) + ((ssig1 d).toNat : Int)) % 4294967296 = ((nextW l (Wl l k)).toNat : Int) := by
  unfold nextW
  rw [Wl_length, if_neg (by omega), ha, hb, hc, hd, ofNat32m]
  omega

theorem HB.get {w : World} {b o n c : Nat} {l : List UInt8} (h : HB w (.slice (some ⟨b, o, none⟩) n c) l) (i : Nat) (hi : i < n) : w.cell? ⟨b, o + i, none⟩ = some (.int .u8 ((l.getD i 0).toNat : Int)) := by
  have hl := h.len.1
  obtain ⟨b', o', e, hc⟩ := h.addr (by omega)
  simp only [Option.some.injEq, Addr.mk.injEq, and_true] at e
  obtain ⟨rfl, rfl⟩ := e
  have hi' : i < l.length := by omega
  have := hc i l[i] (List.getElem?_eq_getElem hi')
  rw [this]
  simp [bc, List.getD, hi']

theorem i64w : (Tryz.prog.info? 248).map (·.size) = some 64 := by kernel_rfl

set_option maxRecDepth 100000 in
set_option maxHeartbeats 2000000 in
theorem sched_any (v : Value) (l : List UInt8) (w : World) (h : HB w v l) (hl : l.length = 64) :
    Calls Tryz.prog 195 #[v] w fun e w' => e = .returned (.agg (wcs (Wl l 64)).toArray) ∧ Below w.heap.size w w' := by
  obtain ⟨p, c, rfl⟩ := h.shape
  obtain ⟨b, o, rfl⟩ : ∃ b o, p = some ⟨b, o, none⟩ := by
    obtain ⟨b, o, e, _⟩ := h.addr (by omega)
    exact ⟨b, o, e⟩
  rw [hl] at h ⊢
  clear hl
  have z0 : AR (w.alloc (.cells (wcs (List.replicate 64 0)).toArray 248)) w.heap.size 248 (List.replicate 64 0) := AR.new w _ _ _ rfl
  have z1 : AR ((w.alloc (.cells (wcs (List.replicate 64 0)).toArray 248)).alloc (.cells (wcs (List.replicate 64 0)).toArray 248)) (w.heap.size + 1) 248 (schedL l 0) := by
    have := AR.new (w.alloc (.cells (wcs (List.replicate 64 0)).toArray 248)) 248 (List.replicate 64 0) _ rfl
    rwa [World.size_alloc] at this
  have z2 := z0.alloc (.cells (wcs (List.replicate 64 0)).toArray 248)
  have zb : Below w.heap.size w ((w.alloc (.cells (wcs (List.replicate 64 0)).toArray 248)).alloc (.cells (wcs (List.replicate 64 0)).toArray 248)) := ((Below.refl _ w).alloc (Nat.le_refl _) _).alloc (by simp) _
  have Z : Hid (AR ((w.alloc (.cells (wcs (List.replicate 64 0)).toArray 248)).alloc (.cells (wcs (List.replicate 64 0)).toArray 248)) (w.heap.size + 1) 248 (schedL l 0) ∧ AR ((w.alloc (.cells (wcs (List.replicate 64 0)).toArray 248)).alloc (.cells (wcs (List.replicate 64 0)).toArray 248)) w.heap.size 248 (List.replicate 64 0) ∧ Below w.heap.size w ((w.alloc (.cells (wcs (List.replicate 64 0)).toArray 248)).alloc (.cells (wcs (List.replicate 64 0)).toArray 248))) := ⟨z1, z2, zb⟩
  clear z0 z1 z2 zb
  go_enter Tryz.func195, Tryz.ntmps195
  go_wp2
  go_loopw [10] (fun i wr => ∃ k : Nat, k ≤ 16 ∧ i = .int .i64 k ∧ AR wr (w.heap.size + 1) 248 (schedL l k) ∧ AR wr w.heap.size 248 (List.replicate 64 0) ∧ Below w.heap.size w wr)
    (fun i _ => 16 - (intOf i).toNat)
  case atStart => exact ⟨0, Nat.zero_le _, rfl, Z.out⟩
  case round =>
    obtain ⟨k, hk, rfl, hA, hR, hbe⟩ := hrel
    clear Z
    by_cases hlt : k < 16
    · have hr := h.later hbe
      have q0 := hr.get (4 * k) (by omega)
      have q1 := hr.get (4 * k + 1) (by omega)
      have q2 := hr.get (4 * k + 2) (by omega)
      have q3 := hr.get (4 * k + 3) (by omega)
      have qf := hA.free k
      obtain ⟨y0, hy⟩ := schedL_some l k k (by omega) (by omega)
      have qc := hA.cell k y0 hy
      have HW : nextW l (Wl l k) = wordAt l k := nextW_first l k hlt
      unfold wordAt at HW
      clear hr hy
      generalize l.getD (4 * k) 0 = x0 at *
      generalize l.getD (4 * k + 1) 0 = x1 at *
      generalize l.getD (4 * k + 2) 0 = x2 at *
      generalize l.getD (4 * k + 3) 0 = x3 at *
      have HE : Hid (bits .or .u32 (bits .or .u32 (bits .or .u32 ((x0.toNat : Int) * 16777216) ((x1.toNat : Int) * 65536)) ((x2.toNat : Int) * 256)) (x3.toNat : Int) = ((nextW l (Wl l k)).toNat : Int)) := by
        show _ = _
        rw [HW]
        exact byte_or x0 x1 x2 x3
      have h0 := x0.toNat_lt
      have h1 := x1.toNat_lt
      have h2 := x2.toNat_lt
      have h3 := x3.toNat_lt
      clear HW
      go_wp2
      go_region
      have HS := schedL_set l k (by omega)
      have hA2 : AR (wr.setCell ⟨w.heap.size + 1, k, none⟩ (.int .u32 (bits .or .u32 (bits .or .u32 (bits .or .u32 ((x0.toNat : Int) * 16777216) ((x1.toNat : Int) * 65536)) ((x2.toNat : Int) * 256)) (x3.toNat : Int)))).drew (w.heap.size + 1) 248 (schedL l (k + 1)) := by
        rw [← HS]
        exact hA.put k _ _ (by rw [HE.out]; rfl)
      have hR2 : AR (wr.setCell ⟨w.heap.size + 1, k, none⟩ (.int .u32 (bits .or .u32 (bits .or .u32 (bits .or .u32 ((x0.toNat : Int) * 16777216) ((x1.toNat : Int) * 65536)) ((x2.toNat : Int) * 256)) (x3.toNat : Int)))).drew w.heap.size 248 (List.replicate 64 0) := hR.other _ _ (by simp)
      have hb2 : Below w.heap.size w (wr.setCell ⟨w.heap.size + 1, k, none⟩ (.int .u32 (bits .or .u32 (bits .or .u32 (bits .or .u32 ((x0.toNat : Int) * 16777216) ((x1.toNat : Int) * 65536)) ((x2.toNat : Int) * 256)) (x3.toNat : Int)))).drew := (hbe.setCell (by simp) _).drew
      generalize (wr.setCell ⟨w.heap.size + 1, k, none⟩ (.int .u32 (bits .or .u32 (bits .or .u32 (bits .or .u32 ((x0.toNat : Int) * 16777216) ((x1.toNat : Int) * 65536)) ((x2.toNat : Int) * 256)) (x3.toNat : Int)))).drew = w2 at *
      clear qf qc q0 q1 q2 q3 HS hA hR hbe
      go_wp2
      go_roundw
      case rel => exact ⟨k + 1, by omega, by go_num, hA2, hR2, hb2⟩
      case measure => simp [intOf]; omega
    · have hk16 : k = 16 := by omega
      subst hk16
      clear hlt hk
      go_wp2
      go_loopw [5] (fun i wr => ∃ k : Nat, 16 ≤ k ∧ k ≤ 64 ∧ i = .int .i64 k ∧ AR wr (w.heap.size + 1) 248 (schedL l k) ∧ AR wr w.heap.size 248 (List.replicate 64 0) ∧ Below w.heap.size w wr)
        (fun i _ => 64 - (intOf i).toNat)
      case atStart => exact ⟨16, by omega, by omega, rfl, hA, hR, hbe⟩
      case round =>
        clear hA hR hbe
        obtain ⟨k, hk1, hk, rfl, hA, hR, hbe⟩ := hrel
        by_cases hlt : k < 64
        · have hA16 := hA.cell (k - 16) _ (schedL_get l k (k - 16) (by omega))
          have hA15 := hA.cell (k - 15) _ (schedL_get l k (k - 15) (by omega))
          have hA7 := hA.cell (k - 7) _ (schedL_get l k (k - 7) (by omega))
          have hA2 := hA.cell (k - 2) _ (schedL_get l k (k - 2) (by omega))
          have qf := hA.free k
          obtain ⟨y0, hy⟩ := schedL_some l k k (by omega) (by omega)
          have qc := hA.cell k y0 hy
          clear hy
          obtain ⟨xa, ea⟩ : ∃ x, (Wl l k).getD (k - 16) 0 = x := ⟨_, rfl⟩
          obtain ⟨xb, eb⟩ : ∃ x, (Wl l k).getD (k - 15) 0 = x := ⟨_, rfl⟩
          obtain ⟨xc, ec⟩ : ∃ x, (Wl l k).getD (k - 7) 0 = x := ⟨_, rfl⟩
          obtain ⟨xd, ed⟩ : ∃ x, (Wl l k).getD (k - 2) 0 = x := ⟨_, rfl⟩
          rw [ea] at hA16
          rw [eb] at hA15
          rw [ec] at hA7
          rw [ed] at hA2
          have HN := nextW_then l k hk1 xa xb xc xd ea eb ec ed
          clear ea eb ec ed
          have HE : Hid _ := HN
          clear HN
          have ha := w32 xa
          have hb := w32 xb
          have hcc := w32 xc
          have hd := w32 xd
          go_wp2
          go_quiet (fail)
          have fA : AR (wr.drewN nq) (w.heap.size + 1) 248 (schedL l k) := hA
          have fR : AR (wr.drewN nq) w.heap.size 248 (List.replicate 64 0) := hR
          have fb : Below w.heap.size w (wr.drewN nq) := below_drewN hbe _
          have f16 : (wr.drewN nq).cell? ⟨w.heap.size + 1, k - 16, none⟩ = some (.int .u32 (xa.toNat : Int)) := hA16
          have f7 : (wr.drewN nq).cell? ⟨w.heap.size + 1, k - 7, none⟩ = some (.int .u32 (xc.toNat : Int)) := hA7
          have ff : (wr.drewN nq).frozen? ⟨w.heap.size + 1, k, none⟩ = false := qf
          have fc : (wr.drewN nq).cell? ⟨w.heap.size + 1, k, none⟩ = some (.int .u32 (y0.toNat : Int)) := qc
          clear hA hR hbe hA16 hA15 hA7 hA2 qf qc
          generalize wr.drewN nq = W at *
          go_wp2_with fail
          refine (rot7 xb _).mono ?_
          rintro e w' ⟨rfl, hw⟩
          have hw2 := hw.symm
          subst hw2
          clear hw
          go_wp2_with fail
          refine (rot18 xb _).mono ?_
          rintro e w' ⟨rfl, hw⟩
          have hw2 := hw.symm
          subst hw2
          clear hw
          go_wp2_with fail
          rw [ssig0_eq xb]
          refine (rot17 xd _).mono ?_
          rintro e w' ⟨rfl, hw⟩
          have hw2 := hw.symm
          subst hw2
          clear hw
          go_wp2_with fail
          refine (rot19 xd _).mono ?_
          rintro e w' ⟨rfl, hw⟩
          have hw2 := hw.symm
          subst hw2
          clear hw
          go_wp2_with fail
          rw [ssig1_eq xd]
          go_region
          have HS := schedL_set l k hlt
          obtain ⟨u, hu⟩ : ∃ u, u = Value.int .u32 (((xa.toNat : Int) + ((ssig0 xb).toNat : Int) + (xc.toNat : Int) + ((ssig1 xd).toNat : Int)) % 4294967296) := ⟨_, rfl⟩
          rw [← hu]
          have hu2 : u = wc (nextW l (Wl l k)) := by rw [hu, HE.out]; rfl
          have hA2 : AR (W.setCell ⟨w.heap.size + 1, k, none⟩ u).drew (w.heap.size + 1) 248 (schedL l (k + 1)) := by
            rw [← HS]
            exact fA.put k _ _ hu2
          have hR2 : AR (W.setCell ⟨w.heap.size + 1, k, none⟩ u).drew w.heap.size 248 (List.replicate 64 0) := fR.other _ _ (by simp)
          have hb2 : Below w.heap.size w (W.setCell ⟨w.heap.size + 1, k, none⟩ u).drew := (fb.setCell (by simp) _).drew
          clear hu hu2 HS
          generalize (W.setCell ⟨w.heap.size + 1, k, none⟩ u).drew = w2 at *
          clear fA fR fb f16 f7 ff fc HE
          go_wp2
          go_roundw
          case rel => first | exact ⟨k + 1, by omega, by omega, by go_num, hA2, hR2, hb2⟩ | ((repeat apply Exists.intro); exact ⟨⟨k + 1, by omega, by omega, by go_num, hA2, hR2, hb2⟩, rfl⟩)
          case measure => simp [intOf]; omega
        · have hk64 : k = 64 := by omega
          subst hk64
          have hL : schedL l 64 = Wl l 64 := by simp [schedL]
          rw [hL] at hA
          have hsz : (wcs (Wl l 64)).toArray.size = 64 := by simp [wcs, Wl_length]
          clear hL hlt hk hk1 h
          go_wp2_with (first | (refine wpList_load_row rfl 248 (.tmp 3) rfl (w.heap.size + 1) rfl 248 _ _ _ hA Tryz.underlying248 rfl (by rw [hsz]; exact i64w) ?_) | (refine wpList_store_row rfl 248 (.tmp 2) (.tmp 92) rfl w.heap.size _ rfl rfl 248 _ hR (by rw [hsz]; exact i64w) (by rw [hsz]; simp [wcs]) (wcs_one _) ?_))
          have hres := hR.row (Wl l 64)
          have hb2 := Below.row hbe (Nat.le_refl _) (wcs (Wl l 64)).toArray
          go_wp2
          exact bodyPost_ret (v := .agg (wcs (Wl l 64)).toArray) (results_cell_row Tryz.results195 _ _ w.heap.size 248 _ _ _ rfl hres Tryz.underlying248 rfl (by rw [hsz]; exact i64w)) rfl ⟨rfl, hb2⟩

end Go.Proofs.YtcgpgnajmfemhaaGreatDoor
