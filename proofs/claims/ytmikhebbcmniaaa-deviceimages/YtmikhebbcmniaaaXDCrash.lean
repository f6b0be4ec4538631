/- What this text proves: what a crash makes of a device, sector by sector (plain facts); and the walk of the document's device's Crash over this program. -/
import Derived.Test.YtmikhebbcmniaaaXDSync
namespace Go.Proofs.Ytmikhebbcmniaaa
open Go.RowKit

/-- How many sectors ahead of i wait. -/
def rank (s : DevS) (i : Nat) : Nat := ((List.range i).filter fun j => (s.old j).isSome).length
theorem rank_succ (s : DevS) (i : Nat) : rank s (i + 1) = rank s i + (if (s.old i).isSome then 1 else 0) := by
  unfold rank
  rw [List.range_succ, List.filter_append, List.length_append]
  cases h : (s.old i).isSome <;> simp [h]
theorem rank_le (s : DevS) (i : Nat) : rank s i ≤ i := by
  have := List.length_filter_le (fun j => (s.old j).isSome) (List.range i)
  rw [List.length_range] at this
  exact this

/-- What sector j has behind a crash. -/
def leftF (s : DevS) (keep : List UInt8) : Nat → List UInt8 := fun j => if waitF s j = true ∧ keeps keep (rank s j) = false then keptF s j else nowF s j

theorem crashTo_far (old : Nat → Option (List UInt8)) (keep : List UInt8) (i : Nat) : ∀ (ws : List Nat) (k : Nat) (now : List (List UInt8)), i ∉ ws → (crashTo old keep now ws k)[i]? = now[i]?
  | [], _, _, _ => rfl
  | j :: ws, k, now, h => by
    rw [crashTo, crashTo_far old keep i ws (k + 1) _ (fun e => h (List.mem_cons_of_mem _ e))]
    split
    · rfl
    · exact List.getElem?_set_ne (fun e => h (by rw [e]; exact List.mem_cons_self))

theorem crashTo_at (old : Nat → Option (List UInt8)) (keep : List UInt8) (j : Nat) : ∀ (ws : List Nat) (k : Nat) (now : List (List UInt8)), ws.Pairwise (· < ·) → j ∈ ws → j < now.length →
    (crashTo old keep now ws k)[j]? = if keeps keep (k + (ws.filter (· < j)).length) then now[j]? else some ((old j).getD [])
  | [], _, _, _, h, _ => by cases h
  | i :: ws, k, now, hp, hj, hl => by
    rw [crashTo]
    obtain ⟨h1, h2⟩ := List.pairwise_cons.1 hp
    by_cases hji : j = i
    · subst hji
      have hn : j ∉ ws := fun e => Nat.lt_irrefl _ (h1 j e)
      rw [crashTo_far _ _ _ _ _ _ hn]
      have e0 : (j :: ws).filter (· < j) = [] := by
        rw [List.filter_eq_nil_iff]
        intro a ha
        rcases List.mem_cons.1 ha with rfl | ha
        · simp
        · have := h1 a ha; simp; omega
      rw [e0, List.length_nil, Nat.add_zero]
      cases keeps keep k
      · simp [hl]
      · simp
    · have hm : j ∈ ws := by
        rcases List.mem_cons.1 hj with h | h
        · exact absurd h hji
        · exact h
      have hlt := h1 j hm
      have ec : ((i :: ws).filter (· < j)).length = (ws.filter (· < j)).length + 1 := by
        rw [List.filter_cons_of_pos (by simpa using hlt), List.length_cons]
      have := crashTo_at old keep j ws (k + 1) (if keeps keep k then now else now.set i ((old i).getD [])) h2 hm (by split <;> simpa using hl)
      rw [this, ec, show k + 1 + (ws.filter (· < j)).length = k + ((ws.filter (· < j)).length + 1) by omega]
      have e2 : (if keeps keep k then now else now.set i ((old i).getD []))[j]? = now[j]? := by
        split
        · rfl
        · exact List.getElem?_set_ne (fun e => hji e.symm)
      rw [e2]

theorem waits_rank (s : DevS) (j : Nat) (hj : j ≤ s.now.length) : (s.waits.filter (· < j)).length = rank s j := by
  unfold DevS.waits rank
  rw [List.filter_filter]
  have : ∀ d, ((List.range (j + d)).filter fun a => decide (a < j) && (s.old a).isSome).length = ((List.range j).filter fun a => (s.old a).isSome).length := by
    intro d
    induction d with
    | zero =>
      rw [Nat.add_zero]
      congr 1
      refine List.filter_congr fun a ha => ?_
      have := List.mem_range.1 ha
      simp [this]
    | succ d ih =>
      rw [← Nat.add_assoc, List.range_succ, List.filter_append, List.length_append, ih]
      simp [List.filter_cons]
      omega
  have h2 := this (s.now.length - j)
  rwa [show j + (s.now.length - j) = s.now.length by omega] at h2

theorem xwaits_pair (s : DevS) : s.waits.Pairwise (· < ·) := (List.pairwise_lt_range).filter _

theorem crash_nowF {s : DevS} (hok : s.Ok) (keep : List UInt8) (j : Nat) (hj : j < s.now.length) : nowF (s.crash keep) j = leftF s keep j := by
  have hn : nowF (s.crash keep) j = ((crashTo s.old keep s.now s.waits 0)[j]?).getD [] := by
    unfold nowF
    rw [List.getD_eq_getElem?_getD]
    rfl
  rw [hn]
  unfold leftF
  by_cases hw : waitF s j = true
  · have hm : j ∈ s.waits := by
      unfold DevS.waits
      exact List.mem_filter.2 ⟨List.mem_range.2 hj, hw⟩
    rw [crashTo_at s.old keep j s.waits 0 s.now (xwaits_pair s) hm hj, waits_rank s j (by omega), Nat.zero_add]
    have e := (nowF_row hok j hj).1
    cases hk : keeps keep (rank s j)
    · simp only [hw, and_self, if_true, Bool.false_eq_true, if_false, Option.getD_some]
      unfold keptF
      unfold waitF at hw
      obtain ⟨l, hl⟩ := Option.isSome_iff_exists.1 hw
      rw [hl]
      rfl
    · simp only [if_true, e, Option.getD_some, hw, true_and, Bool.true_eq_false, if_false]
  · have hm : j ∉ s.waits := fun e => hw (waits_some s j e)
    rw [crashTo_far _ _ _ _ _ _ hm, (nowF_row hok j hj).1, if_neg (fun h => hw h.1)]
    rfl

theorem crash_x {s : DevS} (hok : s.Ok) (keep : List UInt8) {w : World} {bx bl bk bw cl ck cw : Nat}
    (h : XG w bx bl bk bw cl ck cw s.now.length (fun j => if j < s.now.length then leftF s keep j else nowF s j) (fun j => if j < s.now.length then leftF s keep j else keptF s j) (fun j => if j < s.now.length then false else waitF s j) (-1) false (s.ch : Int)) : XDev w bx bl bk bw cl ck cw (s.crash keep) := by
  have e0 : (s.crash keep).now.length = s.now.length := (crashTo_rows s.old keep s.now.length hok.olds s.waits 0 s.now rfl (waits_some s) hok.rows).1
  refine ⟨hok.crash keep, ?_⟩
  rw [e0]
  refine h.congr (fun j hj => ?_) (fun j hj => ?_) (fun j hj => ?_)
  · rw [if_pos hj, crash_nowF hok keep j hj]
  · rw [if_pos hj]
    have : keptF (s.crash keep) j = nowF (s.crash keep) j := rfl
    rw [this, crash_nowF hok keep j hj]
  · rw [if_pos hj]
    rfl

/-- What a round's last assignment meets: Kept[k], Waits[k] = L[k], false. -/
theorem XG.settle {W : World} {bx bl bk bw cl ck cw n : Nat} {N K : Nat → List UInt8} {T : Nat → Bool} {f : Int} {d : Bool} {c : Int} (q : XG W bx bl bk bw cl ck cw n N K T f d c) (k : Nat) (hlt : k < n) :
    ∃ p1 m1 c1 u2 u3, (W.drew.cell? ⟨bx, 0, none⟩ = some (.slice (some ⟨bl, 0, none⟩) n cl) ∧ W.drew.cell? ⟨bx, 1, none⟩ = some (.slice (some ⟨bk, 0, none⟩) n ck) ∧ W.drew.cell? ⟨bx, 2, none⟩ = some (.slice (some ⟨bw, 0, none⟩) n cw) ∧ W.drew.cell? ⟨bl, k, none⟩ = some (.slice p1 m1 c1)) ∧
      W.cell? ⟨bx, 0, none⟩ = some (.slice (some ⟨bl, 0, none⟩) n cl) ∧ W.cell? ⟨bl, k, none⟩ = some (.slice p1 m1 c1) ∧ W.cell? ⟨bk, k, none⟩ = some u2 ∧ W.frozen? ⟨bk, k, none⟩ = false ∧
      ((W.setCell ⟨bk, k, none⟩ (.slice p1 m1 c1)).drew.cell? ⟨bx, 0, none⟩ = some (.slice (some ⟨bl, 0, none⟩) n cl) ∧ (W.setCell ⟨bk, k, none⟩ (.slice p1 m1 c1)).drew.cell? ⟨bx, 1, none⟩ = some (.slice (some ⟨bk, 0, none⟩) n ck) ∧ (W.setCell ⟨bk, k, none⟩ (.slice p1 m1 c1)).drew.cell? ⟨bx, 2, none⟩ = some (.slice (some ⟨bw, 0, none⟩) n cw) ∧ (W.setCell ⟨bk, k, none⟩ (.slice p1 m1 c1)).drew.cell? ⟨bl, k, none⟩ = some (.slice p1 m1 c1)) ∧
      (W.setCell ⟨bk, k, none⟩ (.slice p1 m1 c1)).cell? ⟨bw, k, none⟩ = some u3 ∧ (W.setCell ⟨bk, k, none⟩ (.slice p1 m1 c1)).frozen? ⟨bw, k, none⟩ = false ∧
      (((W.setCell ⟨bk, k, none⟩ (.slice p1 m1 c1)).setCell ⟨bw, k, none⟩ (.bool false)).drew.cell? ⟨bx, 0, none⟩ = some (.slice (some ⟨bl, 0, none⟩) n cl) ∧ ((W.setCell ⟨bk, k, none⟩ (.slice p1 m1 c1)).setCell ⟨bw, k, none⟩ (.bool false)).drew.cell? ⟨bx, 1, none⟩ = some (.slice (some ⟨bk, 0, none⟩) n ck) ∧ ((W.setCell ⟨bk, k, none⟩ (.slice p1 m1 c1)).setCell ⟨bw, k, none⟩ (.bool false)).drew.cell? ⟨bx, 2, none⟩ = some (.slice (some ⟨bw, 0, none⟩) n cw) ∧ ((W.setCell ⟨bk, k, none⟩ (.slice p1 m1 c1)).setCell ⟨bw, k, none⟩ (.bool false)).drew.cell? ⟨bl, k, none⟩ = some (.slice p1 m1 c1)) ∧
      XG ((W.setCell ⟨bk, k, none⟩ (.slice p1 m1 c1)).setCell ⟨bw, k, none⟩ (.bool false)).drew bx bl bk bw cl ck cw n N (fun j => if j = k then N k else K j) (fun j => if j = k then false else T j) f d c := by
  obtain ⟨d0, d1, d2, _⟩ := q.db.cells
  obtain ⟨u1, hu1, hx1⟩ := q.l.cell k hlt
  obtain ⟨u2, hu2, _⟩ := q.k.cell k hlt
  obtain ⟨n1, n2, n3, n4, n5⟩ := q.nes
  have n6 := q.ne
  obtain ⟨p1, c1, rfl⟩ := hx1.1.shape
  have q3 := q.putK k _ _ hx1
  have q4 := q3.putW k false
  obtain ⟨g0, g1, g2, _⟩ := (q3.later (Below.refl _ _).drew).db.cells
  have g3 := (cell_put_ne W bk bl k k (.slice p1 (N k).length c1) n6).trans hu1
  obtain ⟨j0, j1, j2, _⟩ := (q4.later (Below.refl _ _).drew).db.cells
  have j3 := (cell_put_ne (W.setCell ⟨bk, k, none⟩ (.slice p1 (N k).length c1)) bw bl k k (.bool false) n4).trans g3
  exact ⟨p1, _, c1, u2, _, ⟨d0, d1, d2, hu1⟩, d0, hu1, hu2, q.k.free k, ⟨g0, g1, g2, g3⟩, q3.w.cell k hlt, q3.w.free k, ⟨j0, j1, j2, j3⟩, q4.later (Below.refl _ _).drew⟩

set_option maxRecDepth 10000 in
set_option maxHeartbeats 3200000 in
theorem rcrash_any {w : World} {bx bl bk bw cl ck cw : Nat} {s : DevS} (h : XDev w bx bl bk bw cl ck cw s) (vk : Value) (keep : List UInt8) (hv : HB w vk keep) (hb : keep ≠ [] → ∀ a n c, vk = .slice (some a) n c → ¬ xS bx bl bk bw a.block) :
    Calls Try.prog 27 #[.pointer (some ⟨bx, 0, none⟩), vk] w fun e w' => e = .returned (.tuple #[]) ∧ XDev w' bx bl bk bw cl ck cw (s.crash keep) ∧ Part (xS bx bl bk bw) w w' := by
  have hq := h.ok.most
  have hkl := hv.len_le
  unfold maxLen at hkl
  obtain ⟨pk, cc, rfl⟩ := hv.shape
  have hfin : ∀ W, XG W bx bl bk bw cl ck cw s.now.length (fun j => if j < s.now.length then leftF s keep j else nowF s j) (fun j => if j < s.now.length then leftF s keep j else keptF s j) (fun j => if j < s.now.length then false else waitF s j) (-1) false (s.ch : Int) → XDev W bx bl bk bw cl ck cw (s.crash keep) := fun W hx => crash_x h.ok keep hx
  have q2 : XG w bx bl bk bw cl ck cw s.now.length (fun j => if j < 0 then leftF s keep j else nowF s j) (fun j => if j < 0 then leftF s keep j else keptF s j) (fun j => if j < 0 then false else waitF s j) s.fuse s.dead (s.ch : Int) := by simpa using h.g
  have hL : ∀ j, leftF s keep j = if waitF s j = true ∧ keeps keep (rank s j) = false then keptF s j else nowF s j := fun j => rfl
  have hR : ∀ j, rank s (j + 1) = rank s j + (if waitF s j then 1 else 0) := rank_succ s
  have hRl := rank_le s
  have hR0 : rank s 0 = 0 := rfl
  generalize leftF s keep = A0 at *
  generalize nowF s = A1 at *
  generalize keptF s = A2 at *
  generalize waitF s = A3 at *
  generalize rank s = rk at *
  generalize s.fuse = F1 at *
  generalize s.dead = F2 at *
  generalize (s.ch : Int) = F3 at *
  generalize s.crash keep = S2 at *
  generalize s.now.length = n at *
  have d0 := q2.db.cells.1
  clear h
  go_enter Try.func27, Try.ntmps27
  go_wp2
  go_loopw [11, 4] (fun i kk wr => ∃ k : Nat, k ≤ n ∧ i = .int .i64 k ∧ kk = .int .i64 (rk k : Int) ∧ XG wr bx bl bk bw cl ck cw n (fun j => if j < k then A0 j else A1 j) (fun j => if j < k then A0 j else A2 j) (fun j => if j < k then false else A3 j) F1 F2 F3 ∧ Part (xS bx bl bk bw) w wr) (fun i _ _ => n - (RowKit.intOf i).toNat)
  case atStart => exact ⟨0, Nat.zero_le _, rfl, by rw [hR0]; rfl, q2, Part.refl _ _⟩
  case round =>
    obtain ⟨k, hk, rfl, rfl, q, pa⟩ := hrel
    clear q2 d0
    by_cases hlt : k < n
    · have hlt2 : (k : Int) < (n : Int) := by omega
      have hnext : ∀ (W : World) (N K : Nat → List UInt8) (T : Nat → Bool), XG W bx bl bk bw cl ck cw n N (fun j => if j = k then N k else K j) (fun j => if j = k then false else T j) F1 F2 F3 → N k = A0 k ∧ (∀ j, j ≠ k → N j = if j < k then A0 j else A1 j) ∧ (∀ j, j ≠ k → K j = if j < k then A0 j else A2 j) ∧ (∀ j, j ≠ k → T j = if j < k then false else A3 j) → XG W bx bl bk bw cl ck cw n (fun j => if j < k + 1 then A0 j else A1 j) (fun j => if j < k + 1 then A0 j else A2 j) (fun j => if j < k + 1 then false else A3 j) F1 F2 F3 := by
        rintro W N K T hx ⟨h0, h1, h2, h3⟩
        refine hx.congr (fun j _ => ?_) (fun j _ => ?_) (fun j _ => ?_)
        · by_cases hj : j = k
          · subst hj; rw [h0, if_pos (by omega)]
          · rw [h1 j hj]
            by_cases h2 : j < k
            · rw [if_pos h2, if_pos (by omega)]
            · rw [if_neg h2, if_neg (by omega)]
        · by_cases hj : j = k
          · subst hj; rw [if_pos rfl, h0, if_pos (by omega)]
          · rw [if_neg hj, h2 j hj]
            by_cases h2 : j < k
            · rw [if_pos h2, if_pos (by omega)]
            · rw [if_neg h2, if_neg (by omega)]
        · by_cases hj : j = k
          · subst hj; rw [if_pos rfl, if_pos (by omega)]
          · rw [if_neg hj, h3 j hj]
            by_cases h2 : j < k
            · rw [if_pos h2, if_pos (by omega)]
            · rw [if_neg h2, if_neg (by omega)]
      have hw := q.w.cell k hlt
      simp only [Nat.lt_irrefl, if_false] at hw
      have dw := q.db.cells.2.2.1
      have hrk := hRl k
      have hrs := hR k
      have hLk := hL k
      cases hA : A3 k
      · rw [hA] at hw hrs hLk
        simp only [Bool.false_eq_true, if_false, Nat.add_zero, false_and] at hrs hLk
        have RK : Hid ((.int .i64 (rk k : Int) : Value) = .int .i64 (rk (k + 1) : Int)) := by show _ = _; rw [hrs]
        clear hR hRl hR0 hb hrs
        obtain ⟨p1, m1, c1, u2, u3, HE, d0, hu1, hu2, fz2, HG, e6, e7, HJ, q4⟩ := q.settle k hlt
        have p4 : Part (xS bx bl bk bw) w ((wr.setCell ⟨bk, k, none⟩ (.slice p1 m1 c1)).setCell ⟨bw, k, none⟩ (.bool false)).drew := ((pa.setCell _ _ (.inr (.inr (.inl rfl)))).setCell _ _ (.inr (.inr (.inr rfl)))).drew
        have hnx := hnext _ _ _ _ q4 ⟨by simp [hLk], fun j _ => rfl, fun j _ => rfl, fun j _ => rfl⟩
        obtain ⟨e0, e1, e2, e3⟩ := HE
        clear q4 hnext hL
        clear q hv pa hLk hA
        go_wp2
        go_region_held3 (fun W => W.cell? ⟨bx, 0, none⟩ = some (.slice (some ⟨bl, 0, none⟩) n cl) ∧ W.cell? ⟨bx, 1, none⟩ = some (.slice (some ⟨bk, 0, none⟩) n ck) ∧ W.cell? ⟨bx, 2, none⟩ = some (.slice (some ⟨bw, 0, none⟩) n cw) ∧ W.cell? ⟨bl, k, none⟩ = some (.slice p1 m1 c1)) (first | with_reducible exact ⟨e0, e1, e2, e3⟩ | with_reducible exact HG | with_reducible exact HJ | fail) (fail)
        go_wp2
        go_roundw
        case rel => first | exact ⟨k + 1, by omega, by go_num, RK.out, hnx, p4⟩ | ((repeat apply Exists.intro); exact ⟨⟨k + 1, by omega, by go_num, RK.out, hnx, p4⟩, rfl⟩)
        case measure => simp [RowKit.intOf]; omega
      · rw [hA] at hw hrs hLk
        simp only [if_true, true_and] at hrs hLk
        have RK : Hid ((.int .i64 ((rk k : Int) + 1) : Value) = .int .i64 (rk (k + 1) : Int)) := by show _ = _; rw [hrs]; rfl
        have hwr : wrap64 ((rk k : Int) + 1) = (rk k : Int) + 1 := by unfold wrap64; omega
        have hvr : HB wr (.slice pk keep.length cc) keep := by
          by_cases hne : keep = []
          · subst hne
            exact HB.empty _ pk cc hv.len.2.2.1 hv.len.2.2.2
          · exact hv.away pa (hb hne)
        obtain ⟨x2, r2, hx2⟩ := q.k.cell k hlt
        simp only [Nat.lt_irrefl, if_false] at hx2
        obtain ⟨u1, r3, _⟩ := q.l.cell k hlt
        obtain ⟨r0, r1, _⟩ := q.db.cells
        have fz1 := q.l.free k
        have n6 := q.ne
        have n1 := q.nes.1
        obtain ⟨p2, c2, rfl⟩ := hx2.1.shape
        have q6 := (q.putL k _ _ hx2).later (Below.refl _ _).drew
        have p6 : Part (xS bx bl bk bw) w (wr.setCell ⟨bl, k, none⟩ (.slice p2 (A2 k).length c2)).drew := (pa.setCell _ _ (.inr (.inl rfl))).drew
        generalize (A2 k).length = m2 at *
        have y0 : wr.drew.cell? ⟨bx, 0, none⟩ = some (.slice (some ⟨bl, 0, none⟩) n cl) := r0
        have y1 : wr.drew.cell? ⟨bx, 1, none⟩ = some (.slice (some ⟨bk, 0, none⟩) n ck) := r1
        have y2 : wr.drew.cell? ⟨bk, k, none⟩ = some (.slice p2 m2 c2) := r2
        obtain ⟨z0, z1, _⟩ := q6.db.cells
        have z2 : (wr.setCell ⟨bl, k, none⟩ (.slice p2 m2 c2)).drew.cell? ⟨bk, k, none⟩ = some (.slice p2 m2 c2) := (cell_put_ne wr bl bk k k (.slice p2 m2 c2) n6.symm).trans r2
        clear hR hRl hR0 hb hrs hL hv hx2
        by_cases hkg : keep.length ≤ rk k
        · have hkf : keeps keep (rk k) = false := by simp [keeps, List.getElem?_eq_none hkg]
          rw [hkf] at hLk
          simp only [if_true] at hLk
          have hge : (keep.length : Int) ≤ (rk k : Int) := by omega
          clear hkf hvr
          obtain ⟨W6, hW6⟩ : ∃ W6, W6 = (wr.setCell ⟨bl, k, none⟩ (.slice p2 m2 c2)).drew := ⟨_, rfl⟩
          rw [← hW6] at q6 p6
          obtain ⟨p1, m1, c1, u2, u3, HE, d0, hu1, hu2, fz2, HG, e6, e7, HJ, q4⟩ := q6.settle k hlt
          have p4 : Part (xS bx bl bk bw) w ((W6.setCell ⟨bk, k, none⟩ (.slice p1 m1 c1)).setCell ⟨bw, k, none⟩ (.bool false)).drew := ((p6.setCell _ _ (.inr (.inr (.inl rfl)))).setCell _ _ (.inr (.inr (.inr rfl)))).drew
          have hnx := hnext _ _ _ _ q4 ⟨by simp [hLk], fun j hj => by simp [hj], fun j _ => rfl, fun j _ => rfl⟩
          obtain ⟨e0, e1, e2, e3⟩ := HE
          clear q4 hnext
          clear q6 p6 hLk
          go_wp2
          go_region_held3 (fun W => W.cell? ⟨bx, 0, none⟩ = some (.slice (some ⟨bl, 0, none⟩) n cl) ∧ W.cell? ⟨bx, 1, none⟩ = some (.slice (some ⟨bk, 0, none⟩) n ck) ∧ W.cell? ⟨bk, k, none⟩ = some (.slice p2 m2 c2)) (first | with_reducible exact ⟨y0, y1, y2⟩ | with_reducible exact ⟨z0, z1, z2⟩ | fail) (fail)
          go_wp2
          rw [← hW6]
          clear hW6 y0 y1 y2 z0 z1 z2 r0 r1 r2 r3 fz1
          go_region_held3 (fun W => W.cell? ⟨bx, 0, none⟩ = some (.slice (some ⟨bl, 0, none⟩) n cl) ∧ W.cell? ⟨bx, 1, none⟩ = some (.slice (some ⟨bk, 0, none⟩) n ck) ∧ W.cell? ⟨bx, 2, none⟩ = some (.slice (some ⟨bw, 0, none⟩) n cw) ∧ W.cell? ⟨bl, k, none⟩ = some (.slice p1 m1 c1)) (first | with_reducible exact ⟨e0, e1, e2, e3⟩ | with_reducible exact HG | with_reducible exact HJ | fail) (fail)
          go_wp2
          go_roundw
          case rel => first | exact ⟨k + 1, by omega, by go_num, RK.out, hnx, p4⟩ | ((repeat apply Exists.intro); exact ⟨⟨k + 1, by omega, by go_num, RK.out, hnx, p4⟩, rfl⟩)
          case measure => simp [RowKit.intOf]; omega
        · obtain ⟨kb, ko, rfl, hkc⟩ := hvr.addr (by omega)
          obtain ⟨x, hx⟩ : ∃ x, keep[rk k]? = some x := ⟨_, List.getElem?_eq_getElem (by omega)⟩
          have ckw : wr.cell? ⟨kb, ko + rk k, none⟩ = some (.int .u8 (x.toNat : Int)) := hkc (rk k) x hx
          have hge : (rk k : Int) < (keep.length : Int) := by omega
          have hke : keeps keep (rk k) = (x != 0) := by simp [keeps, hx]
          clear hvr hkc
          by_cases hx0 : x = 0
          · rw [hke, hx0] at hLk
            simp only [bne_self_eq_false, if_true] at hLk
            have hxn : (x.toNat : Int) = 0 := by rw [hx0]; rfl
            rw [hxn] at ckw
            clear hke hx0 hxn hx
            obtain ⟨W6, hW6⟩ : ∃ W6, W6 = (wr.setCell ⟨bl, k, none⟩ (.slice p2 m2 c2)).drew := ⟨_, rfl⟩
            rw [← hW6] at q6 p6
            obtain ⟨p1, m1, c1, u2, u3, HE, d0, hu1, hu2, fz2, HG, e6, e7, HJ, q4⟩ := q6.settle k hlt
            have p4 : Part (xS bx bl bk bw) w ((W6.setCell ⟨bk, k, none⟩ (.slice p1 m1 c1)).setCell ⟨bw, k, none⟩ (.bool false)).drew := ((p6.setCell _ _ (.inr (.inr (.inl rfl)))).setCell _ _ (.inr (.inr (.inr rfl)))).drew
            have hnx := hnext _ _ _ _ q4 ⟨by simp [hLk], fun j hj => by simp [hj], fun j _ => rfl, fun j _ => rfl⟩
            obtain ⟨e0, e1, e2, e3⟩ := HE
            clear q4 hnext
            clear q6 p6 hLk
            go_wp2
            go_region_held3 (fun W => W.cell? ⟨bx, 0, none⟩ = some (.slice (some ⟨bl, 0, none⟩) n cl) ∧ W.cell? ⟨bx, 1, none⟩ = some (.slice (some ⟨bk, 0, none⟩) n ck) ∧ W.cell? ⟨bk, k, none⟩ = some (.slice p2 m2 c2)) (first | with_reducible exact ⟨y0, y1, y2⟩ | with_reducible exact ⟨z0, z1, z2⟩ | fail) (fail)
            go_wp2
            rw [← hW6]
            clear hW6 y0 y1 y2 z0 z1 z2 r0 r1 r2 r3 fz1
            go_region_held3 (fun W => W.cell? ⟨bx, 0, none⟩ = some (.slice (some ⟨bl, 0, none⟩) n cl) ∧ W.cell? ⟨bx, 1, none⟩ = some (.slice (some ⟨bk, 0, none⟩) n ck) ∧ W.cell? ⟨bx, 2, none⟩ = some (.slice (some ⟨bw, 0, none⟩) n cw) ∧ W.cell? ⟨bl, k, none⟩ = some (.slice p1 m1 c1)) (first | with_reducible exact ⟨e0, e1, e2, e3⟩ | with_reducible exact HG | with_reducible exact HJ | fail) (fail)
            go_wp2
            go_roundw
            case rel => first | exact ⟨k + 1, by omega, by go_num, RK.out, hnx, p4⟩ | ((repeat apply Exists.intro); exact ⟨⟨k + 1, by omega, by go_num, RK.out, hnx, p4⟩, rfl⟩)
            case measure => simp [RowKit.intOf]; omega
          · have hkt : (x != 0) = true := by simpa using hx0
            rw [hke, hkt] at hLk
            simp only [Bool.true_eq_false, if_false] at hLk
            have hxn : ¬ (x.toNat : Int) = 0 := fun e => hx0 (by
              have : x.toNat = 0 := by omega
              exact UInt8.toNat_inj.1 this)
            clear hke hx0 hx hkt q6 p6
            obtain ⟨p1, m1, c1, u2, u3, HE, d0, hu1, hu2, fz2, HG, e6, e7, HJ, q4⟩ := q.settle k hlt
            have p4 : Part (xS bx bl bk bw) w ((wr.setCell ⟨bk, k, none⟩ (.slice p1 m1 c1)).setCell ⟨bw, k, none⟩ (.bool false)).drew := ((pa.setCell _ _ (.inr (.inr (.inl rfl)))).setCell _ _ (.inr (.inr (.inr rfl)))).drew
            have hnx := hnext _ _ _ _ q4 ⟨by simp [hLk], fun j _ => rfl, fun j _ => rfl, fun j _ => rfl⟩
            obtain ⟨e0, e1, e2, e3⟩ := HE
            clear q4 hnext
            clear q pa hLk
            go_wp2
            go_region_held3 (fun W => W.cell? ⟨bx, 0, none⟩ = some (.slice (some ⟨bl, 0, none⟩) n cl) ∧ W.cell? ⟨bx, 1, none⟩ = some (.slice (some ⟨bk, 0, none⟩) n ck) ∧ W.cell? ⟨bx, 2, none⟩ = some (.slice (some ⟨bw, 0, none⟩) n cw) ∧ W.cell? ⟨bl, k, none⟩ = some (.slice p1 m1 c1)) (first | with_reducible exact ⟨e0, e1, e2, e3⟩ | with_reducible exact HG | with_reducible exact HJ | fail) (fail)
            go_wp2
            go_roundw
            case rel => first | exact ⟨k + 1, by omega, by go_num, RK.out, hnx, p4⟩ | ((repeat apply Exists.intro); exact ⟨⟨k + 1, by omega, by go_num, RK.out, hnx, p4⟩, rfl⟩)
            case measure => simp [RowKit.intOf]; omega
    · obtain rfl : k = n := by omega
      have r := hfin _ ((q.put4 false).put3 (-1))
      obtain ⟨_, _, _, d3, d4, _⟩ := q.db.cells
      have fz3 := q.db.free 3
      have fz4 := q.db.free 4
      have p4 := (pa.setCell ⟨bx, 4, none⟩ (.bool false) (.inl rfl)).setCell ⟨bx, 3, none⟩ (.int .i64 (-1)) (.inl rfl)
      clear hfin q hv
      go_wp2
      go_end0
      exact ⟨rfl, r, p4⟩

end Go.Proofs.Ytmikhebbcmniaaa
