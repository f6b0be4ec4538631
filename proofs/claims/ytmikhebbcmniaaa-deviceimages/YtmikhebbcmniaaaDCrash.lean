/- What this text proves: the walk of a device's Crash over this program. -/
import Derived.Test.YtmikhebbcmniaaaDWaits
import Derived.Test.YtmikhebbcmniaaaDWriteG
namespace Go.Proofs.Ytmikhebbcmniaaa
open Go.RowKit Go.Maps

/-- The device with other sectors. -/
def DevS.with (s : DevS) (now : List (List UInt8)) : DevS := { s with now := now }

theorem keeps_false_of_ge {keep : List UInt8} {k : Nat} (h : keep.length ≤ k) : keeps keep k = false := by simp [keeps, List.getElem?_eq_none h]
theorem keeps_at {keep : List UInt8} {k : Nat} {b : UInt8} (h : keep[k]? = some b) : keeps keep k = (b != 0) := by simp [keeps, h]

theorem Dev.put {w : World} {bd bn bm : Nat} {s : DevS} (h : Dev w bd bn bm s) (i : Nat) (hi : i < s.now.length) (l : List UInt8) (hl : l.length = 64) : Dev (w.setCells bn (i * 64) (bcs l)) bd bn bm (s.with (s.now.set i l)) := by
  have hne := h.ne
  obtain ⟨h1, h2, h3, h4, h5, h6, h7⟩ := h.ok
  refine ⟨⟨by simpa [DevS.with] using h1, by simpa [DevS.with] using h2, ?_, by simpa [DevS.with] using h4, h5, h6, h7⟩, ?_, h.sr.put h3 i hi l hl, h.dm.same (heap_setCells_far _ _ _ _ _ (fun e => hne.2.2 e.symm))⟩
  · intro r hr
    rcases List.mem_or_eq_of_mem_set hr with hr | hr
    · exact h3 r hr
    · exact hr ▸ hl
  · have := h.db.same (heap_setCells_far bn (bcs l) (i * 64) w bd hne.1)
    simpa [DevS.with] using this

theorem crash_end {w : World} {bd bn bm : Nat} {s : DevS} {now : List (List UInt8)} {keep : List UInt8} (h : Dev w bd bn bm { s.with now with old := fun _ => none }) (hok : s.Ok) (hn : now = crashTo s.old keep s.now s.waits 0) :
    Dev ((w.setCell ⟨bd, 3, none⟩ (.bool false)).setCell ⟨bd, 2, none⟩ (.int .i64 (-1))) bd bn bm (s.crash keep) := by
  have hne := h.ne
  subst hn
  refine ⟨hok.crash keep, ?_, ?_, ?_⟩
  · exact (h.db.put3 false).put2 (-1)
  · exact (h.sr.same (heap_setCell_other w ⟨bd, 3, none⟩ bn (.bool false) (fun e => hne.1 e.symm))).same (heap_setCell_other _ ⟨bd, 2, none⟩ bn _ (fun e => hne.1 e.symm))
  · exact (h.dm.same (heap_setCell_other w ⟨bd, 3, none⟩ bm (.bool false) (fun e => hne.2.1 e.symm))).same (heap_setCell_other _ ⟨bd, 2, none⟩ bm _ (fun e => hne.2.1 e.symm))

theorem crash_kept {old : Nat → Option (List UInt8)} {keep : List UInt8} {now X : List (List UInt8)} {ws : List Nat} {k i : Nat} (hi : ws[k]? = some i) (hk : keeps keep k = true) (h : crashTo old keep now (ws.drop k) k = X) : crashTo old keep now (ws.drop (k + 1)) (k + 1) = X := by
  obtain ⟨hl, he⟩ := List.getElem?_eq_some_iff.1 hi
  rw [List.drop_eq_getElem_cons hl, crashTo, hk] at h
  simpa using h
theorem crash_lost {old : Nat → Option (List UInt8)} {keep : List UInt8} {now X : List (List UInt8)} {ws : List Nat} {k i : Nat} {l : List UInt8} (hi : ws[k]? = some i) (hk : keeps keep k = false) (ho : old i = some l) (h : crashTo old keep now (ws.drop k) k = X) : crashTo old keep (now.set i l) (ws.drop (k + 1)) (k + 1) = X := by
  obtain ⟨hl, he⟩ := List.getElem?_eq_some_iff.1 hi
  rw [List.drop_eq_getElem_cons hl, crashTo, hk, he, ho] at h
  simpa using h

set_option maxRecDepth 100000 in
set_option maxHeartbeats 1600000 in
theorem crash_any {bd bn bm : Nat} {s : DevS} {w : World} (h : Dev w bd bn bm s) (vk : Value) (keep : List UInt8) (hk : HB w vk keep) (hkb : keep ≠ [] → ∀ a n c, vk = .slice (some a) n c → a.block ≠ bn) :
    Calls Try.prog 25 #[.pointer (some ⟨bd, 0, none⟩), vk] w fun e w' => e = .returned (.int .i64 0) ∧ ∃ bm', Dev w' bd bn bm' (s.crash keep) ∧ w.heap.size ≤ bm' ∧ Part (fun k => k = bd ∨ k = bn) w w' := by
  have h1 := miss_no h
  have h2 := waits_any h
  have hne := h.ne
  have hmost := h.ok.most
  obtain ⟨pk, ck, rfl⟩ := hk.shape
  have hkl := hk.len_le
  unfold maxLen at hkl
  obtain ⟨ws, hws⟩ : ∃ ws, ws = s.waits := ⟨_, rfl⟩
  rw [← hws] at h2
  have hwl : ∀ i ∈ ws, i < s.now.length := by rw [hws]; exact waits_lt s
  have hwo : ∀ i ∈ ws, ∃ l, s.old i = some l := by rw [hws]; exact fun i hi => Option.isSome_iff_exists.1 (waits_some s i hi)
  have hlen : ws.length ≤ 16384 := by
    rw [hws]
    unfold DevS.waits
    have := List.length_filter_le (fun i => (s.old i).isSome) (List.range s.now.length)
    rw [List.length_range] at this
    omega
  have hu := Try.underlying76
  have HWS : Hid (ws = s.waits) := hws
  clear hws
  go_enter Try.func25, Try.ntmps25
  go_wp2_with (first
    | (go_at_call 40; refine h1.mono ?_; rintro e w1 ⟨rfl, rfl⟩)
    | (go_at_call 31; refine h2.mono ?_; rintro e w2 ⟨v, rfl, hia, hva, hb2⟩; obtain ⟨pv, cv, rfl⟩ := hia.shape))
  have hd2 := h.later hb2
  have hk2 := hk.later hb2
  clear h1 h2
  go_loopw [12] (fun i wr => ∃ (k : Nat) (now : List (List UInt8)), k ≤ ws.length ∧ i = .int .i64 k ∧ now.length = s.now.length ∧ Dev wr bd bn bm (s.with now) ∧ crashTo s.old keep now (ws.drop k) k = crashTo s.old keep s.now ws 0 ∧ Part (fun k => k = bn) w2 wr) (fun i _ => ws.length - (intOf i).toNat)
  case atStart => exact ⟨0, s.now, Nat.zero_le _, rfl, rfl, hd2, by simp, Part.refl _ _⟩
  case round =>
    obtain ⟨k, now, hkl2, rfl, hnl, hd, hcr, hpa⟩ := hrel
    by_cases hlt : k < ws.length
    · obtain ⟨i, hi⟩ : ∃ i, ws[k]? = some i := ⟨_, List.getElem?_eq_getElem hlt⟩
      have hin : i < s.now.length := hwl i (List.mem_of_getElem? hi)
      obtain ⟨l, hl⟩ := hwo i (List.mem_of_getElem? hi)
      have hl64 : l.length = 64 := (h.ok.olds i l hl).2
      obtain ⟨vb, vo, rfl, hvc⟩ := hia.addr (by omega)
      have hvb : vb ≠ bn := by
        have e1 := hva _ _ _ rfl
        have e2 := h.sr.lt
        simp only at e1
        omega
      have cw2 := hvc k i hi
      have cw : wr.cell? ⟨vb, vo + k, none⟩ = some (.int .i64 (i : Int)) := by
        rw [World.cell?_of_block (w := w2) (hpa.2 vb (World.block_lt_of_cell? w2 _ cw2) hvb)]; exact cw2
      have hlt2 : (k : Int) < (ws.length : Int) := by omega
      have hrest : keeps keep k = false → Dev (wr.drew.setCells bn (i * 64) (bcs l)) bd bn bm (s.with (now.set i l)) ∧ crashTo s.old keep (now.set i l) (ws.drop (k + 1)) (k + 1) = crashTo s.old keep s.now ws 0 ∧ Part (fun k => k = bn) w2 (wr.drew.setCells bn (i * 64) (bcs l)) := by
        intro hkf
        have hd' : Dev wr.drew bd bn bm (s.with now) := hd.later (Below.refl _ _).drew
        exact ⟨hd'.put i (by simp only [DevS.with, hnl]; exact hin) l hl64, crash_lost hi hkf hl hcr, hpa.drew.setCells _ _ _ rfl⟩
      have hlk : ∀ w', Dev w' bd bn bm (s.with now) → (Instr.lookup 63 (.map (some bm)) (.int .i64 (i : Int)) false).run Try.prog w' = .ok (secV l) w' := fun w' hd' => hd'.dm.look i (by omega) l hl
      have hlkp : ∀ w', Dev w' bd bn bm (s.with (now.set i l)) → (Instr.lookup 63 (.map (some bm)) (.int .i64 (i : Int)) false).run Try.prog w' = .ok (secV l) w' := fun w' hd' => hd'.dm.look i (by omega) l hl
      have c0 := hd.db.cells.1
      have c1 := hd.db.cells.2.1
      have hth := hd.sr.there hd.ok.rows i (by simp only [DevS.with, hnl]; exact hin)
      have hLw := hlk wr hd
      have hLd := hlk wr.drew (hd.later (Below.refl _ _).drew)
      have hi0 : (0 : Int) ≤ (i : Int) := Int.natCast_nonneg _
      have hi1 : (i : Int) < (s.now.length : Int) := by omega
      have hnow : (s.with now).now.length = s.now.length := hnl
      rw [hnow, show (s.with now).cap = s.cap from rfl] at c0
      have hlen2 : (now.set i l).length = s.now.length := by simpa using hnl
      have hsz : (Try.prog.info? 76).map (·.size) = some (bcs l).length := by rw [bcs_length, hl64]; exact s_sec
      have hC1 := bcs_one l
      have hCl : (bcs l).length = 64 := by rw [bcs_length, hl64]
      have hS2 : keeps keep k = false → (wr.drew.setCells bn (i * 64) (bcs l)).cell? ⟨bd, 0, none⟩ = some (.slice (some ⟨bn, 0, none⟩) s.now.length s.cap) ∧ (wr.drew.setCells bn (i * 64) (bcs l)).cell? ⟨bd, 1, none⟩ = some (.map (some bm)) ∧ (Instr.lookup 63 (.map (some bm)) (.int .i64 (i : Int)) false).run Try.prog (wr.drew.setCells bn (i * 64) (bcs l)) = .ok (secV l) (wr.drew.setCells bn (i * 64) (bcs l)) ∧ (wr.drew.setCells bn (i * 64) (bcs l)).there bn (i * 64) 64 := by
        intro hkf
        have hdx := (hrest hkf).1
        have e0 := hdx.db.cells.1
        rw [show (s.with (now.set i l)).now.length = s.now.length from hlen2, show (s.with (now.set i l)).cap = s.cap from rfl] at e0
        exact ⟨e0, hdx.db.cells.2.1, hlkp _ hdx, World.there_setCells (by simpa using hth) _ _ _⟩
      unfold secV at hLw hLd hS2
      clear hlk hlkp hd2 hia hva hvc cw2 hnow
      by_cases hkg : keep.length ≤ k
      · have hkf := keeps_false_of_ge hkg
        have hS3 := hS2 hkf
        obtain ⟨r1, r2, r3⟩ := hrest hkf
        have hge : (keep.length : Int) ≤ (k : Int) := by omega
        clear hrest hS2
        generalize bcs l = CS at *
        go_wp2
        go_region_held3 (fun w' => w'.cell? ⟨bd, 0, none⟩ = some (.slice (some ⟨bn, 0, none⟩) s.now.length s.cap) ∧ w'.cell? ⟨bd, 1, none⟩ = some (.map (some bm)) ∧ (Instr.lookup 63 (.map (some bm)) (.int .i64 (i : Int)) false).run Try.prog w' = .ok (.agg CS.toArray) w' ∧ w'.there bn (i * 64) 64) (first | exact ⟨c0, c1, hLw, hth⟩ | exact hS3 | exact ⟨by simpa using c0, by simpa using c1, hLd, by simpa using hth⟩) (fail)
        go_wp2
        go_roundw
        case rel => first | exact ⟨k + 1, _, by omega, by go_num, hlen2, r1, r2, r3⟩ | ((repeat apply Exists.intro); exact ⟨⟨k + 1, _, by omega, by go_num, hlen2, r1, r2, r3⟩, rfl⟩)
        case measure => simp [intOf]; omega
      · obtain ⟨kb, ko, rfl, hkc⟩ := hk2.addr (by omega)
        obtain ⟨x, hx⟩ : ∃ x, keep[k]? = some x := ⟨_, List.getElem?_eq_getElem (by omega)⟩
        have hkbn : kb ≠ bn := hkb (fun e => by rw [e] at hx; simp at hx) _ _ _ rfl
        have ck2 := hkc k x hx
        have ckw : wr.cell? ⟨kb, ko + k, none⟩ = some (.int .u8 (x.toNat : Int)) := by
          rw [World.cell?_of_block (w := w2) (hpa.2 kb (World.block_lt_of_cell? w2 _ ck2) hkbn)]; exact ck2
        have hge : (k : Int) < (keep.length : Int) := by omega
        have hke := keeps_at hx
        by_cases hx0 : x = 0
        · have hkf : keeps keep k = false := by rw [hke, hx0]; rfl
          have hS3 := hS2 hkf
          obtain ⟨r1, r2, r3⟩ := hrest hkf
          have hxn : (x.toNat : Int) = 0 := by rw [hx0]; rfl
          rw [hxn] at ckw
          clear hrest hS2 hkc ck2 hx0 hxn hke
          generalize bcs l = CS at *
          go_wp2
          go_region_held3 (fun w' => w'.cell? ⟨bd, 0, none⟩ = some (.slice (some ⟨bn, 0, none⟩) s.now.length s.cap) ∧ w'.cell? ⟨bd, 1, none⟩ = some (.map (some bm)) ∧ (Instr.lookup 63 (.map (some bm)) (.int .i64 (i : Int)) false).run Try.prog w' = .ok (.agg CS.toArray) w' ∧ w'.there bn (i * 64) 64) (first | exact ⟨c0, c1, hLw, hth⟩ | exact hS3 | exact ⟨by simpa using c0, by simpa using c1, hLd, by simpa using hth⟩) (fail)
          go_wp2
          go_roundw
          case rel => first | exact ⟨k + 1, _, by omega, by go_num, hlen2, r1, r2, r3⟩ | ((repeat apply Exists.intro); exact ⟨⟨k + 1, _, by omega, by go_num, hlen2, r1, r2, r3⟩, rfl⟩)
          case measure => simp [intOf]; omega
        · have hkt : keeps keep k = true := by rw [hke]; simpa using hx0
          have hxn : ¬ (x.toNat : Int) = 0 := fun e => hx0 (by
            have : x.toNat = 0 := by omega
            exact UInt8.toNat_inj.1 this)
          have r2 := crash_kept hi hkt hcr
          clear hrest hS2 hkc ck2 hx0 hke
          go_wp2
          go_roundw
          case rel => first | exact ⟨k + 1, now, by omega, by go_num, hnl, hd, r2, hpa⟩ | ((repeat apply Exists.intro); exact ⟨⟨k + 1, now, by omega, by go_num, hnl, hd, r2, hpa⟩, rfl⟩)
          case measure => simp [intOf]; omega
    · obtain rfl : k = ws.length := by omega
      have hcr' : now = crashTo s.old keep s.now ws 0 := by simpa [crashTo] using hcr
      have hse := settle_any hd
      clear hcr hd2 hk2 hia hva hk
      go_wp2_with (go_at_call 46; refine hse.mono ?_; rintro e w4 ⟨rfl, hd4, hp4⟩; have hdb4 := hd4.db; have f2 := hdb4.free 2; have f3 := hdb4.free 3; have q2 := hdb4.cells.2.2.1; have q3 := hdb4.cells.2.2.2.1)
      go_ret
      have hE := crash_end hd4 h.ok (hcr'.trans (by rw [HWS.out]))
      have hsz : w1.heap.size ≤ wr.heap.size := Nat.le_trans hb2.size hpa.size
      refine ⟨rfl, _, hE, hsz, ?_⟩
      have p1 : Part (fun k => k = bd ∨ k = bn) w1 wr := (Part.of_below (S := fun k => k = bd ∨ k = bn) hb2).trans hpa (fun k _ e => .inr e)
      have p2 : Part (fun k => k = bd ∨ k = bn) w1 w4 := p1.trans hp4 (fun k _ e => .inl e)
      exact (p2.setCell ⟨bd, 3, none⟩ _ (.inl rfl)).setCell ⟨bd, 2, none⟩ _ (.inl rfl)

end Go.Proofs.Ytmikhebbcmniaaa
