/- What this text proves: the walk of a device's Write over this program. What this text proves: the walk of a device's Write, that goes through, over this program. What this text proves: the walk of a device's Write to a sector that does not wait, over this program. -/
import Derived.Test.YtcjcombobcmpgaaDoorJD1
import Derived.Deep.RegionHeld3
namespace Go.Proofs.YtcjcombobcmpgaaDoor
open Go.RowKit Go.Maps

set_option maxRecDepth 100000 in
set_option maxHeartbeats 400000 in
theorem write_arg {bd bn bm : Nat} {s : DevS} {w : World} (h : Dev w bd bn bm s) (i : Int) (v : Value) (l : List UInt8) (hv : HB w v l) (hbad : ¬ (0 ≤ i ∧ i < (s.now.length : Int)) ∨ l.length ≠ 64) : Calls Tryd.prog 73 #[.pointer (some ⟨bd, 0, none⟩), .int .i64 i, v] w fun e w' => e = .returned (.int .i64 1) ∧ w' = w := by
  have h1 := miss_no h
  have h2 := has_any h i
  obtain ⟨p, c, rfl⟩ := hv.shape
  by_cases hi : 0 ≤ i ∧ i < (s.now.length : Int)
  · have hl : ¬ (l.length : Int) = 64 := by
      rcases hbad with h | h
      · exact absurd hi h
      · omega
    rw [decide_eq_true hi] at h2
    clear h hv hbad hi
    go_enter Tryd.func73, Tryd.ntmps73
    go_wp2_with (first
      | (go_at_call 68; refine h1.mono ?_; rintro e w1 ⟨rfl, rfl⟩)
      | (go_at_call 69; refine h2.mono ?_; rintro e w1 ⟨rfl, rfl⟩))
    go_ret
    exact ⟨rfl, rfl⟩
  · rw [decide_eq_false hi] at h2
    clear h hv hbad hi
    go_enter Tryd.func73, Tryd.ntmps73
    go_wp2_with (first
      | (go_at_call 68; refine h1.mono ?_; rintro e w1 ⟨rfl, rfl⟩)
      | (go_at_call 69; refine h2.mono ?_; rintro e w1 ⟨rfl, rfl⟩))
    go_ret
    exact ⟨rfl, rfl⟩

set_option maxRecDepth 100000 in
set_option maxHeartbeats 400000 in
theorem write_stop {bd bn bm : Nat} {s : DevS} {w : World} (h : Dev w bd bn bm s) (i : Int) (v : Value) (l : List UInt8) (hv : HB w v l) (hi : 0 ≤ i ∧ i < (s.now.length : Int)) (hl : l.length = 64) (hc : s.ch + 1 ≤ 1099511627776) (hs : s.stops = true) :
    Calls Tryd.prog 73 #[.pointer (some ⟨bd, 0, none⟩), .int .i64 i, v] w fun e w' => e = .returned (.int .i64 70) ∧ Dev w' bd bn bm s.counted ∧ Part (fun k => k = bd) w w' := by
  have h1 := miss_no h
  have h2 := has_any h i
  have h3 := change_any h hc
  rw [show s.err = 70 by simp [DevS.err, hs]] at h3
  obtain ⟨p, c, rfl⟩ := hv.shape
  rw [hl]
  rw [decide_eq_true hi] at h2
  clear h hv hi hl
  go_enter Tryd.func73, Tryd.ntmps73
  go_wp2_with (first
    | (go_at_call 68; refine h1.mono ?_; rintro e w1 ⟨rfl, rfl⟩)
    | (go_at_call 69; refine h2.mono ?_; rintro e w1 ⟨rfl, rfl⟩)
    | (go_at_call 86; refine h3.mono ?_; rintro e w2 ⟨rfl, hd2, hp2⟩))
  go_ret
  exact ⟨rfl, hd2, hp2⟩

end Go.Proofs.YtcjcombobcmpgaaDoor

namespace Go.Proofs.YtcjcombobcmpgaaDoor
open Go.RowKit Go.Maps

theorem secV_one (l : List UInt8) : ((bcs l).toArray).all (·.oneCell') = true := Go.all_oneCell_toArray (bcs_one l)

theorem write_old (s : DevS) (i : Nat) (l : List UInt8) (hs : s.stops = false) : (s.write i l).old = oldW s i := by simp [DevS.write, hs]
theorem array_at (a : Addr) (c : Nat) (w : World) : (Instr.arrayAt 111 (.slice (some a) 64 c)).run Tryd.prog w = .ok (.pointer (some a)) w := by
  simp [Instr.arrayAt, Sem.run_bind, run_underlying Tryd.underlying111 w, Result.andThen]

set_option maxRecDepth 100000 in
set_option maxHeartbeats 1600000 in
theorem write_wait {bd bn bm : Nat} {s : DevS} {w : World} (h : Dev w bd bn bm s) (i : Nat) (v : Value) (l : List UInt8) (hv : HB w v l) (hi : i < s.now.length) (hl : l.length = 64) (hc : s.ch + 1 ≤ 1099511627776) (hs : s.stops = false) (o : List UInt8) (ho : s.old i = some o)
    (hvb : ∀ a n c, v = .slice (some a) n c → a.block ≠ bd ∧ a.block ≠ bn) :
    Calls Tryd.prog 73 #[.pointer (some ⟨bd, 0, none⟩), .int .i64 (i : Int), v] w fun e w' => e = .returned (.int .i64 0) ∧ Dev w' bd bn bm (s.write i l) ∧ Part (fun k => k = bd ∨ k = bn ∨ k = bm) w w' := by
  have h1 := miss_no h
  have h2 := has_any h (i : Int)
  have h3 := change_any h hc
  rw [show s.err = 0 by simp [DevS.err, hs]] at h3
  have hmost := h.ok.most
  obtain ⟨p, c, rfl⟩ := hv.shape
  rw [decide_eq_true (by omega)] at h2
  rw [hl]
  obtain ⟨Z, hZ⟩ : ∃ Z : Array Value, Z = (bcs o).toArray := ⟨_, rfl⟩
  have hlook : ∀ w2, Dev w2 bd bn bm s.counted → (Instr.lookup 42 (.map (some bm)) (.int .i64 (i : Int)) true).run Tryd.prog w2 = .ok (.tuple #[.agg Z, .bool true]) w2 := by
    intro w2 hd
    have := hd.dm.look_ok i (by omega)
    rw [counted_old, ho] at this
    rw [this, hZ]
    rfl
  have hZs : Z.size = 64 := by rw [hZ]; simp [bcs_length, (h.ok.olds i o ho).2]
  have hst : ∀ (w3 : World) (cs : Array Value), cs.size = 64 → (storeCells ⟨w3.heap.size, 0, none⟩ Z.toList 0).run Tryd.prog (w3.alloc (.cells cs 111)) = .ok () (w3.alloc (.cells Z 111)) := fun w3 cs hcs =>
    run_storeCells_new w3 111 cs Z (by rw [s_sec, hZs]) (by rw [hcs, hZs]) (by rw [hZ]; exact secV_one o)
  obtain ⟨vb, vo, rfl, hvc⟩ := hv.addr (by omega)
  have hvn : vb ≠ bd := (hvb _ _ _ rfl).1
  have hvn2 : vb ≠ bn := (hvb _ _ _ rfl).2
  have hbn : bd ≠ bn := h.ne.1
  have hi0 : (0 : Int) ≤ (i : Int) := Int.natCast_nonneg _
  have hi1 : (i : Int) < (s.now.length : Int) := by omega
  have hu := Tryd.underlying111
  obtain ⟨CS, hCS⟩ : ∃ CS, CS = bcs l := ⟨_, rfl⟩
  have hCl : CS.length = 64 := by rw [hCS, bcs_length, hl]
  have hC1 : ∀ v ∈ CS, v.oneCell' = true := by rw [hCS]; exact bcs_one l
  have hsz : (Tryd.prog.info? 111).map (·.size) = some CS.length := by rw [hCl]; exact s_sec
  have hrng : ∀ w2, Part (fun k => k = bd) w w2 → w2.rangeAt vb vo CS := by
    intro w2 hp j x hx
    rw [hCS, bcs_get] at hx
    obtain ⟨y, hy, rfl⟩ := Option.map_eq_some_iff.1 hx
    have hcell := hvc j y hy
    rw [World.cell?_of_block (w := w) (hp.2 vb (World.block_lt_of_cell? w _ hcell) hvn)]
    exact hcell
  have hfin : ∀ w2, Dev w2 bd bn bm s.counted → Part (fun k => k = bd) w w2 → Dev ((w2.alloc (.cells Z 111)).drew.setCells bn (i * 64) CS) bd bn bm (s.write i l) ∧ Part (fun k => k = bd ∨ k = bn ∨ k = bm) w ((w2.alloc (.cells Z 111)).drew.setCells bn (i * 64) CS) := by
    intro w2 hd hp
    have hne := hd.ne
    have hd' : Dev (w2.alloc (.cells Z 111)).drew bd bn bm s.counted := hd.later ((Below.refl _ _).alloc (Nat.le_refl _) _).drew
    have hpp : Part (fun k => k = bd ∨ k = bn ∨ k = bm) w ((w2.alloc (.cells Z 111)).drew.setCells bn (i * 64) CS) := ((hp.mono (fun k _ e => .inl e)).alloc _).drew.setCells _ _ _ (.inr (.inl rfl))
    refine ⟨⟨h.ok.write hc i l hi hl, ?_, ?_, ?_⟩, hpp⟩
    · have := hd'.db.same (heap_setCells_far bn CS (i * 64) _ bd hne.1)
      simpa [DevS.write, hs, counted_now] using this
    · have := hd'.sr.put hd'.ok.rows i (by rw [counted_now]; exact hi) l hl
      rw [hCS]
      simpa [DevS.write, hs, counted_now] using this
    · have := hd'.dm.same (heap_setCells_far bn CS (i * 64) _ bm (fun e => hne.2.2 e.symm))
      have e1 : (s.write i l).old = s.counted.old := by
        rw [counted_old, write_old s i l hs]
        funext j
        unfold oldW
        split
        · rename_i e; rw [e, ho]
        · rfl
      have e2 : (s.write i l).ch = s.counted.ch := by simp [DevS.write, hs]
      rw [e1, e2]
      exact this
  clear hZ hCS
  generalize hN : s.now.length = N at *
  clear hv hvc hvb hmost hl
  go_enter Tryd.func73, Tryd.ntmps73
  go_wp2_with (first
    | (go_at_call 68; refine h1.mono ?_; rintro e w1 ⟨rfl, rfl⟩)
    | (go_at_call 69; refine h2.mono ?_; rintro e w1 ⟨rfl, rfl⟩)
    | (go_at_call 86; refine h3.mono ?_; rintro e w2 ⟨rfl, hd2, hp2⟩; have hlk := hlook w2 hd2; have hc1 := hd2.db.cells.2.1; have hF := hfin w2 hd2 hp2; have hR0 := hrng w2 hp2))
  have hd3 : Dev (w2.alloc (.cells Z 111)) bd bn bm s.counted := hd2.later ((Below.refl _ _).alloc (Nat.le_refl _) _)
  have hc0 := hd3.db.cells.1
  rw [counted_now, counted_cap, hN] at hc0
  generalize s.cap = CP at hc0
  have hth := hd3.sr.there hd3.ok.rows i (by rw [counted_now, hN]; exact hi)
  have hR := World.rangeAt_alloc hR0 (.cells Z 111)
  clear hd2 hd3 hfin hrng hR0 hlook hst hlk hc1 h h1 h2 h3 hp2 hN hc hi
  generalize w2.alloc (.cells Z 111) = W at *
  have hS2 : (W.drew.setCells bn (i * 64) CS).cell? ⟨bd, 0, none⟩ = some (.slice (some ⟨bn, 0, none⟩) N CP) ∧ (W.drew.setCells bn (i * 64) CS).rangeAt vb vo CS ∧ (W.drew.setCells bn (i * 64) CS).there bn (i * 64) 64 :=
    ⟨by rw [World.cell?_setCells_out bn CS (i * 64) W.drew ⟨bd, 0, none⟩ (fun e _ => absurd e hbn)]; simpa using hc0, World.rangeAt_setCells_apart (by simpa using hR) _ _ _ (.inl hvn2), World.there_setCells (by simpa using hth) _ _ _⟩
  have hat := array_at ⟨vb, vo, none⟩ c
  go_region_held3 (fun w' => w'.cell? ⟨bd, 0, none⟩ = some (.slice (some ⟨bn, 0, none⟩) N CP) ∧ w'.rangeAt vb vo CS ∧ w'.there bn (i * 64) 64) (first | exact ⟨hc0, hR, hth⟩ | exact hS2 | (go_split_ands; refine ⟨by go_keep, ?_, ?_⟩ <;> first | assumption | (apply World.there_setCells; assumption))) (fail)
  go_wp2
  go_ret
  exact ⟨rfl, hF⟩

end Go.Proofs.YtcjcombobcmpgaaDoor

namespace Go.Proofs.YtcjcombobcmpgaaDoor
open Go.RowKit Go.Maps

set_option maxRecDepth 100000 in
set_option maxHeartbeats 1600000 in
theorem write_new {bd bn bm : Nat} {s : DevS} {w : World} (h : Dev w bd bn bm s) (i : Nat) (v : Value) (l : List UInt8) (hv : HB w v l) (hi : i < s.now.length) (hl : l.length = 64) (hc : s.ch + 1 ≤ 1099511627776) (hs : s.stops = false) (ho : s.old i = none)
    (hvb : ∀ a n c, v = .slice (some a) n c → a.block ≠ bd ∧ a.block ≠ bn) :
    Calls Tryd.prog 73 #[.pointer (some ⟨bd, 0, none⟩), .int .i64 (i : Int), v] w fun e w' => e = .returned (.int .i64 0) ∧ Dev w' bd bn bm (s.write i l) ∧ Part (fun k => k = bd ∨ k = bn ∨ k = bm) w w' := by
  have h1 := miss_no h
  have h2 := has_any h (i : Int)
  have h3 := change_any h hc
  rw [show s.err = 0 by simp [DevS.err, hs]] at h3
  have hmost := h.ok.most
  obtain ⟨p, c, rfl⟩ := hv.shape
  rw [decide_eq_true (by omega)] at h2
  rw [hl]
  obtain ⟨Z, hZ⟩ : ∃ Z : Array Value, Z = (bcs (List.replicate 64 0)).toArray := ⟨_, rfl⟩
  have hlook : ∀ w2, Dev w2 bd bn bm s.counted → (Instr.lookup 42 (.map (some bm)) (.int .i64 (i : Int)) true).run Tryd.prog w2 = .ok (.tuple #[.agg Z, .bool false]) w2 := by
    intro w2 hd
    have := hd.dm.look_ok i (by omega)
    rw [counted_old, ho] at this
    rw [this, hZ]
    rfl
  have hZs : Z.size = 64 := by rw [hZ]; rfl
  have hst : ∀ (w3 : World) (cs : Array Value), cs.size = 64 → (storeCells ⟨w3.heap.size, 0, none⟩ Z.toList 0).run Tryd.prog (w3.alloc (.cells cs 111)) = .ok () (w3.alloc (.cells Z 111)) := fun w3 cs hcs =>
    run_storeCells_new w3 111 cs Z (by rw [s_sec, hZs]) (by rw [hcs, hZs]) (by rw [hZ]; exact secV_one _)
  obtain ⟨vb, vo, rfl, hvc⟩ := hv.addr (by omega)
  have hvn : vb ≠ bd := (hvb _ _ _ rfl).1
  have hvn2 : vb ≠ bn := (hvb _ _ _ rfl).2
  have hne := h.ne
  have hbn : bd ≠ bn := hne.1
  have hvm : vb ≠ bm := by
    rintro rfl
    obtain ⟨D, ⟨es, clock, hh, _⟩, _⟩ := h.dm
    have := hvc 0 _ (List.getElem?_eq_getElem (by omega))
    simp [World.cell?, hh] at this
  have hi0 : (0 : Int) ≤ (i : Int) := Int.natCast_nonneg _
  have hi1 : (i : Int) < (s.now.length : Int) := by omega
  have hu := Tryd.underlying111
  obtain ⟨CS, hCS⟩ : ∃ CS, CS = bcs l := ⟨_, rfl⟩
  have hCl : CS.length = 64 := by rw [hCS, bcs_length, hl]
  have hC1 : ∀ v ∈ CS, v.oneCell' = true := by rw [hCS]; exact bcs_one l
  have hsz : (Tryd.prog.info? 111).map (·.size) = some CS.length := by rw [hCl]; exact s_sec
  obtain ⟨r, hr⟩ : ∃ r, s.now[i]? = some r := ⟨_, List.getElem?_eq_getElem hi⟩
  obtain ⟨CO, hCO⟩ : ∃ CO, CO = bcs r := ⟨_, rfl⟩
  have hOl : CO.length = 64 := by rw [hCO, bcs_length, h.ok.rows r (List.mem_of_getElem? hr)]
  have hO1 : ∀ v ∈ CO, v.oneCell' = true := by rw [hCO]; exact bcs_one r
  have hsz2 : (Tryd.prog.info? 111).map (·.size) = some CO.length := by rw [hOl]; exact s_sec
  have hrng : ∀ w2, Part (fun k => k = bd) w w2 → w2.rangeAt vb vo CS := by
    intro w2 hp j x hx
    rw [hCS, bcs_get] at hx
    obtain ⟨y, hy, rfl⟩ := Option.map_eq_some_iff.1 hx
    have hcell := hvc j y hy
    rw [World.cell?_of_block (w := w) (hp.2 vb (World.block_lt_of_cell? w _ hcell) hvn)]
    exact hcell
  have hrng2 : ∀ w2, Dev w2 bd bn bm s.counted → w2.rangeAt bn (i * 64) CO := by
    intro w2 hd
    rw [hCO]
    exact hd.sr.range hd.ok.rows i r (by rw [counted_now]; exact hr)
  have hupd : ∀ w2, Dev w2 bd bn bm s.counted → Part (fun k => k = bd) w w2 → ∃ W1, (Instr.mapUpdate 42 (.map (some bm)) (.int .i64 (i : Int)) (.agg CO.toArray)).run Tryd.prog (w2.alloc (.cells Z 111)).drew = .ok () W1 ∧ DM W1 bm (s.ch + 1) (fun j => if j = i then some r else s.old j) ∧ (w2.alloc (.cells Z 111)).drew.grownBy W1 (some bm) := by
    intro w2 hd hp
    rw [hCO]
    have hm := h.dm.same (hp.2 bm h.dm.lt (fun e => hne.2.1 e.symm))
    have hm2 : DM (w2.alloc (.cells Z 111)).drew bm s.ch s.old := hm.same (Below.heap_alloc w2 _ bm hm.lt)
    exact hm2.store i (by omega) (by unfold maxLen; omega) r
  have hfin : ∀ w2 W1, Dev w2 bd bn bm s.counted → Part (fun k => k = bd) w w2 → DM W1 bm (s.ch + 1) (fun j => if j = i then some r else s.old j) → (w2.alloc (.cells Z 111)).drew.grownBy W1 (some bm) → Dev (W1.drew.setCells bn (i * 64) CS) bd bn bm (s.write i l) ∧ Part (fun k => k = bd ∨ k = bn ∨ k = bm) w (W1.drew.setCells bn (i * 64) CS) := by
    intro w2 W1 hd hp hm hg
    have hd' : Dev (w2.alloc (.cells Z 111)).drew bd bn bm s.counted := hd.later ((Below.refl _ _).alloc (Nat.le_refl _) _).drew
    have hpp : Part (fun k => k = bd ∨ k = bn ∨ k = bm) w (W1.drew.setCells bn (i * 64) CS) := ((((hp.mono (fun k _ e => .inl e)).alloc _).drew.grown hg (fun b e => by cases e; exact .inr (.inr rfl))).drew).setCells _ _ _ (.inr (.inl rfl))
    have hdb1 := hd'.db.same (w' := W1) (hg.block bd hd'.db.lt (fun e => by cases e; exact hne.2.1 rfl))
    have hsr1 := hd'.sr.same (w' := W1) (hg.block bn hd'.sr.lt (fun e => by cases e; exact hne.2.2 rfl))
    refine ⟨⟨h.ok.write hc i l hi hl, ?_, ?_, ?_⟩, hpp⟩
    · have := hdb1.same (heap_setCells_far bn CS (i * 64) W1.drew bd hne.1)
      simpa [DevS.write, hs, counted_now] using this
    · have := (hsr1.same (w' := W1.drew) rfl).put hd'.ok.rows i (by rw [counted_now]; exact hi) l hl
      rw [hCS]
      simpa [DevS.write, hs, counted_now] using this
    · have := hm.same (heap_setCells_far bn CS (i * 64) W1.drew bm (fun e => hne.2.2 e.symm))
      have e1 : (s.write i l).old = fun j => if j = i then some r else s.old j := by
        rw [write_old s i l hs]
        funext j
        unfold oldW
        rw [ho]
        simp only [hr]
      have e2 : (s.write i l).ch = s.ch + 1 := by simp [DevS.write, hs, DevS.counted]
      rw [e1, e2]
      exact this
  clear hZ hCS hCO
  generalize hN : s.now.length = N at *
  clear hv hvc hvb hmost hl
  go_enter Tryd.func73, Tryd.ntmps73
  go_wp2_with (first
    | (go_at_call 68; refine h1.mono ?_; rintro e w1 ⟨rfl, rfl⟩)
    | (go_at_call 69; refine h2.mono ?_; rintro e w1 ⟨rfl, rfl⟩)
    | (go_at_call 86; refine h3.mono ?_; rintro e w2 ⟨rfl, hd2, hp2⟩; have hlk := hlook w2 hd2; have hc1 := hd2.db.cells.2.1))
  have hd3 : Dev (w2.alloc (.cells Z 111)) bd bn bm s.counted := hd2.later ((Below.refl _ _).alloc (Nat.le_refl _) _)
  have hc0 := hd3.db.cells.1
  have hc1' := hd3.db.cells.2.1
  rw [counted_now, counted_cap, hN] at hc0
  generalize s.cap = CP at hc0
  have hth := hd3.sr.there hd3.ok.rows i (by rw [counted_now, hN]; exact hi)
  have hR := World.rangeAt_alloc (hrng w2 hp2) (.cells Z 111)
  have hR2 := hrng2 _ hd3
  obtain ⟨W1, hU, hdm1, hg1⟩ := hupd w2 hd2 hp2
  have hF := hfin w2 W1 hd2 hp2 hdm1 hg1
  have hlb := hd3.db.lt
  have hln := hd3.sr.lt
  clear hd2 hd3 hfin hrng hrng2 hupd hlook hst hlk hc1 h h1 h2 h3 hp2 hN hc hi hdm1
  generalize w2.alloc (.cells Z 111) = W at *
  have g0 : W1.cell? ⟨bd, 0, none⟩ = some (.slice (some ⟨bn, 0, none⟩) N CP) := by
    rw [World.cell?_of_block (w := W.drew) (hg1.block bd hlb (fun e => by cases e; exact hne.2.1 rfl))]; simpa using hc0
  have g1 : W1.cell? ⟨bd, 1, none⟩ = some (.map (some bm)) := by
    rw [World.cell?_of_block (w := W.drew) (hg1.block bd hlb (fun e => by cases e; exact hne.2.1 rfl))]; simpa using hc1'
  have gb : W1.heap[bn]? = W.heap[bn]? := hg1.block bn hln (fun e => by cases e; exact hne.2.2 rfl)
  have gR2 : W1.rangeAt bn (i * 64) CO := fun j x hx => by rw [World.cell?_of_block (w := W) gb]; exact hR2 j x hx
  have gth : W1.there bn (i * 64) 64 := fun j hj => by
    have := hth j hj
    refine ⟨by rw [World.cell?_of_block (w := W) gb]; exact this.1, ?_⟩
    have e := this.2
    simp only [World.frozen?] at e ⊢
    rw [gb]; exact e
  have gR : W1.rangeAt vb vo CS := fun j x hx => by
    have hcell := hR j x hx
    rw [World.cell?_of_block (w := W.drew) (hg1.block vb (World.block_lt_of_cell? W _ hcell) (fun e => by cases e; exact hvm rfl))]
    simpa using hcell
  go_region_held3 (fun w' => w'.cell? ⟨bd, 0, none⟩ = some (.slice (some ⟨bn, 0, none⟩) N CP) ∧ w'.cell? ⟨bd, 1, none⟩ = some (.map (some bm)) ∧ w'.rangeAt bn (i * 64) CO) (first | exact ⟨hc0, hc1', hR2⟩ | exact ⟨g0, g1, gR2⟩) (fail)
  go_wp2
  have hS2 : (W1.drew.setCells bn (i * 64) CS).cell? ⟨bd, 0, none⟩ = some (.slice (some ⟨bn, 0, none⟩) N CP) ∧ (W1.drew.setCells bn (i * 64) CS).rangeAt vb vo CS ∧ (W1.drew.setCells bn (i * 64) CS).there bn (i * 64) 64 :=
    ⟨by rw [World.cell?_setCells_out bn CS (i * 64) W1.drew ⟨bd, 0, none⟩ (fun e _ => absurd e hbn)]; simpa using g0, World.rangeAt_setCells_apart (by simpa using gR) _ _ _ (.inl hvn2), World.there_setCells (by simpa using gth) _ _ _⟩
  have hat := array_at ⟨vb, vo, none⟩ c
  go_region_held3 (fun w' => w'.cell? ⟨bd, 0, none⟩ = some (.slice (some ⟨bn, 0, none⟩) N CP) ∧ w'.rangeAt vb vo CS ∧ w'.there bn (i * 64) 64) (first | exact ⟨g0, gR, gth⟩ | exact hS2 | (go_split_ands; refine ⟨by go_keep, ?_, ?_⟩ <;> first | assumption | (apply World.there_setCells; assumption))) (fail)
  go_wp2
  go_ret
  exact ⟨rfl, hF⟩

/-- Write, whatever is written: the error, and what the device has behind it. -/
theorem write_any {bd bn bm : Nat} {s : DevS} {w : World} (h : Dev w bd bn bm s) (i : Nat) (v : Value) (l : List UInt8) (hv : HB w v l) (hi : i < s.now.length) (hl : l.length = 64) (hc : s.ch + 1 ≤ 1099511627776)
    (hvb : ∀ a n c, v = .slice (some a) n c → a.block ≠ bd ∧ a.block ≠ bn) :
    Calls Tryd.prog 73 #[.pointer (some ⟨bd, 0, none⟩), .int .i64 (i : Int), v] w fun e w' => e = .returned (.int .i64 s.err) ∧ Dev w' bd bn bm (s.write i l) ∧ Part (fun k => k = bd ∨ k = bn ∨ k = bm) w w' := by
  cases hs : s.stops
  · rw [show s.err = 0 by simp [DevS.err, hs]]
    cases ho : s.old i with
    | none => exact write_new h i v l hv hi hl hc hs ho hvb
    | some o => exact write_wait h i v l hv hi hl hc hs o ho hvb
  · rw [show s.err = 70 by simp [DevS.err, hs], show s.write i l = s.counted by simp [DevS.write, hs]]
    exact (write_stop h (i : Int) v l hv ⟨by omega, by omega⟩ hl hc hs).mono fun e w' ⟨he, hd, hp⟩ => ⟨he, hd, hp.mono (fun k _ e => .inl e)⟩

end Go.Proofs.YtcjcombobcmpgaaDoor
