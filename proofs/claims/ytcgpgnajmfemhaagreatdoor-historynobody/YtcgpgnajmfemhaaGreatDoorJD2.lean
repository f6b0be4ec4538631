/- What this text proves: the walk of a device's Write over this program. What this text proves: the walk of a device's Write, that goes through, over this program. What this text proves: the walk of a device's Write to a sector that does not wait, over this program. What this text proves: the walks of a device's New, made, bytesOf and Read over this program. What this text proves: the walks of bytesOf and Read over this program. What this text proves: the walk of a device's Image over this program (as XDImage has it, beside no document's device). -/
import Derived.Test.YtcgpgnajmfemhaaGreatDoorJD1
import Derived.Deep.RegionHeld3
namespace Go.Proofs.YtcgpgnajmfemhaaGreatDoor
open Go.RowKit Go.Maps

set_option maxRecDepth 100000 in
set_option maxHeartbeats 400000 in
theorem write_arg {bd bn bm : Nat} {s : DevS} {w : World} (h : Dev w bd bn bm s) (i : Int) (v : Value) (l : List UInt8) (hv : HB w v l) (hbad : ¬ (0 ≤ i ∧ i < (s.now.length : Int)) ∨ l.length ≠ 64) : Calls Tryz.prog 156 #[.pointer (some ⟨bd, 0, none⟩), .int .i64 i, v] w fun e w' => e = .returned (.int .i64 1) ∧ w' = w := by
  have h1 := miss_no h
  have h2 := has_any h i
  obtain ⟨p, c, rfl⟩ := hv.shape
  by_cases hi : 0 ≤ i ∧ i < (s.now.length : Int)
  · have hl : ¬ (l.length : Int) = 64 := by
      rcases hbad with h | h
      · exact absurd hi h
      · omega
    rw [decide_eq_true hi] at h2
    clear h hv hbad hi
    go_enter Tryz.func156, Tryz.ntmps156
    go_wp2_with (first
      | (go_at_call 151; refine h1.mono ?_; rintro e w1 ⟨rfl, rfl⟩)
      | (go_at_call 152; refine h2.mono ?_; rintro e w1 ⟨rfl, rfl⟩))
    go_ret
    exact ⟨rfl, rfl⟩
  · rw [decide_eq_false hi] at h2
    clear h hv hbad hi
    go_enter Tryz.func156, Tryz.ntmps156
    go_wp2_with (first
      | (go_at_call 151; refine h1.mono ?_; rintro e w1 ⟨rfl, rfl⟩)
      | (go_at_call 152; refine h2.mono ?_; rintro e w1 ⟨rfl, rfl⟩))
    go_ret
    exact ⟨rfl, rfl⟩

set_option maxRecDepth 100000 in
set_option maxHeartbeats 400000 in
theorem write_stop {bd bn bm : Nat} {s : DevS} {w : World} (h : Dev w bd bn bm s) (i : Int) (v : Value) (l : List UInt8) (hv : HB w v l) (hi : 0 ≤ i ∧ i < (s.now.length : Int)) (hl : l.length = 64) (hc : s.ch + 1 ≤ 1099511627776) (hs : s.stops = true) :
    Calls Tryz.prog 156 #[.pointer (some ⟨bd, 0, none⟩), .int .i64 i, v] w fun e w' => e = .returned (.int .i64 70) ∧ Dev w' bd bn bm s.counted ∧ Part (fun k => k = bd) w w' := by
  have h1 := miss_no h
  have h2 := has_any h i
  have h3 := change_any h hc
  rw [show s.err = 70 by simp [DevS.err, hs]] at h3
  obtain ⟨p, c, rfl⟩ := hv.shape
  rw [hl]
  rw [decide_eq_true hi] at h2
  clear h hv hi hl
  go_enter Tryz.func156, Tryz.ntmps156
  go_wp2_with (first
    | (go_at_call 151; refine h1.mono ?_; rintro e w1 ⟨rfl, rfl⟩)
    | (go_at_call 152; refine h2.mono ?_; rintro e w1 ⟨rfl, rfl⟩)
    | (go_at_call 193; refine h3.mono ?_; rintro e w2 ⟨rfl, hd2, hp2⟩))
  go_ret
  exact ⟨rfl, hd2, hp2⟩

end Go.Proofs.YtcgpgnajmfemhaaGreatDoor

namespace Go.Proofs.YtcgpgnajmfemhaaGreatDoor
open Go.RowKit Go.Maps

theorem secV_one (l : List UInt8) : ((bcs l).toArray).all (·.oneCell') = true := Go.all_oneCell_toArray (bcs_one l)

theorem write_old (s : DevS) (i : Nat) (l : List UInt8) (hs : s.stops = false) : (s.write i l).old = oldW s i := by simp [DevS.write, hs]
theorem array_at (a : Addr) (c : Nat) (w : World) : (Instr.arrayAt 214 (.slice (some a) 64 c)).run Tryz.prog w = .ok (.pointer (some a)) w := by
  simp [Instr.arrayAt, Sem.run_bind, run_underlying Tryz.underlying214 w, Result.andThen]

set_option maxRecDepth 100000 in
set_option maxHeartbeats 1600000 in
theorem write_wait {bd bn bm : Nat} {s : DevS} {w : World} (h : Dev w bd bn bm s) (i : Nat) (v : Value) (l : List UInt8) (hv : HB w v l) (hi : i < s.now.length) (hl : l.length = 64) (hc : s.ch + 1 ≤ 1099511627776) (hs : s.stops = false) (o : List UInt8) (ho : s.old i = some o)
    (hvb : ∀ a n c, v = .slice (some a) n c → a.block ≠ bd ∧ a.block ≠ bn) :
    Calls Tryz.prog 156 #[.pointer (some ⟨bd, 0, none⟩), .int .i64 (i : Int), v] w fun e w' => e = .returned (.int .i64 0) ∧ Dev w' bd bn bm (s.write i l) ∧ Part (fun k => k = bd ∨ k = bn ∨ k = bm) w w' := by
  have h1 := miss_no h
  have h2 := has_any h (i : Int)
  have h3 := change_any h hc
  rw [show s.err = 0 by simp [DevS.err, hs]] at h3
  have hmost := h.ok.most
  obtain ⟨p, c, rfl⟩ := hv.shape
  rw [decide_eq_true (by omega)] at h2
  rw [hl]
  obtain ⟨Z, hZ⟩ : ∃ Z : Array Value, Z = (bcs o).toArray := ⟨_, rfl⟩
  have hlook : ∀ w2, Dev w2 bd bn bm s.counted → (Instr.lookup 195 (.map (some bm)) (.int .i64 (i : Int)) true).run Tryz.prog w2 = .ok (.tuple #[.agg Z, .bool true]) w2 := by
    intro w2 hd
    have := hd.dm.look_ok i (by omega)
    rw [counted_old, ho] at this
    rw [this, hZ]
    rfl
  have hZs : Z.size = 64 := by rw [hZ]; simp [bcs_length, (h.ok.olds i o ho).2]
  have hst : ∀ (w3 : World) (cs : Array Value), cs.size = 64 → (storeCells ⟨w3.heap.size, 0, none⟩ Z.toList 0).run Tryz.prog (w3.alloc (.cells cs 214)) = .ok () (w3.alloc (.cells Z 214)) := fun w3 cs hcs =>
    run_storeCells_new w3 214 cs Z (by rw [s_sec, hZs]) (by rw [hcs, hZs]) (by rw [hZ]; exact secV_one o)
  obtain ⟨vb, vo, rfl, hvc⟩ := hv.addr (by omega)
  have hvn : vb ≠ bd := (hvb _ _ _ rfl).1
  have hvn2 : vb ≠ bn := (hvb _ _ _ rfl).2
  have hbn : bd ≠ bn := h.ne.1
  have hi0 : (0 : Int) ≤ (i : Int) := Int.natCast_nonneg _
  have hi1 : (i : Int) < (s.now.length : Int) := by omega
  have hu := Tryz.underlying214
  obtain ⟨CS, hCS⟩ : ∃ CS, CS = bcs l := ⟨_, rfl⟩
  have hCl : CS.length = 64 := by rw [hCS, bcs_length, hl]
  have hC1 : ∀ v ∈ CS, v.oneCell' = true := by rw [hCS]; exact bcs_one l
  have hsz : (Tryz.prog.info? 214).map (·.size) = some CS.length := by rw [hCl]; exact s_sec
  have hrng : ∀ w2, Part (fun k => k = bd) w w2 → w2.rangeAt vb vo CS := by
    intro w2 hp j x hx
    rw [hCS, bcs_get] at hx
    obtain ⟨y, hy, rfl⟩ := Option.map_eq_some_iff.1 hx
    have hcell := hvc j y hy
    rw [World.cell?_of_block (w := w) (hp.2 vb (World.block_lt_of_cell? w _ hcell) hvn)]
    exact hcell
  have hfin : ∀ w2, Dev w2 bd bn bm s.counted → Part (fun k => k = bd) w w2 → Dev ((w2.alloc (.cells Z 214)).drew.setCells bn (i * 64) CS) bd bn bm (s.write i l) ∧ Part (fun k => k = bd ∨ k = bn ∨ k = bm) w ((w2.alloc (.cells Z 214)).drew.setCells bn (i * 64) CS) := by
    intro w2 hd hp
    have hne := hd.ne
    have hd' : Dev (w2.alloc (.cells Z 214)).drew bd bn bm s.counted := hd.later ((Below.refl _ _).alloc (Nat.le_refl _) _).drew
    have hpp : Part (fun k => k = bd ∨ k = bn ∨ k = bm) w ((w2.alloc (.cells Z 214)).drew.setCells bn (i * 64) CS) := ((hp.mono (fun k _ e => .inl e)).alloc _).drew.setCells _ _ _ (.inr (.inl rfl))
    refine ⟨⟨h.ok.write hc i l hi hl, ?_, ?_, ?_⟩, hpp⟩
    · have := hd'.db.same (heap_setCells_far bn CS (i * 64) _ bd hne.1)
      simpa [DevS.write, hs, counted_now] using this
    · have := hd'.sr.put hd'.ok.rows i (by rw [counted_now]; exact hi) l hl
      rw [hCS]
      simpa [DevS.write, hs, counted_now] using this
    · have := hd'.dm.same (heap_setCells_far bn CS (i * 64) _ bm (fun e => hne.2.2 e.symm))
      have e1 : (s.write i l).old = s.counted.old := by
        rw [counted_old, write_old s i l hs]
        funext j
        unfold oldW
        split
        · rename_i e; rw [e, ho]
        · rfl
      have e2 : (s.write i l).ch = s.counted.ch := by simp [DevS.write, hs]
      rw [e1, e2]
      exact this
  clear hZ hCS
  generalize hN : s.now.length = N at *
  clear hv hvc hvb hmost hl
  go_enter Tryz.func156, Tryz.ntmps156
  go_wp2_with (first
    | (go_at_call 151; refine h1.mono ?_; rintro e w1 ⟨rfl, rfl⟩)
    | (go_at_call 152; refine h2.mono ?_; rintro e w1 ⟨rfl, rfl⟩)
    | (go_at_call 193; refine h3.mono ?_; rintro e w2 ⟨rfl, hd2, hp2⟩; have hlk := hlook w2 hd2; have hc1 := hd2.db.cells.2.1; have hF := hfin w2 hd2 hp2; have hR0 := hrng w2 hp2))
  have hd3 : Dev (w2.alloc (.cells Z 214)) bd bn bm s.counted := hd2.later ((Below.refl _ _).alloc (Nat.le_refl _) _)
  have hc0 := hd3.db.cells.1
  rw [counted_now, counted_cap, hN] at hc0
  generalize s.cap = CP at hc0
  have hth := hd3.sr.there hd3.ok.rows i (by rw [counted_now, hN]; exact hi)
  have hR := World.rangeAt_alloc hR0 (.cells Z 214)
  clear hd2 hd3 hfin hrng hR0 hlook hst hlk hc1 h h1 h2 h3 hp2 hN hc hi
  generalize w2.alloc (.cells Z 214) = W at *
  have hS2 : (W.drew.setCells bn (i * 64) CS).cell? ⟨bd, 0, none⟩ = some (.slice (some ⟨bn, 0, none⟩) N CP) ∧ (W.drew.setCells bn (i * 64) CS).rangeAt vb vo CS ∧ (W.drew.setCells bn (i * 64) CS).there bn (i * 64) 64 :=
    ⟨by rw [World.cell?_setCells_out bn CS (i * 64) W.drew ⟨bd, 0, none⟩ (fun e _ => absurd e hbn)]; simpa using hc0, World.rangeAt_setCells_apart (by simpa using hR) _ _ _ (.inl hvn2), World.there_setCells (by simpa using hth) _ _ _⟩
  have hat := array_at ⟨vb, vo, none⟩ c
  go_region_held3 (fun w' => w'.cell? ⟨bd, 0, none⟩ = some (.slice (some ⟨bn, 0, none⟩) N CP) ∧ w'.rangeAt vb vo CS ∧ w'.there bn (i * 64) 64) (first | exact ⟨hc0, hR, hth⟩ | exact hS2 | (go_split_ands; refine ⟨by go_keep, ?_, ?_⟩ <;> first | assumption | (apply World.there_setCells; assumption))) (fail)
  go_wp2
  go_ret
  exact ⟨rfl, hF⟩

end Go.Proofs.YtcgpgnajmfemhaaGreatDoor

namespace Go.Proofs.YtcgpgnajmfemhaaGreatDoor
open Go.RowKit Go.Maps

set_option maxRecDepth 100000 in
set_option maxHeartbeats 1600000 in
theorem write_new {bd bn bm : Nat} {s : DevS} {w : World} (h : Dev w bd bn bm s) (i : Nat) (v : Value) (l : List UInt8) (hv : HB w v l) (hi : i < s.now.length) (hl : l.length = 64) (hc : s.ch + 1 ≤ 1099511627776) (hs : s.stops = false) (ho : s.old i = none)
    (hvb : ∀ a n c, v = .slice (some a) n c → a.block ≠ bd ∧ a.block ≠ bn) :
    Calls Tryz.prog 156 #[.pointer (some ⟨bd, 0, none⟩), .int .i64 (i : Int), v] w fun e w' => e = .returned (.int .i64 0) ∧ Dev w' bd bn bm (s.write i l) ∧ Part (fun k => k = bd ∨ k = bn ∨ k = bm) w w' := by
  have h1 := miss_no h
  have h2 := has_any h (i : Int)
  have h3 := change_any h hc
  rw [show s.err = 0 by simp [DevS.err, hs]] at h3
  have hmost := h.ok.most
  obtain ⟨p, c, rfl⟩ := hv.shape
  rw [decide_eq_true (by omega)] at h2
  rw [hl]
  obtain ⟨Z, hZ⟩ : ∃ Z : Array Value, Z = (bcs (List.replicate 64 0)).toArray := ⟨_, rfl⟩
  have hlook : ∀ w2, Dev w2 bd bn bm s.counted → (Instr.lookup 195 (.map (some bm)) (.int .i64 (i : Int)) true).run Tryz.prog w2 = .ok (.tuple #[.agg Z, .bool false]) w2 := by
    intro w2 hd
    have := hd.dm.look_ok i (by omega)
    rw [counted_old, ho] at this
    rw [this, hZ]
    rfl
  have hZs : Z.size = 64 := by rw [hZ]; rfl
  have hst : ∀ (w3 : World) (cs : Array Value), cs.size = 64 → (storeCells ⟨w3.heap.size, 0, none⟩ Z.toList 0).run Tryz.prog (w3.alloc (.cells cs 214)) = .ok () (w3.alloc (.cells Z 214)) := fun w3 cs hcs =>
    run_storeCells_new w3 214 cs Z (by rw [s_sec, hZs]) (by rw [hcs, hZs]) (by rw [hZ]; exact secV_one _)
  obtain ⟨vb, vo, rfl, hvc⟩ := hv.addr (by omega)
  have hvn : vb ≠ bd := (hvb _ _ _ rfl).1
  have hvn2 : vb ≠ bn := (hvb _ _ _ rfl).2
  have hne := h.ne
  have hbn : bd ≠ bn := hne.1
  have hvm : vb ≠ bm := by
    rintro rfl
    obtain ⟨D, ⟨es, clock, hh, _⟩, _⟩ := h.dm
    have := hvc 0 _ (List.getElem?_eq_getElem (by omega))
    simp [World.cell?, hh] at this
  have hi0 : (0 : Int) ≤ (i : Int) := Int.natCast_nonneg _
  have hi1 : (i : Int) < (s.now.length : Int) := by omega
  have hu := Tryz.underlying214
  obtain ⟨CS, hCS⟩ : ∃ CS, CS = bcs l := ⟨_, rfl⟩
  have hCl : CS.length = 64 := by rw [hCS, bcs_length, hl]
  have hC1 : ∀ v ∈ CS, v.oneCell' = true := by rw [hCS]; exact bcs_one l
  have hsz : (Tryz.prog.info? 214).map (·.size) = some CS.length := by rw [hCl]; exact s_sec
  obtain ⟨r, hr⟩ : ∃ r, s.now[i]? = some r := ⟨_, List.getElem?_eq_getElem hi⟩
  obtain ⟨CO, hCO⟩ : ∃ CO, CO = bcs r := ⟨_, rfl⟩
  have hOl : CO.length = 64 := by rw [hCO, bcs_length, h.ok.rows r (List.mem_of_getElem? hr)]
  have hO1 : ∀ v ∈ CO, v.oneCell' = true := by rw [hCO]; exact bcs_one r
  have hsz2 : (Tryz.prog.info? 214).map (·.size) = some CO.length := by rw [hOl]; exact s_sec
  have hrng : ∀ w2, Part (fun k => k = bd) w w2 → w2.rangeAt vb vo CS := by
    intro w2 hp j x hx
    rw [hCS, bcs_get] at hx
    obtain ⟨y, hy, rfl⟩ := Option.map_eq_some_iff.1 hx
    have hcell := hvc j y hy
    rw [World.cell?_of_block (w := w) (hp.2 vb (World.block_lt_of_cell? w _ hcell) hvn)]
    exact hcell
  have hrng2 : ∀ w2, Dev w2 bd bn bm s.counted → w2.rangeAt bn (i * 64) CO := by
    intro w2 hd
    rw [hCO]
    exact hd.sr.range hd.ok.rows i r (by rw [counted_now]; exact hr)
  have hupd : ∀ w2, Dev w2 bd bn bm s.counted → Part (fun k => k = bd) w w2 → ∃ W1, (Instr.mapUpdate 195 (.map (some bm)) (.int .i64 (i : Int)) (.agg CO.toArray)).run Tryz.prog (w2.alloc (.cells Z 214)).drew = .ok () W1 ∧ DM W1 bm (s.ch + 1) (fun j => if j = i then some r else s.old j) ∧ (w2.alloc (.cells Z 214)).drew.grownBy W1 (some bm) := by
    intro w2 hd hp
    rw [hCO]
    have hm := h.dm.same (hp.2 bm h.dm.lt (fun e => hne.2.1 e.symm))
    have hm2 : DM (w2.alloc (.cells Z 214)).drew bm s.ch s.old := hm.same (Below.heap_alloc w2 _ bm hm.lt)
    exact hm2.store i (by omega) (by unfold maxLen; omega) r
  have hfin : ∀ w2 W1, Dev w2 bd bn bm s.counted → Part (fun k => k = bd) w w2 → DM W1 bm (s.ch + 1) (fun j => if j = i then some r else s.old j) → (w2.alloc (.cells Z 214)).drew.grownBy W1 (some bm) → Dev (W1.drew.setCells bn (i * 64) CS) bd bn bm (s.write i l) ∧ Part (fun k => k = bd ∨ k = bn ∨ k = bm) w (W1.drew.setCells bn (i * 64) CS) := by
    intro w2 W1 hd hp hm hg
    have hd' : Dev (w2.alloc (.cells Z 214)).drew bd bn bm s.counted := hd.later ((Below.refl _ _).alloc (Nat.le_refl _) _).drew
    have hpp : Part (fun k => k = bd ∨ k = bn ∨ k = bm) w (W1.drew.setCells bn (i * 64) CS) := ((((hp.mono (fun k _ e => .inl e)).alloc _).drew.grown hg (fun b e => by cases e; exact .inr (.inr rfl))).drew).setCells _ _ _ (.inr (.inl rfl))
    have hdb1 := hd'.db.same (w' := W1) (hg.block bd hd'.db.lt (fun e => by cases e; exact hne.2.1 rfl))
    have hsr1 := hd'.sr.same (w' := W1) (hg.block bn hd'.sr.lt (fun e => by cases e; exact hne.2.2 rfl))
    refine ⟨⟨h.ok.write hc i l hi hl, ?_, ?_, ?_⟩, hpp⟩
    · have := hdb1.same (heap_setCells_far bn CS (i * 64) W1.drew bd hne.1)
      simpa [DevS.write, hs, counted_now] using this
    · have := (hsr1.same (w' := W1.drew) rfl).put hd'.ok.rows i (by rw [counted_now]; exact hi) l hl
      rw [hCS]
      simpa [DevS.write, hs, counted_now] using this
    · have := hm.same (heap_setCells_far bn CS (i * 64) W1.drew bm (fun e => hne.2.2 e.symm))
      have e1 : (s.write i l).old = fun j => if j = i then some r else s.old j := by
        rw [write_old s i l hs]
        funext j
        unfold oldW
        rw [ho]
        simp only [hr]
      have e2 : (s.write i l).ch = s.ch + 1 := by simp [DevS.write, hs, DevS.counted]
      rw [e1, e2]
      exact this
  clear hZ hCS hCO
  generalize hN : s.now.length = N at *
  clear hv hvc hvb hmost hl
  go_enter Tryz.func156, Tryz.ntmps156
  go_wp2_with (first
    | (go_at_call 151; refine h1.mono ?_; rintro e w1 ⟨rfl, rfl⟩)
    | (go_at_call 152; refine h2.mono ?_; rintro e w1 ⟨rfl, rfl⟩)
    | (go_at_call 193; refine h3.mono ?_; rintro e w2 ⟨rfl, hd2, hp2⟩; have hlk := hlook w2 hd2; have hc1 := hd2.db.cells.2.1))
  have hd3 : Dev (w2.alloc (.cells Z 214)) bd bn bm s.counted := hd2.later ((Below.refl _ _).alloc (Nat.le_refl _) _)
  have hc0 := hd3.db.cells.1
  have hc1' := hd3.db.cells.2.1
  rw [counted_now, counted_cap, hN] at hc0
  generalize s.cap = CP at hc0
  have hth := hd3.sr.there hd3.ok.rows i (by rw [counted_now, hN]; exact hi)
  have hR := World.rangeAt_alloc (hrng w2 hp2) (.cells Z 214)
  have hR2 := hrng2 _ hd3
  obtain ⟨W1, hU, hdm1, hg1⟩ := hupd w2 hd2 hp2
  have hF := hfin w2 W1 hd2 hp2 hdm1 hg1
  have hlb := hd3.db.lt
  have hln := hd3.sr.lt
  clear hd2 hd3 hfin hrng hrng2 hupd hlook hst hlk hc1 h h1 h2 h3 hp2 hN hc hi hdm1
  generalize w2.alloc (.cells Z 214) = W at *
  have g0 : W1.cell? ⟨bd, 0, none⟩ = some (.slice (some ⟨bn, 0, none⟩) N CP) := by
    rw [World.cell?_of_block (w := W.drew) (hg1.block bd hlb (fun e => by cases e; exact hne.2.1 rfl))]; simpa using hc0
  have g1 : W1.cell? ⟨bd, 1, none⟩ = some (.map (some bm)) := by
    rw [World.cell?_of_block (w := W.drew) (hg1.block bd hlb (fun e => by cases e; exact hne.2.1 rfl))]; simpa using hc1'
  have gb : W1.heap[bn]? = W.heap[bn]? := hg1.block bn hln (fun e => by cases e; exact hne.2.2 rfl)
  have gR2 : W1.rangeAt bn (i * 64) CO := fun j x hx => by rw [World.cell?_of_block (w := W) gb]; exact hR2 j x hx
  have gth : W1.there bn (i * 64) 64 := fun j hj => by
    have := hth j hj
    refine ⟨by rw [World.cell?_of_block (w := W) gb]; exact this.1, ?_⟩
    have e := this.2
    simp only [World.frozen?] at e ⊢
    rw [gb]; exact e
  have gR : W1.rangeAt vb vo CS := fun j x hx => by
    have hcell := hR j x hx
    rw [World.cell?_of_block (w := W.drew) (hg1.block vb (World.block_lt_of_cell? W _ hcell) (fun e => by cases e; exact hvm rfl))]
    simpa using hcell
  go_region_held3 (fun w' => w'.cell? ⟨bd, 0, none⟩ = some (.slice (some ⟨bn, 0, none⟩) N CP) ∧ w'.cell? ⟨bd, 1, none⟩ = some (.map (some bm)) ∧ w'.rangeAt bn (i * 64) CO) (first | exact ⟨hc0, hc1', hR2⟩ | exact ⟨g0, g1, gR2⟩) (fail)
  go_wp2
  have hS2 : (W1.drew.setCells bn (i * 64) CS).cell? ⟨bd, 0, none⟩ = some (.slice (some ⟨bn, 0, none⟩) N CP) ∧ (W1.drew.setCells bn (i * 64) CS).rangeAt vb vo CS ∧ (W1.drew.setCells bn (i * 64) CS).there bn (i * 64) 64 :=
    ⟨by rw [World.cell?_setCells_out bn CS (i * 64) W1.drew ⟨bd, 0, none⟩ (fun e _ => absurd e hbn)]; simpa using g0, World.rangeAt_setCells_apart (by simpa using gR) _ _ _ (.inl hvn2), World.there_setCells (by simpa using gth) _ _ _⟩
  have hat := array_at ⟨vb, vo, none⟩ c
  go_region_held3 (fun w' => w'.cell? ⟨bd, 0, none⟩ = some (.slice (some ⟨bn, 0, none⟩) N CP) ∧ w'.rangeAt vb vo CS ∧ w'.there bn (i * 64) 64) (first | exact ⟨g0, gR, gth⟩ | exact hS2 | (go_split_ands; refine ⟨by go_keep, ?_, ?_⟩ <;> first | assumption | (apply World.there_setCells; assumption))) (fail)
  go_wp2
  go_ret
  exact ⟨rfl, hF⟩

/-- Write, whatever is written: the error, and what the device has behind it. -/
theorem write_any {bd bn bm : Nat} {s : DevS} {w : World} (h : Dev w bd bn bm s) (i : Nat) (v : Value) (l : List UInt8) (hv : HB w v l) (hi : i < s.now.length) (hl : l.length = 64) (hc : s.ch + 1 ≤ 1099511627776)
    (hvb : ∀ a n c, v = .slice (some a) n c → a.block ≠ bd ∧ a.block ≠ bn) :
    Calls Tryz.prog 156 #[.pointer (some ⟨bd, 0, none⟩), .int .i64 (i : Int), v] w fun e w' => e = .returned (.int .i64 s.err) ∧ Dev w' bd bn bm (s.write i l) ∧ Part (fun k => k = bd ∨ k = bn ∨ k = bm) w w' := by
  cases hs : s.stops
  · rw [show s.err = 0 by simp [DevS.err, hs]]
    cases ho : s.old i with
    | none => exact write_new h i v l hv hi hl hc hs ho hvb
    | some o => exact write_wait h i v l hv hi hl hc hs o ho hvb
  · rw [show s.err = 70 by simp [DevS.err, hs], show s.write i l = s.counted by simp [DevS.write, hs]]
    exact (write_stop h (i : Int) v l hv ⟨by omega, by omega⟩ hl hc hs).mono fun e w' ⟨he, hd, hp⟩ => ⟨he, hd, hp.mono (fun k _ e => .inl e)⟩

end Go.Proofs.YtcgpgnajmfemhaaGreatDoor

namespace Go.Proofs.YtcgpgnajmfemhaaGreatDoor
open Go.RowKit Go.Maps

theorem i_secb : (Tryz.prog.info? 214).map (fun i => (i.zero, i.size, i.bytes)) = some (some (.agg (bcs (List.replicate 64 0)).toArray), 64, 64) := by kernel_rfl

/-- A sector of noughts. -/
def nulls : List UInt8 := List.replicate 64 0
theorem nulls_len : nulls.length = 64 := by simp only [nulls, List.length_replicate]
theorem nulls_get (j : Nat) (h : j < 64) : nulls[j]? = some 0 := by rw [nulls, List.getElem?_replicate, if_pos h]

def DevS.made (now : List (List UInt8)) : DevS := ⟨now, fun _ => none, -1, false, 0, now.length⟩
def DevS.new (n : Nat) : DevS := DevS.made (List.replicate n nulls)

theorem DevS.Ok.made (now : List (List UInt8)) (h1 : 1 ≤ now.length) (h2 : now.length ≤ 16384) (h3 : ∀ r ∈ now, r.length = 64) : (DevS.made now).Ok := ⟨h1, h2, h3, fun i l e => (by cases e), by simp [DevS.made], by simp [DevS.made], by simp [DevS.made]⟩

set_option maxRecDepth 100000 in
set_option maxHeartbeats 400000 in
theorem made_any (w : World) (bn : Nat) (now : List (List UInt8)) (h1 : 1 ≤ now.length) (h2 : now.length ≤ 16384) (h3 : ∀ r ∈ now, r.length = 64) (hsr : SR w bn now) :
    Calls Tryz.prog 78 #[.slice (some ⟨bn, 0, none⟩) now.length now.length] w fun e w' => e = .returned (.pointer (some ⟨w.heap.size + 1, 0, none⟩)) ∧ Dev w' (w.heap.size + 1) bn w.heap.size (DevS.made now) ∧ Below w.heap.size w w' := by
  have hmm := @run_makeMap Tryz.prog
  have hfin : Dev ((w.alloc (.map #[] 0)).alloc (.cells #[.slice (some ⟨bn, 0, none⟩) now.length now.length, .map (some w.heap.size), .int .i64 (-1), .bool false, .int .i64 0] 197)) (w.heap.size + 1) bn w.heap.size (DevS.made now) := by
    have hl := hsr.lt
    refine ⟨DevS.Ok.made now h1 h2 h3, ?_, ?_, ?_⟩
    · have := heap_alloc_new (w.alloc (.map #[] 0)) (.cells #[.slice (some ⟨bn, 0, none⟩) now.length now.length, .map (some w.heap.size), .int .i64 (-1), .bool false, .int .i64 0] 197)
      simpa [DB, DevS.made] using this
    · exact (hsr.same (Below.heap_alloc w (.map #[] 0) bn hl)).same (Below.heap_alloc _ _ bn (by simp; omega))
    · exact (DM.made w 0).same (Below.heap_alloc _ _ _ (by simp))
  have hbe : Below w.heap.size w ((w.alloc (.map #[] 0)).alloc (.cells #[.slice (some ⟨bn, 0, none⟩) now.length now.length, .map (some w.heap.size), .int .i64 (-1), .bool false, .int .i64 0] 197)) := ((Below.refl _ w).alloc (Nat.le_refl _) _).alloc (by simp) _
  clear hsr h1 h3
  go_enter Tryz.func78, Tryz.ntmps78
  go_wp2
  go_ret
  exact ⟨by simp, hfin, hbe⟩

theorem made_secs {w : World} {base g n : Nat} {Zc : Array Value} (hZ : Zc = (bcs nulls).toArray) (h : w.ownsRow base 214 64 (.slice (some ⟨g, 0, none⟩) n n) n (madeCells Zc (n * 64)).toList) : SR w g (List.replicate n nulls) := by
  obtain ⟨h1, h2⟩ := h
  rcases h2 with ⟨h0, _⟩ | ⟨g', cap, cur, he, hb, hg, hl, hm, hs, ht⟩
  · cases h0
  · simp only [Value.slice.injEq, Option.some.injEq, Addr.mk.injEq, and_true, true_and] at he
    obtain ⟨rfl, rfl⟩ := he
    rw [List.take_of_length_le (by simp [hs])] at ht
    suffices key : cur.toList = bcs (List.replicate n nulls).flatten by
      refine ⟨cur, hg, fun j x hx => ?_⟩
      rw [← Array.getElem?_toList, key, bcs_get, hx]
      rfl
    rw [ht]
    apply List.ext_getElem?
    intro j
    have hr : ∀ r ∈ List.replicate n nulls, r.length = 64 := fun r h => by rw [(List.mem_replicate.1 h).2]; exact nulls_len
    have hm : j % 64 < 64 := by omega
    have hj : j = j / 64 * 64 + j % 64 := by omega
    have hZs : Zc.size = 64 := by rw [hZ, List.size_toArray, bcs_length, nulls_len]
    have hZg : Zc[j % 64]? = some (bc 0) := by rw [hZ, List.getElem?_toArray, bcs_get, nulls_get _ hm]; rfl
    rw [bcs_get]
    conv => rhs; rw [hj]
    rw [flat_get _ hr _ _ hm, List.getElem?_replicate]
    by_cases hjn : j < n * 64
    · have h1 : j / 64 < n := by omega
      rw [if_pos h1]
      simp only [Option.bind_some, nulls_get _ hm, Option.map_some]
      simp only [madeCells, hZs, Array.getElem?_toList, Array.getElem?_map, Array.getElem?_range, hjn, if_true, Option.map_some]
      rw [getElem!_def, hZg]
    · have h1 : ¬ j / 64 < n := by omega
      rw [if_neg h1]
      simp [madeCells, hjn]

set_option maxRecDepth 100000 in
set_option maxHeartbeats 400000 in
theorem can_any (n : Int) (w : World) : Calls Tryz.prog 77 #[.int .i64 n] w fun e w' => e = .returned (.bool (decide (1 ≤ n ∧ n ≤ 16384))) ∧ w' = w := by
  by_cases h : 1 ≤ n
  · go_enter Tryz.func77, Tryz.ntmps77
    go_wp2
    go_ret
    exact ⟨by simp [h], rfl⟩
  · have h' : n < 1 := by omega
    go_enter Tryz.func77, Tryz.ntmps77
    go_wp2
    go_ret
    exact ⟨by simp; omega, rfl⟩

set_option maxRecDepth 100000 in
set_option maxHeartbeats 400000 in
theorem new_bad (n : Int) (w : World) (h : ¬ (1 ≤ n ∧ n ≤ 16384)) : Calls Tryz.prog 42 #[.int .i64 n] w fun e w' => e = .returned (.tuple #[.pointer none, .int .i64 1]) ∧ w' = w := by
  have h1 := can_any n w
  rw [decide_eq_false h] at h1
  clear h
  go_enter Tryz.func42, Tryz.ntmps42
  go_wp2_with (go_at_call 77; refine h1.mono ?_; rintro e w1 ⟨rfl, rfl⟩)
  go_ret2
  exact ⟨rfl, rfl⟩

set_option maxRecDepth 10000 in
set_option maxRecDepth 100000 in
set_option maxHeartbeats 400000 in
theorem new_any (n : Nat) (w : World) (h0 : 1 ≤ n) (hn : n ≤ 16384) : Calls Tryz.prog 42 #[.int .i64 (n : Int)] w fun e w' => ∃ bd bn bm, e = .returned (.tuple #[.pointer (some ⟨bd, 0, none⟩), .int .i64 0]) ∧ Dev w' bd bn bm (DevS.new n) ∧ w.heap.size ≤ bd ∧ w.heap.size ≤ bn ∧ w.heap.size ≤ bm ∧ Below w.heap.size w w' := by
  have h1 := can_any n w
  rw [decide_eq_true (by omega)] at h1
  obtain ⟨i0, hi, hz0, hz1, hz2⟩ := info_parts i_secb
  obtain ⟨Zc, hZc⟩ : ∃ Zc, Zc = (bcs nulls).toArray := ⟨_, rfl⟩
  have hz0' : i0.zero = some (.agg Zc) := by rw [hZc]; exact hz0
  have hmade := fun (w2 : World) (g : Nat) (hs : SR w2 g (List.replicate n nulls)) => made_any w2 g _ (by simpa using h0) (by simpa using hn) (fun r h => by rw [(List.mem_replicate.1 h).2]; exact nulls_len) hs
  simp only [List.length_replicate] at hmade
  have hmk := fun (w2 : World) (base g : Nat) (h : w2.ownsRow base 214 64 (.slice (some ⟨g, 0, none⟩) n n) n (madeCells Zc (n * 64)).toList) => hmade w2 g (made_secs hZc h)
  have hby : i0.bytes * n ≤ 281474976710656 := by rw [hz2]; omega
  clear hz0 hZc hmade
  go_enter Tryz.func42, Tryz.ntmps42
  go_wp2_with (first
    | (go_at_call 77; refine h1.mono ?_; rintro e w1 ⟨rfl, rfl⟩)
    | (at_make; refine wpList_make_full _ rfl _ _ 151 rfl w1.heap.size 214 i0 (.agg Zc) 64 Tryz.underlying151 hi hz0' hz1 .i64 .i64 _ _ n rfl rfl rfl rfl hby (by unfold maxLen; omega) (Nat.le_refl _) ?_; intro w2 how hgr)
    | (go_at_call 78; refine (hmk _ _ _ how).mono ?_; rintro e w3 ⟨rfl, hd3, hb3⟩))
  go_ret2
  have hbe : Below w1.heap.size w1 w2 := (Below.refl _ _).grown hgr (Nat.le_refl _) (fun _ e => by cases e)
  have hsz := hbe.size
  exact ⟨_, _, _, rfl, hd3, by omega, Nat.le_refl _, hsz, hbe.trans (hb3.mono hsz)⟩

end Go.Proofs.YtcgpgnajmfemhaaGreatDoor

namespace Go.Proofs.YtcgpgnajmfemhaaGreatDoor
open Go.RowKit Go.Maps

/-- A new block of bytes. -/
theorem HB.block {w : World} {g : Nat} {t : TypeId} {l : List UInt8} (h : w.heap[g]? = some (.cells (bcs l).toArray t (0, 0))) (hm : l.length ≤ maxLen) : HB w (.slice (some ⟨g, 0, none⟩) l.length l.length) l :=
  ⟨_, l.length, rfl, Nat.le_refl _, hm, (fun h => by cases h), fun _ => ⟨g, 0, rfl, fun i x hx => by
    rw [Nat.zero_add, cell_of_row _ _ i _ _ _ h]
    simp [bcs, hx]⟩⟩

set_option maxRecDepth 10000 in
set_option maxRecDepth 100000 in
set_option maxHeartbeats 400000 in
theorem bytesOf_any (w : World) (l : List UInt8) (hl : l.length = 64) : Calls Tryz.prog 153 #[secV l] w fun e w' => e = .returned (.slice (some ⟨w.heap.size, 0, none⟩) 64 64) ∧ w' = w.alloc (.cells (bcs l).toArray 214) := by
  obtain ⟨Z, hZ⟩ : ∃ Z, Z = (bcs l).toArray := ⟨_, rfl⟩
  have hZs : Z.size = 64 := by rw [hZ, List.size_toArray, bcs_length, hl]
  show Calls Tryz.prog 153 #[.agg (bcs l).toArray] w _
  rw [← hZ]
  clear hZ hl
  go_enter Tryz.func153, Tryz.ntmps153
  go_wp2
  go_ret
  exact ⟨rfl, rfl⟩

theorem load_sec (w : World) (b o : Nat) (cs : List Value) (hc : w.rangeAt b o cs) (hn : cs.length = 64) : (loadCellsFrom ⟨b, o, none⟩ 0 64 #[]).run Tryz.prog w = .ok cs.toArray w := by
  have := run_loadCells_list (P := Tryz.prog) w ⟨b, o, none⟩ cs (fun j v hv => by rw [Addr.add_mid]; exact hc j v hv)
  rw [hn] at this
  simpa [loadCells] using this

set_option maxRecDepth 100000 in
set_option maxHeartbeats 400000 in
theorem read_arg {bd bn bm : Nat} {s : DevS} {w : World} (h : Dev w bd bn bm s) (i : Int) (hbad : ¬ (0 ≤ i ∧ i < (s.now.length : Int))) : Calls Tryz.prog 110 #[.pointer (some ⟨bd, 0, none⟩), .int .i64 i] w fun e w' => e = .returned (.tuple #[.slice none 0 0, .int .i64 1]) ∧ w' = w := by
  have h1 := miss_no h
  have h2 := has_any h i
  rw [decide_eq_false hbad] at h2
  clear h hbad
  go_enter Tryz.func110, Tryz.ntmps110
  go_wp2_with (first
    | (go_at_call 151; refine h1.mono ?_; rintro e w1 ⟨rfl, rfl⟩)
    | (go_at_call 152; refine h2.mono ?_; rintro e w1 ⟨rfl, rfl⟩))
  go_ret2
  exact ⟨rfl, rfl⟩

set_option maxRecDepth 100000 in
set_option maxHeartbeats 400000 in
theorem read_dead {bd bn bm : Nat} {s : DevS} {w : World} (h : Dev w bd bn bm s) (i : Int) (hi : 0 ≤ i ∧ i < (s.now.length : Int)) (hd : s.dead = true) : Calls Tryz.prog 110 #[.pointer (some ⟨bd, 0, none⟩), .int .i64 i] w fun e w' => e = .returned (.tuple #[.slice none 0 0, .int .i64 70]) ∧ w' = w := by
  have h1 := miss_no h
  have h2 := has_any h i
  rw [decide_eq_true hi] at h2
  have c3 := h.db.cells.2.2.2.1
  rw [hd] at c3
  clear h hi hd
  go_enter Tryz.func110, Tryz.ntmps110
  go_wp2_with (first
    | (go_at_call 151; refine h1.mono ?_; rintro e w1 ⟨rfl, rfl⟩)
    | (go_at_call 152; refine h2.mono ?_; rintro e w1 ⟨rfl, rfl⟩))
  go_ret2
  exact ⟨rfl, rfl⟩

set_option maxRecDepth 10000 in
set_option maxRecDepth 100000 in
set_option maxHeartbeats 400000 in
theorem read_any {bd bn bm : Nat} {s : DevS} {w : World} (h : Dev w bd bn bm s) (i : Nat) (l : List UInt8) (hi : s.now[i]? = some l) (hd : s.dead = false) : Calls Tryz.prog 110 #[.pointer (some ⟨bd, 0, none⟩), .int .i64 (i : Int)] w fun e w' => e = .returned (.tuple #[.slice (some ⟨w.heap.size, 0, none⟩) 64 64, .int .i64 0]) ∧ w' = w.alloc (.cells (bcs l).toArray 214) := by
  have hlt : i < s.now.length := (List.getElem?_eq_some_iff.1 hi).1
  have hm := h.ok.most
  have h1 := miss_no h
  have h2 := has_any h (i : Int)
  rw [decide_eq_true (by omega)] at h2
  obtain ⟨c0, c1, c2, c3, c4⟩ := h.db.cells
  rw [hd] at c3
  have hl : l.length = 64 := h.ok.rows l (List.mem_of_getElem? hi)
  have hR := h.sr.range h.ok.rows i l hi
  have hb := bytesOf_any w l hl
  unfold secV at hb
  have hi0 : (0 : Int) ≤ (i : Int) := Int.natCast_nonneg _
  have hi1 : (i : Int) < (s.now.length : Int) := by omega
  have hsz : (Tryz.prog.info? 214).map (·.size) = some (bcs l).length := by rw [bcs_length, hl]; exact s_sec
  have hu := Tryz.underlying214
  generalize bcs l = CS at *
  generalize s.now.length = N at *
  clear h hi hl
  go_enter Tryz.func110, Tryz.ntmps110
  go_wp2_with (first
    | (go_at_call 151; refine h1.mono ?_; rintro e w1 ⟨rfl, rfl⟩)
    | (go_at_call 152; refine h2.mono ?_; rintro e w1 ⟨rfl, rfl⟩)
    | (refine wpList_load_mid rfl 214 _ rfl bn (i * 64) rfl CS _ hR hu rfl hsz ?_)
    | (go_at_call 153; refine hb.mono ?_; rintro e w2 ⟨rfl, rfl⟩))
  go_ret2
  exact ⟨rfl, rfl⟩

end Go.Proofs.YtcgpgnajmfemhaaGreatDoor

namespace Go.Proofs.YtcgpgnajmfemhaaGreatDoor
open Go.RowKit

/-- Blocks of a type stay. -/
def Sty (T : TypeId) (w w' : World) : Prop := ∀ (k : Nat) cur fr, w.heap[k]? = some (.cells cur T fr) → w'.heap[k]? = some (.cells cur T fr)

theorem Sty.trans {T : TypeId} {a b c : World} (h1 : Sty T a b) (h2 : Sty T b c) : Sty T a c := fun k cur fr h => h2 k cur fr (h1 k cur fr h)
theorem Sty.of_below {T : TypeId} {w w' : World} (h : Below w.heap.size w w') : Sty T w w' := fun k _ _ hk => (h.block k (Array.getElem?_eq_some_iff.1 hk).1).trans hk
theorem Sty.of_part {T : TypeId} {S : Nat → Prop} {w w' : World} (h : Part S w w') (hS : ∀ k cur fr, S k → w.heap[k]? = some (.cells cur T fr) → False) : Sty T w w' :=
  fun k cur fr hk => (h.2 k (Array.getElem?_eq_some_iff.1 hk).1 (fun s => hS k cur fr s hk)).trans hk

/-- Where a row that the call owns grows, blocks of another type stay. -/
theorem Sty.of_grown {T T' : TypeId} {W W' : World} {base s n : Nat} {v : Value} {xs : List Value} (h : W.ownsRow base T' s v n xs) (hg : W.grownBy W' v.ownBlock) (hT : T' ≠ T) : Sty T W W' := by
  intro k cur fr hk
  have hne : some k ≠ v.ownBlock := by
    rcases h.2 with ⟨rfl, _⟩ | ⟨g, cap, cur', rfl, _, hg', _⟩
    · simp [Value.ownBlock]
    · simp only [Value.ownBlock, ne_eq, Option.some.injEq]
      intro e
      subst e
      rw [hg'] at hk
      simp only [Option.some.injEq, Obj.cells.injEq] at hk
      exact hT hk.2.1
  exact (hg.block k (Array.getElem?_eq_some_iff.1 hk).1 hne).trans hk

def nowF (s : DevS) : Nat → List UInt8 := fun j => s.now.getD j []

theorem nowF_row {s : DevS} (h : s.Ok) (j : Nat) (hj : j < s.now.length) : s.now[j]? = some (nowF s j) ∧ (nowF s j).length = 64 := by
  have e : s.now[j]? = some (nowF s j) := by
    unfold nowF
    rw [List.getElem?_eq_getElem hj, List.getD_eq_getElem?_getD, List.getElem?_eq_getElem hj]
    rfl
  exact ⟨e, h.rows _ (List.mem_of_getElem? e)⟩


theorem i_byt : (Tryz.prog.info? 37).map (fun i => (i.zero, i.size, i.bytes)) = some (some (.slice none 0 0), 1, 24) := by kernel_rfl

/-- A row of n sectors' bytes that the call made, the first k of them laid. -/
def IMG (W : World) (base g n k : Nat) (now : Nat → List UInt8) : Prop :=
  ∃ vs : List Value, W.ownsRow base 37 1 (.slice (some ⟨g, 0, none⟩) n n) n vs ∧ ∀ (j : Nat) u, j < k → vs[j]? = some u → ∃ b, u = .slice (some ⟨b, 0, none⟩) 64 64 ∧ base ≤ b ∧ W.heap[b]? = some (.cells (bcs (now j)).toArray 214 (0, 0))

theorem IMG.later {W W' : World} {base g n k : Nat} {now : Nat → List UInt8} (h : IMG W base g n k now) (hb : Below W.heap.size W W') : IMG W' base g n k now := by
  obtain ⟨vs, h1, h2⟩ := h
  refine ⟨vs, owns_later h1 hb, fun j u hj hu => ?_⟩
  obtain ⟨b, e1, e2, e3⟩ := h2 j u hj hu
  exact ⟨b, e1, e2, (hb.block b (Array.getElem?_eq_some_iff.1 e3).1).trans e3⟩
theorem IMG.cell {W : World} {base g n k : Nat} {now : Nat → List UInt8} (h : IMG W base g n k now) (i : Nat) (hi : i < n) : ∃ y, W.cell? ⟨g, i, none⟩ = some y ∧ W.frozen? ⟨g, i, none⟩ = false := by
  obtain ⟨vs, q1, _⟩ := h
  have hl := q1.1
  rw [Nat.mul_one] at hl
  have hc := q1.cellAt i (by omega)
  rw [List.getElem?_eq_getElem (by omega)] at hc
  exact ⟨_, hc, q1.frozenAt i⟩
theorem IMG.put {W : World} {base g n k b : Nat} {now : Nat → List UInt8} (h : IMG W base g n k now) (hb : base ≤ b) (hx : W.heap[b]? = some (.cells (bcs (now k)).toArray 214 (0, 0))) : IMG (W.setCell ⟨g, k, none⟩ (.slice (some ⟨b, 0, none⟩) 64 64)) base g n (k + 1) now := by
  obtain ⟨vs, h1, h3⟩ := h
  obtain ⟨q1, q2⟩ := h1.stored k (.slice (some ⟨b, 0, none⟩) 64 64)
  have t := Sty.of_grown (T := 214) h1 q2 (by decide)
  refine ⟨vs.set k (.slice (some ⟨b, 0, none⟩) 64 64), q1, fun j u hj hu => ?_⟩
  by_cases hjk : k = j
  · subst hjk
    rw [List.getElem?_set_self'] at hu
    cases hv : vs[k]? with
    | none => rw [hv] at hu; simp at hu
    | some y =>
      rw [hv] at hu
      simp at hu
      subst hu
      exact ⟨b, rfl, hb, t _ _ _ hx⟩
  · rw [List.getElem?_set_ne hjk] at hu
    obtain ⟨b', e1, e2, e3⟩ := h3 j u (by omega) hu
    exact ⟨b', e1, e2, t _ _ _ e3⟩
theorem IMG.pa {W : World} {base g n : Nat} {now : Nat → List UInt8} (h : IMG W base g n n now) (hl : ∀ j, j < n → (now j).length = 64) : PA W (.slice (some ⟨g, 0, none⟩) n n) ((List.range n).map now) := by
  obtain ⟨vs, h1, h3⟩ := h
  have hv := h1.1
  rw [Nat.mul_one] at hv
  obtain ⟨_, q⟩ := h1
  have hel : ∀ (i : Nat) x l, vs[i]? = some x → ((List.range n).map now)[i]? = some l → HB W x l := by
    intro i x l hx hl'
    have hi : i < vs.length := (List.getElem?_eq_some_iff.1 hx).1
    have e2 : l = now i := by
      rw [List.getElem?_map, List.getElem?_range (by omega)] at hl'
      simpa using hl'.symm
    obtain ⟨b, rfl, _, e3⟩ := h3 i x (by omega) hx
    have := HB.block e3 (by rw [hl i (by omega)]; unfold maxLen; omega)
    rw [hl i (by omega)] at this
    rw [e2]
    exact this
  rcases q with ⟨h0, _⟩ | ⟨g', cap, cur, he, hb, hg, hle, hm, hsz, ht⟩
  · cases h0
  · simp only [Value.slice.injEq, Option.some.injEq, Addr.mk.injEq, and_true, true_and] at he
    obtain ⟨rfl, rfl⟩ := he
    refine ⟨_, n, vs, by simp, by simp, hm, (fun h => by cases h), by simp [hv], fun _ => ⟨g, 0, rfl, fun i x hx => ?_⟩, hel⟩
    rw [Nat.zero_add, cell_of_row W g i cur 37 (0, 0) hg]
    have hi : i < vs.length := (List.getElem?_eq_some_iff.1 hx).1
    rw [← ht, List.getElem?_take, if_pos (by omega)] at hx
    simpa using hx

theorem range_now (s : DevS) : (List.range s.now.length).map (nowF s) = s.now := by
  apply List.ext_getElem?
  intro i
  rw [List.getElem?_map]
  by_cases hi : i < s.now.length
  · rw [List.getElem?_range hi, List.getElem?_eq_getElem hi]
    unfold nowF
    rw [Option.map_some, List.getD_eq_getElem?_getD, List.getElem?_eq_getElem hi]
    rfl
  · rw [List.getElem?_eq_none (by simp; omega), List.getElem?_eq_none (by omega)]
    rfl

/-- A new variable whose making is known, and a store whose run is known. -/
theorem wpList_allocs {P : Program} {w : World} {ops : Array Oper} {rest : List Oper} {o : Oper} {a : Act} {Q : Exit → Act → World → Prop} (hgd : o.guard = none) (t : TypeId) (ho : o.op = .alloc t)
    (v : Value) (w' : World) (hl : (Instr.alloc t true (.tuple #[])).run P w = .ok v w') (h : wpList P ops Q rest (a.put o.dst v) w') : wpList P ops Q (o :: rest) a w := by
  unfold wpList
  rw [if_pos (by simp [Region.wanted, hgd])]
  refine .inl ?_
  unfold Oper.wp execOp
  simp only [ho, Sem.run_bind, hl, Result.andThen_ok]
  exact h
theorem wpList_stores {P : Program} {w : World} {ops : Array Oper} {rest : List Oper} {o : Oper} {a : Act} {Q : Exit → Act → World → Prop} (hgd : o.guard = none) (t : TypeId) (x y : Operand) (ho : o.op = .store t x y)
    (w' : World) (hl : (Instr.storeAt t (a.eval x) (a.eval y)).run P w = .ok () w') (h : wpList P ops Q rest (a.put o.dst undef) w') : wpList P ops Q (o :: rest) a w := by
  unfold wpList
  rw [if_pos (by simp [Region.wanted, hgd])]
  refine .inl ?_
  unfold Oper.wp execOp
  simp only [ho, Sem.run_bind, hl, Result.andThen_ok, Sem.run_pure, Oper.upon]
  exact h
theorem wpList_loads {P : Program} {w : World} {ops : Array Oper} {rest : List Oper} {o : Oper} {a : Act} {Q : Exit → Act → World → Prop} (hgd : o.guard = none) (t : TypeId) (x : Operand) (ho : o.op = .load t x)
    (v : Value) (hl : (Instr.loadAt t (a.eval x)).run P w = .ok v w) (h : wpList P ops Q rest (a.put o.dst v) w) : wpList P ops Q (o :: rest) a w := by
  unfold wpList
  rw [if_pos (by simp [Region.wanted, hgd])]
  refine .inl ?_
  unfold Oper.wp execOp
  simp only [ho, Sem.run_bind, hl, Result.andThen_ok]
  exact h

theorem alloc_sec (w : World) : (Instr.alloc 214 true (.tuple #[])).run Tryz.prog w = .ok (.pointer (some ⟨w.heap.size, 0, none⟩)) (w.alloc (.cells (bcs nulls).toArray 214)) := by
  unfold Instr.alloc
  rw [Sem.run_bind, z_sec w, Result.andThen_ok]
  rfl

set_option maxRecDepth 100000 in
set_option maxHeartbeats 3200000 in
theorem image_any {bd bn bm : Nat} {s : DevS} {w : World} (h : Dev w bd bn bm s) : Calls Tryz.prog 111 #[.pointer (some ⟨bd, 0, none⟩)] w fun e w' => ∃ g, e = .returned (.slice (some ⟨g, 0, none⟩) s.now.length s.now.length) ∧ IMG w' w.heap.size g s.now.length s.now.length (nowF s) ∧ Below w.heap.size w w' := by
  have h1 := miss_no h
  have hm := h.ok.most
  have c0 := h.db.cells.1
  obtain ⟨i0, hi0, hz0, hz1, hz2⟩ := info_parts i_byt
  have hby : i0.bytes * s.now.length ≤ 281474976710656 := by rw [hz2]; omega
  have hu := Tryz.underlying214
  have hrow := fun j (hj : j < s.now.length) => nowF_row h.ok j hj
  go_enter Tryz.func111, Tryz.ntmps111
  go_wp2_with (first
    | (go_at_call 151; refine h1.mono ?_; rintro e w1 ⟨rfl, rfl⟩)
    | (at_make; refine wpList_make_full _ rfl _ _ 38 rfl w1.heap.size 37 i0 (.slice none 0 0) 1 Tryz.underlying38 hi0 hz0 hz1 .i64 .i64 _ _ s.now.length rfl rfl rfl rfl hby (by unfold maxLen; omega) (Nat.le_refl _) ?_; intro w2 how hgr; have b2 : Below w1.heap.size w1 w2 := (Below.refl _ _).grown hgr (Nat.le_refl _) (fun _ e => by cases e); have c02 := cell_later b2 c0))
  have hI : IMG w2 w1.heap.size w1.heap.size s.now.length 0 (nowF s) := ⟨_, how, fun j u hj => absurd hj (Nat.not_lt_zero _)⟩
  have hd2 := h.later b2
  clear h1 c0 how hgr
  go_loopw [19] (fun i wr => ∃ k : Nat, k ≤ s.now.length ∧ i = .int .i64 k ∧ Dev wr bd bn bm s ∧ IMG wr w1.heap.size w1.heap.size s.now.length k (nowF s) ∧ Below w1.heap.size w1 wr) (fun i _ => s.now.length - (RowKit.intOf i).toNat)
  case atStart => exact ⟨0, Nat.zero_le _, rfl, hd2, hI, b2⟩
  case round =>
    obtain ⟨k, hk, rfl, hd, hI, hbe⟩ := hrel
    by_cases hlt : k < s.now.length
    · obtain ⟨hrk, hl⟩ := hrow k hlt
      have hR := hd.sr.range hd.ok.rows k _ hrk
      have hlt2 : (k : Int) < (s.now.length : Int) := by omega
      have hsz : (Tryz.prog.info? 214).map (·.size) = some (bcs (nowF s k)).length := by rw [bcs_length, hl]; exact s_sec
      obtain ⟨CS, hCS⟩ : ∃ CS, CS = bcs (nowF s k) := ⟨_, rfl⟩
      have hCl : CS.length = 64 := by rw [hCS, bcs_length, hl]
      rw [← hCS] at hR hsz
      have hRn : (nulls).length = 64 := nulls_len
      obtain ⟨ZZ, hZZ⟩ : ∃ ZZ, ZZ = (bcs nulls).toArray := ⟨_, rfl⟩
      have hZs : ZZ.size = CS.toArray.size := by rw [hZZ, List.size_toArray, List.size_toArray, bcs_length, hCl, nulls_len]
      have hal := alloc_sec wr
      rw [← hZZ] at hal
      have hsz2 : (Tryz.prog.info? 214).map (·.size) = some CS.toArray.size := by rw [List.size_toArray]; exact hsz
      have hone : CS.toArray.all (·.oneCell') = true := by rw [hCS]; simpa [Array.all_eq_true_iff_forall_mem] using bcs_one (nowF s k)
      have hso := run_storeAt_new (P := Tryz.prog) wr 214 ZZ CS.toArray hsz2 hZs hone
      have hlo := run_loadAt_new (P := Tryz.prog) wr 214 CS.toArray 64 5 hu hsz2
      have bA := (Below.refl wr.heap.size wr).alloc (Nat.le_refl _) (.cells CS.toArray 214)
      have hB := bytesOf_any (wr.alloc (.cells CS.toArray 214)) (nowF s k) hl
      unfold secV at hB
      rw [← hCS] at hB
      have bB := (Below.refl (wr.alloc (.cells CS.toArray 214)).heap.size (wr.alloc (.cells CS.toArray 214))).alloc (Nat.le_refl _) (.cells CS.toArray 214)
      have gB := heap_alloc_new (wr.alloc (.cells CS.toArray 214)) (.cells CS.toArray 214)
      rw [hCS] at gB
      have hI2 := ((hI.later bA).later bB)
      rw [← hCS] at gB
      obtain ⟨y, hy1, hy2⟩ := hI2.cell k hlt
      have hd3 := (hd.later bA).later bB
      have hsw : w1.heap.size ≤ wr.heap.size := hbe.size
      have hI3 := hI2.put (b := (wr.alloc (.cells CS.toArray 214)).heap.size) (by simp; omega) (by rw [← hCS]; exact gB)
      have hbe3 : Below w1.heap.size w1 ((wr.alloc (.cells CS.toArray 214)).alloc (.cells CS.toArray 214)) := (hbe.trans (bA.mono hsw)).trans (bB.mono (by simp; omega))
      have hgd : w1.heap.size ≠ bd ∧ w1.heap.size ≠ bn ∧ w1.heap.size ≠ bm := ⟨fun e => by have := h.db.lt; omega, fun e => by have := h.sr.lt; omega, fun e => by have := h.dm.lt; omega⟩
      have hd4 := hd3.part ((Part.refl (fun q => q = w1.heap.size) _).setCell ⟨w1.heap.size, k, none⟩ (.slice (some ⟨(wr.alloc (.cells CS.toArray 214)).heap.size, 0, none⟩) 64 64) rfl) ⟨fun e => hgd.1 e.symm, fun e => hgd.2.1 e.symm, fun e => hgd.2.2 e.symm⟩
      have hbe4 := hbe3.setCell (p := ⟨w1.heap.size, k, none⟩) (Nat.le_refl _) (.slice (some ⟨(wr.alloc (.cells CS.toArray 214)).heap.size, 0, none⟩) 64 64)
      rw [World.size_alloc] at hd4 hI3 hbe4
      clear hd hd2 hd3 hI hI2 hbe hbe3 hCS hCl hZZ hZs hsz2 hone gB bB bA hRn hrk hl hrow h hgd hsw
      go_wp2_with (first
        | (refine wpList_load_mid rfl 214 _ rfl bn (k * 64) rfl CS _ hR hu rfl hsz ?_)
        | (refine wpList_allocs rfl 214 rfl _ _ hal ?_)
        | (refine wpList_stores rfl 214 _ _ rfl _ hso ?_)
        | (refine wpList_loads rfl 214 _ rfl _ hlo ?_)
        | (go_at_call 153; refine hB.mono ?_; rintro e w6 ⟨rfl, rfl⟩))
      go_roundw
      case rel => first | exact ⟨k + 1, by omega, by go_num, hd4, hI3, hbe4⟩ | ((repeat apply Exists.intro); exact ⟨⟨k + 1, by omega, by go_num, hd4, hI3, hbe4⟩, rfl⟩)
      case measure => simp [RowKit.intOf]; omega
    · obtain rfl : k = s.now.length := by omega
      clear hrow h hd hd2
      go_wp2
      go_ret
      exact ⟨_, rfl, hI, hbe⟩


theorem IMG.kept {W W' : World} {base g n k : Nat} {now : Nat → List UInt8} (h : IMG W base g n k now) (hk : ∀ q, base ≤ q → q < W.heap.size → W'.heap[q]? = W.heap[q]?) : IMG W' base g n k now := by
  obtain ⟨vs, h1, h2⟩ := h
  refine ⟨vs, ⟨h1.1, ?_⟩, fun j u hj hu => ?_⟩
  · rcases h1.2 with h0 | ⟨g', cap, cur, he, hb, hg, rest⟩
    · exact .inl h0
    · exact .inr ⟨g', cap, cur, he, hb, (hk g' hb (Array.getElem?_eq_some_iff.1 hg).1).trans hg, rest⟩
  · obtain ⟨b, e1, e2, e3⟩ := h2 j u hj hu
    exact ⟨b, e1, e2, (hk b e2 (Array.getElem?_eq_some_iff.1 e3).1).trans e3⟩

theorem IMG.get {W : World} {base g n : Nat} {now : Nat → List UInt8} (h : IMG W base g n n now) (hl : ∀ j, j < n → (now j).length = 64) (j : Nat) (hj : j < n) : ∃ b, W.cell? ⟨g, j, none⟩ = some (.slice (some ⟨b, 0, none⟩) 64 64) ∧ HB W (.slice (some ⟨b, 0, none⟩) 64 64) (now j) := by
  obtain ⟨vs, h1, h2⟩ := h
  have hv := h1.1
  rw [Nat.mul_one] at hv
  have hc := h1.cellAt j (by omega)
  rw [List.getElem?_eq_getElem (by omega)] at hc
  obtain ⟨b, e1, e2, e3⟩ := h2 j _ hj (List.getElem?_eq_getElem (by omega))
  rw [e1] at hc
  have hb := HB.block e3 (by rw [hl j hj]; unfold maxLen; omega)
  rw [hl j hj] at hb
  exact ⟨b, hc, hb⟩

end Go.Proofs.YtcgpgnajmfemhaaGreatDoor
