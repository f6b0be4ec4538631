/- What this text proves: the walk of a device's Write, that goes through, over this program. -/
import Derived.Test.YtnmjggljicanmaaDoorDWrite
namespace Go.Proofs.YtnmjggljicanmaaDoor
open Go.RowKit Go.Maps

theorem secV_one (l : List UInt8) : ((bcs l).toArray).all (·.oneCell') = true := Go.all_oneCell_toArray (bcs_one l)

theorem write_old (s : DevS) (i : Nat) (l : List UInt8) (hs : s.stops = false) : (s.write i l).old = oldW s i := by simp [DevS.write, hs]
theorem array_at (a : Addr) (c : Nat) (w : World) : (Instr.arrayAt 60 (.slice (some a) 64 c)).run Tryd.prog w = .ok (.pointer (some a)) w := by
  simp [Instr.arrayAt, Sem.run_bind, run_underlying Tryd.underlying60 w, Result.andThen]

set_option maxRecDepth 100000 in
set_option maxHeartbeats 1600000 in
theorem write_wait {bd bn bm : Nat} {s : DevS} {w : World} (h : Dev w bd bn bm s) (i : Nat) (v : Value) (l : List UInt8) (hv : HB w v l) (hi : i < s.now.length) (hl : l.length = 64) (hc : s.ch + 1 ≤ 1099511627776) (hs : s.stops = false) (o : List UInt8) (ho : s.old i = some o)
    (hvb : ∀ a n c, v = .slice (some a) n c → a.block ≠ bd ∧ a.block ≠ bn) :
    Calls Tryd.prog 34 #[.pointer (some ⟨bd, 0, none⟩), .int .i64 (i : Int), v] w fun e w' => e = .returned (.int .i64 0) ∧ Dev w' bd bn bm (s.write i l) ∧ Part (fun k => k = bd ∨ k = bn ∨ k = bm) w w' := by
  have h1 := miss_no h
  have h2 := has_any h (i : Int)
  have h3 := change_any h hc
  rw [show s.err = 0 by simp [DevS.err, hs]] at h3
  have hmost := h.ok.most
  obtain ⟨p, c, rfl⟩ := hv.shape
  rw [decide_eq_true (by omega)] at h2
  rw [hl]
  obtain ⟨Z, hZ⟩ : ∃ Z : Array Value, Z = (bcs o).toArray := ⟨_, rfl⟩
  have hlook : ∀ w2, Dev w2 bd bn bm s.counted → (Instr.lookup 56 (.map (some bm)) (.int .i64 (i : Int)) true).run Tryd.prog w2 = .ok (.tuple #[.agg Z, .bool true]) w2 := by
    intro w2 hd
    have := hd.dm.look_ok i (by omega)
    rw [counted_old, ho] at this
    rw [this, hZ]
    rfl
  have hZs : Z.size = 64 := by rw [hZ]; simp [bcs_length, (h.ok.olds i o ho).2]
  have hst : ∀ (w3 : World) (cs : Array Value), cs.size = 64 → (storeCells ⟨w3.heap.size, 0, none⟩ Z.toList 0).run Tryd.prog (w3.alloc (.cells cs 60)) = .ok () (w3.alloc (.cells Z 60)) := fun w3 cs hcs =>
    run_storeCells_new w3 60 cs Z (by rw [s_sec, hZs]) (by rw [hcs, hZs]) (by rw [hZ]; exact secV_one o)
  obtain ⟨vb, vo, rfl, hvc⟩ := hv.addr (by omega)
  have hvn : vb ≠ bd := (hvb _ _ _ rfl).1
  have hvn2 : vb ≠ bn := (hvb _ _ _ rfl).2
  have hbn : bd ≠ bn := h.ne.1
  have hi0 : (0 : Int) ≤ (i : Int) := Int.natCast_nonneg _
  have hi1 : (i : Int) < (s.now.length : Int) := by omega
  have hu := Tryd.underlying60
  obtain ⟨CS, hCS⟩ : ∃ CS, CS = bcs l := ⟨_, rfl⟩
  have hCl : CS.length = 64 := by rw [hCS, bcs_length, hl]
  have hC1 : ∀ v ∈ CS, v.oneCell' = true := by rw [hCS]; exact bcs_one l
  have hsz : (Tryd.prog.info? 60).map (·.size) = some CS.length := by rw [hCl]; exact s_sec
  have hrng : ∀ w2, Part (fun k => k = bd) w w2 → w2.rangeAt vb vo CS := by
    intro w2 hp j x hx
    rw [hCS, bcs_get] at hx
    obtain ⟨y, hy, rfl⟩ := Option.map_eq_some_iff.1 hx
    have hcell := hvc j y hy
    rw [World.cell?_of_block (w := w) (hp.2 vb (World.block_lt_of_cell? w _ hcell) hvn)]
    exact hcell
  have hfin : ∀ w2, Dev w2 bd bn bm s.counted → Part (fun k => k = bd) w w2 → Dev ((w2.alloc (.cells Z 60)).drew.setCells bn (i * 64) CS) bd bn bm (s.write i l) ∧ Part (fun k => k = bd ∨ k = bn ∨ k = bm) w ((w2.alloc (.cells Z 60)).drew.setCells bn (i * 64) CS) := by
    intro w2 hd hp
    have hne := hd.ne
    have hd' : Dev (w2.alloc (.cells Z 60)).drew bd bn bm s.counted := hd.later ((Below.refl _ _).alloc (Nat.le_refl _) _).drew
    have hpp : Part (fun k => k = bd ∨ k = bn ∨ k = bm) w ((w2.alloc (.cells Z 60)).drew.setCells bn (i * 64) CS) := ((hp.mono (fun k _ e => .inl e)).alloc _).drew.setCells _ _ _ (.inr (.inl rfl))
    refine ⟨⟨h.ok.write hc i l hi hl, ?_, ?_, ?_⟩, hpp⟩
    · have := hd'.db.same (heap_setCells_far bn CS (i * 64) _ bd hne.1)
      simpa [DevS.write, hs, counted_now] using this
    · have := hd'.sr.put hd'.ok.rows i (by rw [counted_now]; exact hi) l hl
      rw [hCS]
      simpa [DevS.write, hs, counted_now] using this
    · have := hd'.dm.same (heap_setCells_far bn CS (i * 64) _ bm (fun e => hne.2.2 e.symm))
      have e1 : (s.write i l).old = s.counted.old := by
        rw [counted_old, write_old s i l hs]
        funext j
        unfold oldW
        split
        · rename_i e; rw [e, ho]
        · rfl
      have e2 : (s.write i l).ch = s.counted.ch := by simp [DevS.write, hs]
      rw [e1, e2]
      exact this
  clear hZ hCS
  generalize hN : s.now.length = N at *
  clear hv hvc hvb hmost hl
  go_enter Tryd.func34, Tryd.ntmps34
  go_wp2_with (first
    | (go_at_call 26; refine h1.mono ?_; rintro e w1 ⟨rfl, rfl⟩)
    | (go_at_call 31; refine h2.mono ?_; rintro e w1 ⟨rfl, rfl⟩)
    | (go_at_call 45; refine h3.mono ?_; rintro e w2 ⟨rfl, hd2, hp2⟩; have hlk := hlook w2 hd2; have hc1 := hd2.db.cells.2.1; have hF := hfin w2 hd2 hp2; have hR0 := hrng w2 hp2))
  have hd3 : Dev (w2.alloc (.cells Z 60)) bd bn bm s.counted := hd2.later ((Below.refl _ _).alloc (Nat.le_refl _) _)
  have hc0 := hd3.db.cells.1
  rw [counted_now, counted_cap, hN] at hc0
  generalize s.cap = CP at hc0
  have hth := hd3.sr.there hd3.ok.rows i (by rw [counted_now, hN]; exact hi)
  have hR := World.rangeAt_alloc hR0 (.cells Z 60)
  clear hd2 hd3 hfin hrng hR0 hlook hst hlk hc1 h h1 h2 h3 hp2 hN hc hi
  generalize w2.alloc (.cells Z 60) = W at *
  have hS2 : (W.drew.setCells bn (i * 64) CS).cell? ⟨bd, 0, none⟩ = some (.slice (some ⟨bn, 0, none⟩) N CP) ∧ (W.drew.setCells bn (i * 64) CS).rangeAt vb vo CS ∧ (W.drew.setCells bn (i * 64) CS).there bn (i * 64) 64 :=
    ⟨by rw [World.cell?_setCells_out bn CS (i * 64) W.drew ⟨bd, 0, none⟩ (fun e _ => absurd e hbn)]; simpa using hc0, World.rangeAt_setCells_apart (by simpa using hR) _ _ _ (.inl hvn2), World.there_setCells (by simpa using hth) _ _ _⟩
  have hat := array_at ⟨vb, vo, none⟩ c
  go_region_held3 (fun w' => w'.cell? ⟨bd, 0, none⟩ = some (.slice (some ⟨bn, 0, none⟩) N CP) ∧ w'.rangeAt vb vo CS ∧ w'.there bn (i * 64) 64) (first | exact ⟨hc0, hR, hth⟩ | exact hS2 | (go_split_ands; refine ⟨by go_keep, ?_, ?_⟩ <;> first | assumption | (apply World.there_setCells; assumption))) (fail)
  go_wp2
  go_ret
  exact ⟨rfl, hF⟩

end Go.Proofs.YtnmjggljicanmaaDoor
