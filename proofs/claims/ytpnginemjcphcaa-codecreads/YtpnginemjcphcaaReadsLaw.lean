/- What this text proves: the walk of the statement CodecReads over this program. -/
import Derived.Test.YtpnginemjcphcaaReadsStep
import Derived.Test.YtpnginemjcphcaaCUintT
import Derived.Deep.RegionHeld3
namespace Go.Proofs.Ytpnginemjcphcaa
open Go.RowKit

theorem xor_255 (y : UInt8) : bits BinOp.xor IntKind.u8 (y.toNat : Int) 255 = ((y ^^^ 255).toNat : Int) := by
  have h : ∀ n : Fin 256, bits BinOp.xor IntKind.u8 (n.val : Int) 255 = ((UInt8.ofNat n.val ^^^ 255).toNat : Int) := by decide +kernel
  have := h ⟨y.toNat, y.toNat_lt⟩
  simpa using this

/-- A slice of pairs of numbers. -/
def DA (w : World) (v : Value) (ds : List (Int × Int)) : Prop :=
  ∃ (p : Option Addr) (cap : Nat), v = .slice p ds.length cap ∧ ds.length ≤ maxLen ∧ (ds ≠ [] → ∃ b o, p = some ⟨b, o, none⟩ ∧ ∀ i x, ds[i]? = some x → w.cell? ⟨b, o + i * 2, none⟩ = some (.int .i64 x.1) ∧ w.cell? ⟨b, o + i * 2 + 1, none⟩ = some (.int .i64 x.2))

set_option maxRecDepth 100000 in
set_option maxHeartbeats 8000000 in
theorem readsWalk (v dv : Value) (l : List UInt8) (ds : List (Int × Int)) (w : World) (h : HB w v l) (hd : DA w dv ds) (hsz : l.length ≤ 140737488351232) :
    Calls Try.prog 3 #[v, dv] w fun e w' => e = .returned (.bool true) ∧ Below w.heap.size w w' := by
  obtain ⟨p, c, rfl⟩ := h.shape
  obtain ⟨q, dc, rfl, hdm, hdc⟩ := hd
  unfold maxLen at hdm
  go_enter Try.func3, Try.ntmps3
  go_wp2_with fail
  refine (clone_own _ l _ h (by omega)).mono ?_
  rintro e w1 ⟨p1, c1, rfl, o1, hb1⟩
  have h1 := HB.of_owns o1
  go_wp2_with fail
  refine (open_new _ l _ h1 (by omega)).mono ?_
  rintro e w2 ⟨g, p2, c2, hg, rfl, hrd, hdat, hblk, hb2⟩
  have hb02 := hb1.trans (hb2.mono hb1.size)
  have hsz1 := hb1.size
  have hGB : l ≠ [] → ∃ gb, p1 = some ⟨gb, 0, none⟩ ∧ w.heap.size ≤ gb ∧ gb < w1.heap.size ∧ GB w2 gb l.length := by
    intro hne
    obtain ⟨gb, o', e1, _⟩ := h1.addr (List.length_pos_iff.2 hne)
    subst e1
    have hlt := o1.lt gb rfl
    obtain rfl : o' = 0 := by
      rcases o1.2 with ⟨q3, _⟩ | ⟨g', cap, cur, q3, _⟩
      · cases q3
      · simp only [Value.slice.injEq, Option.some.injEq, Addr.mk.injEq] at q3
        exact q3.1.2.1
    have hG := GB.of_owns o1
    refine ⟨gb, rfl, hlt.1, hlt.2, ?_⟩
    obtain ⟨cur, g1, g2⟩ := hG.1
    exact ⟨cur, by rw [hb2.block gb hlt.2]; exact g1, g2⟩
  have hll : (l.length : Int) ≤ 140737488351232 := by omega
  clear h1 o1 hb1 hb2
  go_wp2
  go_loopw [18] (fun i wr => ∃ k : Nat, k ≤ l.length ∧ i = .int .i64 k ∧ RD wr g (.slice p2 l.length c2) 0 true ∧ HBN wr g (.slice p2 l.length c2) l ∧ (l ≠ [] → ∃ gb, p1 = some ⟨gb, 0, none⟩ ∧ w.heap.size ≤ gb ∧ gb < w1.heap.size ∧ GB wr gb l.length) ∧ Below w.heap.size w wr) (fun i _ => l.length - (intOf i).toNat)
  case atStart => exact ⟨0, Nat.zero_le _, rfl, hrd, hdat, hGB, hb02⟩
  case round =>
    clear hrd hdat hGB hb02
    obtain ⟨k, hk, rfl, hrd, hdat, hGB, hb02⟩ := hrel
    by_cases hlt : k < l.length
    · obtain ⟨gb, rfl, hgw, hgb, hG⟩ := hGB (fun e => by subst e; simp at hlt)
      obtain ⟨y, cy, fy⟩ := hG.get k hlt
      have HX : Hid (bits BinOp.xor IntKind.u8 (y.toNat : Int) 255 = ((y ^^^ 255).toNat : Int)) := xor_255 y
      have hlt2 : (k : Int) < (l.length : Int) := by omega
      have hy := y.toNat_lt
      go_wp2
      rw [HX.out]
      have hset : Only gb wr (wr.setCell ⟨gb, k, none⟩ (.int .u8 ((y ^^^ 255).toNat : Int))) := (Only.refl gb wr).setCell k _
      refine ⟨⟨k + 1, by omega, by go_num, hrd.only hset (by omega), ⟨?_, hdat.2⟩, fun _ => ⟨gb, rfl, hgw, hgb, hG.put k _ _ rfl⟩, hb02.setCell hgw _⟩, by simp [intOf]; omega⟩
      exact hdat.1.only (g := gb) (fun a n c e => by cases e; have := hblk a rfl; omega) hset
    · have hr : RR wr g l 0 := ⟨p2, c2, hrd, hdat⟩
      have hsz2 := hb02.size
      clear hGB hrd hdat
      have h0 : HB (wr.alloc (.cells #[] 5)) (.slice p l.length c) l := (h.later hb02).later ((Below.refl _ wr).alloc (Nat.le_refl _) _)
      have hr0 : RR (wr.alloc (.cells #[] 5)) g l 0 := hr.later ((Below.refl _ wr).alloc (Nat.le_refl _) _)
      have hb03 : Below w.heap.size w (wr.alloc (.cells #[] 5)) := hb02.alloc hsz2 _
      go_wp2_with (first | (at_builtin; refine wpList_append_hb rfl (.tmp 28) (.tmp 29) 22 rfl wr.heap.size 5 Try.underlying22 i_u8 _ 0 [] rfl (World.ownsRow_made wr #[] 0 (Nat.le_refl _) (Nat.zero_le _) rfl) _ _ _ l rfl h0 ?sa ?sb ?_))
      case sa => omega
      case sb => simp
      intro v5 w5 hown5 hgrow5
      have hB5 : Below wr.heap.size wr w5 := ((Below.refl _ wr).alloc (Nat.le_refl _) _).grown hgrow5 (by simp) (by intro k hk; cases hk; exact Nat.le_refl _)
      have o5 : w5.ownsRow wr.heap.size 5 1 v5 l.length (bcs l) := by simpa using hown5
      have h5 := HB.of_owns o5
      obtain ⟨p5, c5, rfl⟩ := h5.shape
      have hr5 : RR w5 g l 0 := hr.later hB5
      have hb05 := hb02.trans (hB5.mono hsz2)
      have hsz5 := hb05.size
      have hglt : g < wr.heap.size := by
        obtain ⟨_, _, q, _⟩ := hr
        exact q.lt
      have hsz25 := hB5.size
      have hblk5 : ∀ a n c, (Value.slice p5 l.length c5) = .slice (some a) n c → a.block ≠ w5.heap.size := by
        intro a n c e
        cases e
        have := (o5.lt _ rfl).2
        omega
      clear h0 hr0 hb03 hown5 hgrow5 o5 hr
      have hxr : XR (w5.alloc (.cells #[.slice p5 l.length c5, .int .i64 0] 30)) w5.heap.size l 0 := by
        refine ⟨p5, c5, ?_, (h5.later ((Below.refl _ w5).alloc (Nat.le_refl _) _)), hblk5⟩
        exact heap_alloc_new w5 _
      have hr6 : RR (w5.alloc (.cells #[.slice p5 l.length c5, .int .i64 0] 30)) g l 0 := hr5.later ((Below.refl _ w5).alloc (Nat.le_refl _) _)
      have hb06 : Below w.heap.size w (w5.alloc (.cells #[.slice p5 l.length c5, .int .i64 0] 30)) := hb05.alloc hsz5 _
      have hgx : g ≠ w5.heap.size := by omega
      have hgw : w.heap.size ≤ g := by omega
      clear hr5 hblk5 hb05 h5 hB5 hglt hsz25
      go_wp2
      generalize w5.alloc (.cells #[.slice p5 l.length c5, .int .i64 0] 30) = w6 at *
      generalize w5.heap.size = gx at *
      go_loopw [35] (fun i wr => ∃ (k : Nat) (l' : List UInt8) (e : Int), k ≤ ds.length ∧ i = .int .i64 k ∧ RR wr g l' e ∧ XR wr gx l' e ∧ (e ≠ 0 → l' = []) ∧ l'.length ≤ l.length ∧ Below w.heap.size w wr) (fun i _ => ds.length - (intOf i).toNat)
      case atStart => exact ⟨0, l, 0, Nat.zero_le _, rfl, hr6, hxr, fun h => absurd rfl h, Nat.le_refl _, hb06⟩
      case round =>
        obtain ⟨k, l', e, hk, rfl, hrr, hxx, hel, hll', hbe⟩ := hrel
        clear hr6 hxr hb06
        have hszr := hbe.size
        by_cases hlt : k < ds.length
        · obtain ⟨b, o, rfl, f⟩ := hdc (fun e => by subst e; simp at hlt)
          have f2 := f k ds[k] (List.getElem?_eq_getElem hlt)
          generalize ds[k] = xy at *
          obtain ⟨x1, x2⟩ := xy
          simp only at f2
          have c1 := cell_later hbe f2.1
          have c2 := cell_later hbe f2.2
          clear f f2
          have hlt2 : (k : Int) < (ds.length : Int) := by omega
          have bA : Below wr.heap.size wr (wr.alloc (.cells #[.int .i64 x1, .int .i64 x2] 32)) := (Below.refl _ wr).alloc (Nat.le_refl _) _
          have hra := hrr.later bA
          have hxa := hxx.later bA
          have hba := hbe.alloc hszr (.cells #[.int .i64 x1, .int .i64 x2] 32)
          have ca0 : (wr.alloc (.cells #[.int .i64 x1, .int .i64 x2] 32)).cell? ⟨wr.heap.size, 0, none⟩ = some (.int .i64 x1) := by
            rw [cell_of_row _ _ 0 _ _ _ (heap_alloc_new wr _)]
            simp
          have ca1 : (wr.alloc (.cells #[.int .i64 x1, .int .i64 x2] 32)).cell? ⟨wr.heap.size, 1, none⟩ = some (.int .i64 x2) := by
            rw [cell_of_row _ _ 1 _ _ _ (heap_alloc_new wr _)]
            simp
          have hgr : g < wr.heap.size := by
            obtain ⟨_, _, q, _⟩ := hrr
            exact q.lt
          have hgxr : gx < wr.heap.size := by
            obtain ⟨_, _, q, _⟩ := hxx
            exact q.lt
          by_cases hk40 : k < 40
          · have hk41 : (k : Int) < 40 := by omega
            obtain ⟨U, hU, hU2⟩ := u64_natR x1
            have hm : (U : Int) % 3 = 0 ∨ (U : Int) % 3 = 1 ∨ (U : Int) % 3 = 2 := by omega
            rcases hm with hm | hm | hm
            · obtain ⟨N, l2, e2, hel2, hll2, s1, s2⟩ := step_uint g gx l' e x2 hel (by omega)
              go_wp2
              generalize wr.alloc (.cells #[.int .i64 x1, .int .i64 x2] 32) = wa at *
              go_region_held3 (fun w' => w'.cell? ⟨wr.heap.size, 1, none⟩ = some (.int .i64 x2)) (first | exact ca1 | exact ca2 | exact ca3) (first
                | (go_at_call 7; refine (s1 _ (hra.later (by repeat (first | exact Below.refl _ _ | refine Below.drew ?_)))).mono ?_; rintro e w8 ⟨rfl, hr8, ho8⟩; have hx8 := XR.only_r (hxa.later (by repeat (first | exact Below.refl _ _ | refine Below.drew ?_))) (hra.later (by repeat (first | exact Below.refl _ _ | refine Below.drew ?_))) ho8 hgx.symm; have ca2 := only_cell ho8 (cell_later (by repeat (first | exact Below.refl _ _ | refine Below.drew ?_)) ca1) (by omega); have hb8 : Below w.heap.size w w8 := Below.trans (by first | exact hba | exact hba.drew | exact hba.drew.drew) (ho8.below hgw))
                | (go_at_call 8; refine (s2 _ (hx8.later (by repeat (first | exact Below.refl _ _ | refine Below.drew ?_)))).mono ?_; rintro e w9 ⟨rfl, hx9, ho9⟩; have hr9 := RR.only_x (hr8.later (by repeat (first | exact Below.refl _ _ | refine Below.drew ?_))) (hx8.later (by repeat (first | exact Below.refl _ _ | refine Below.drew ?_))) ho9 hgx; have ca3 := only_cell ho9 (cell_later (by repeat (first | exact Below.refl _ _ | refine Below.drew ?_)) ca2) (by omega); have hb9 : Below w.heap.size w w9 := Below.trans (by first | exact hb8 | exact hb8.drew) (ho9.below hsz5)))
              go_wp2
              have hxz := hx9
              obtain ⟨pz, cz, hxd, _⟩ := hxz
              have d0 := hxd.cells.1
              have d1 := hxd.cells.2
              have a1 := fun w' h' => rr_err g l2 e2 w' h'
              have a2 := fun w' h' => rr_left g l2 e2 w' h'
              have a3 := fun w' h' => rr_end g l2 e2 w' h'
              have a4 := fun w' h' => xend_any gx l2 e2 w' h'
              generalize endF l2.length e2 = EF at *
              clear s1 s2 hra hxa ca0 ca1
              go_region_held3 (fun w' => w'.cell? ⟨gx, 0, none⟩ = some (.slice pz l2.length cz) ∧ w'.cell? ⟨gx, 1, none⟩ = some (.int .i64 e2)) (first | exact ⟨d0, d1⟩ | exact ⟨z0, z1⟩) (first
                | (go_at_call 14; refine (a1 _ (hr9.later (by repeat (first | exact Below.refl _ _ | refine Below.drew ?_)))).mono ?_; rintro e w' ⟨rfl, hw⟩; subst hw)
                | (go_at_call 15; refine (a2 _ (hr9.later (by repeat (first | exact Below.refl _ _ | refine Below.drew ?_)))).mono ?_; rintro e w' ⟨rfl, hw⟩; subst hw)
                | (go_at_call 16; refine (a3 _ (hr9.later (by repeat (first | exact Below.refl _ _ | refine Below.drew ?_)))).mono ?_; rintro e w' ⟨rfl, hw⟩; subst hw)
                | (go_at_call 17; refine (a4 _ (hx9.later (by repeat (first | exact Below.refl _ _ | refine Below.drew ?_)))).mono ?_; rintro e w' ⟨rfl, nz, hw⟩; have hbz : Below w9.heap.size w9 w' := (by rw [hw]; exact below_drewN (by repeat (first | exact Below.refl _ _ | refine Below.drew ?_)) nz); have z0 := cell_later hbz d0; have z1 := cell_later hbz d1; clear hw))
              clear a1 a2 a3 a4 z0 z1 d0 d1 hxd ho8 ho9 hr8 hx8
              go_wp2
              go_roundw
              case rel => first | exact ⟨k + 1, l2, e2, by omega, by go_num, hr9.later hbz, hx9.later hbz, hel2, by omega, hb9.trans (hbz.mono hb9.size)⟩ | ((repeat apply Exists.intro); exact ⟨⟨k + 1, l2, e2, by omega, by go_num, hr9.later hbz, hx9.later hbz, hel2, by omega, hb9.trans (hbz.mono hb9.size)⟩, rfl⟩)
              case measure => simp [intOf]; omega
            · obtain ⟨N, l2, e2, hel2, hll2, s1, s2⟩ := step_bytes g gx l' e x2 hel (by omega)
              go_wp2
              generalize wr.alloc (.cells #[.int .i64 x1, .int .i64 x2] 32) = wa at *
              go_region_held3 (fun w' => w'.cell? ⟨wr.heap.size, 1, none⟩ = some (.int .i64 x2)) (first | exact ca1 | exact ca2 | exact ca3) (first
                | (go_at_call 10; refine (s1 _ (hra.later (by repeat (first | exact Below.refl _ _ | refine Below.drew ?_)))).mono ?_; rintro e w8 ⟨p8, c8, rfl, hv8, hr8, ho8⟩; have hx8 := XR.only_r (hxa.later (by repeat (first | exact Below.refl _ _ | refine Below.drew ?_))) (hra.later (by repeat (first | exact Below.refl _ _ | refine Below.drew ?_))) ho8 hgx.symm; have ca2 := only_cell ho8 (cell_later (by repeat (first | exact Below.refl _ _ | refine Below.drew ?_)) ca1) (by omega); have hb8 : Below w.heap.size w w8 := Below.trans (by first | exact hba | exact hba.drew | exact hba.drew.drew) (ho8.below hgw))
                | (go_at_call 11; refine (s2 _ (hx8.later (by repeat (first | exact Below.refl _ _ | refine Below.drew ?_)))).mono ?_; rintro e w9 ⟨p9, c9, rfl, hv9, hx9, ho9⟩; have hr9 := RR.only_x (hr8.later (by repeat (first | exact Below.refl _ _ | refine Below.drew ?_))) (hx8.later (by repeat (first | exact Below.refl _ _ | refine Below.drew ?_))) ho9 hgx; have ca3 := only_cell ho9 (cell_later (by repeat (first | exact Below.refl _ _ | refine Below.drew ?_)) ca2) (by omega); have hb9 : Below w.heap.size w w9 := Below.trans (by first | exact hb8 | exact hb8.drew) (ho9.below hsz5); have hv89 := (hv8.later (by repeat (first | exact Below.refl _ _ | refine Below.drew ?_))).only_x (hx8.later (by repeat (first | exact Below.refl _ _ | refine Below.drew ?_))) ho9)
                | (go_at_call 9; refine (equal_t _ _ N N _ (hv89.later (by repeat (first | exact Below.refl _ _ | refine Below.drew ?_))) (hv9.later (by repeat (first | exact Below.refl _ _ | refine Below.drew ?_))) rfl).mono ?_; rintro e w10 ⟨rfl, hw10⟩; have hw11 := hw10.symm; clear hw10; subst hw11))
              go_wp2
              have hxz := hx9
              obtain ⟨pz, cz, hxd, _⟩ := hxz
              have d0 := hxd.cells.1
              have d1 := hxd.cells.2
              have a1 := fun w' h' => rr_err g l2 e2 w' h'
              have a2 := fun w' h' => rr_left g l2 e2 w' h'
              have a3 := fun w' h' => rr_end g l2 e2 w' h'
              have a4 := fun w' h' => xend_any gx l2 e2 w' h'
              generalize endF l2.length e2 = EF at *
              clear s1 s2 hra hxa ca0 ca1
              go_region_held3 (fun w' => w'.cell? ⟨gx, 0, none⟩ = some (.slice pz l2.length cz) ∧ w'.cell? ⟨gx, 1, none⟩ = some (.int .i64 e2)) (first | exact ⟨d0, d1⟩ | exact ⟨z0, z1⟩) (first
                | (go_at_call 14; refine (a1 _ (hr9.later (by repeat (first | exact Below.refl _ _ | refine Below.drew ?_)))).mono ?_; rintro e w' ⟨rfl, hw⟩; subst hw)
                | (go_at_call 15; refine (a2 _ (hr9.later (by repeat (first | exact Below.refl _ _ | refine Below.drew ?_)))).mono ?_; rintro e w' ⟨rfl, hw⟩; subst hw)
                | (go_at_call 16; refine (a3 _ (hr9.later (by repeat (first | exact Below.refl _ _ | refine Below.drew ?_)))).mono ?_; rintro e w' ⟨rfl, hw⟩; subst hw)
                | (go_at_call 17; refine (a4 _ (hx9.later (by repeat (first | exact Below.refl _ _ | refine Below.drew ?_)))).mono ?_; rintro e w' ⟨rfl, nz, hw⟩; have hbz : Below w9.heap.size w9 w' := (by rw [hw]; exact below_drewN (by repeat (first | exact Below.refl _ _ | refine Below.drew ?_)) nz); have z0 := cell_later hbz d0; have z1 := cell_later hbz d1; clear hw))
              clear a1 a2 a3 a4 z0 z1 d0 d1 hxd ho8 ho9 hr8 hx8
              go_wp2
              go_roundw
              case rel => first | exact ⟨k + 1, l2, e2, by omega, by go_num, hr9.later hbz, hx9.later hbz, hel2, by omega, hb9.trans (hbz.mono hb9.size)⟩ | ((repeat apply Exists.intro); exact ⟨⟨k + 1, l2, e2, by omega, by go_num, hr9.later hbz, hx9.later hbz, hel2, by omega, hb9.trans (hbz.mono hb9.size)⟩, rfl⟩)
              case measure => simp [intOf]; omega
            · obtain ⟨N, l2, e2, hel2, hll2, s1, s2⟩ := step_flag g gx l' e hel (by omega)
              go_wp2_with fail
              generalize wr.alloc (.cells #[.int .i64 x1, .int .i64 x2] 32) = wa at *
              refine (s1 _ hra).mono ?_
              rintro e w8 ⟨rfl, hr8, ho8⟩
              have hx8 := XR.only_r hxa hra ho8 hgx.symm
              have hb8 : Below w.heap.size w w8 := hba.trans (ho8.below hgw)
              go_wp2_with fail
              refine (s2 _ hx8).mono ?_
              rintro e w9 ⟨rfl, hx9, ho9⟩
              have hr9 := RR.only_x hr8 hx8 ho9 hgx
              have hb9 : Below w.heap.size w w9 := hb8.trans (ho9.below hsz5)
              go_wp2
              have hxz := hx9
              obtain ⟨pz, cz, hxd, _⟩ := hxz
              have d0 := hxd.cells.1
              have d1 := hxd.cells.2
              have a1 := fun w' h' => rr_err g l2 e2 w' h'
              have a2 := fun w' h' => rr_left g l2 e2 w' h'
              have a3 := fun w' h' => rr_end g l2 e2 w' h'
              have a4 := fun w' h' => xend_any gx l2 e2 w' h'
              generalize endF l2.length e2 = EF at *
              clear s1 s2 hra hxa ca0 ca1
              go_region_held3 (fun w' => w'.cell? ⟨gx, 0, none⟩ = some (.slice pz l2.length cz) ∧ w'.cell? ⟨gx, 1, none⟩ = some (.int .i64 e2)) (first | exact ⟨d0, d1⟩ | exact ⟨z0, z1⟩) (first
                | (go_at_call 14; refine (a1 _ (hr9.later (by repeat (first | exact Below.refl _ _ | refine Below.drew ?_)))).mono ?_; rintro e w' ⟨rfl, hw⟩; subst hw)
                | (go_at_call 15; refine (a2 _ (hr9.later (by repeat (first | exact Below.refl _ _ | refine Below.drew ?_)))).mono ?_; rintro e w' ⟨rfl, hw⟩; subst hw)
                | (go_at_call 16; refine (a3 _ (hr9.later (by repeat (first | exact Below.refl _ _ | refine Below.drew ?_)))).mono ?_; rintro e w' ⟨rfl, hw⟩; subst hw)
                | (go_at_call 17; refine (a4 _ (hx9.later (by repeat (first | exact Below.refl _ _ | refine Below.drew ?_)))).mono ?_; rintro e w' ⟨rfl, nz, hw⟩; have hbz : Below w9.heap.size w9 w' := (by rw [hw]; exact below_drewN (by repeat (first | exact Below.refl _ _ | refine Below.drew ?_)) nz); have z0 := cell_later hbz d0; have z1 := cell_later hbz d1; clear hw))
              clear a1 a2 a3 a4 z0 z1 d0 d1 hxd ho8 ho9 hr8 hx8
              go_wp2
              go_roundw
              case rel => first | exact ⟨k + 1, l2, e2, by omega, by go_num, hr9.later hbz, hx9.later hbz, hel2, by omega, hb9.trans (hbz.mono hb9.size)⟩ | ((repeat apply Exists.intro); exact ⟨⟨k + 1, l2, e2, by omega, by go_num, hr9.later hbz, hx9.later hbz, hel2, by omega, hb9.trans (hbz.mono hb9.size)⟩, rfl⟩)
              case measure => simp [intOf]; omega
          · have hk41 : 40 ≤ (k : Int) := by omega
            go_wp2_with fail
            refine (codecAwake_any _).mono ?_
            rintro e w8 ⟨rfl, hb8⟩
            go_wp2
            go_ret
            exact ⟨rfl, hba.trans (hb8.mono hba.size)⟩
        · go_wp2_with fail
          refine (codecAwake_any _).mono ?_
          rintro e w8 ⟨rfl, hb8⟩
          go_wp2
          go_ret
          exact ⟨rfl, hbe.trans (hb8.mono hbe.size)⟩

end Go.Proofs.Ytpnginemjcphcaa
