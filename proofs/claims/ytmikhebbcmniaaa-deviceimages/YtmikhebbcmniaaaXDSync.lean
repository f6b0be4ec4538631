/- What this text proves: the walk of the document's device's Sync over this program. -/
import Derived.Test.YtmikhebbcmniaaaXDWrite
namespace Go.Proofs.Ytmikhebbcmniaaa
open Go.RowKit

theorem sync_x {s : DevS} (hs : s.stops = false) {w : World} {bx bl bk bw cl ck cw : Nat} (hok : s.sync.Ok)
    (h : XG w bx bl bk bw cl ck cw s.now.length (nowF s) (fun j => if j < s.now.length then nowF s j else keptF s j) (fun j => if j < s.now.length then false else waitF s j) s.counted.fuse s.counted.dead (s.counted.ch : Int)) : XDev w bx bl bk bw cl ck cw s.sync := by
  refine ⟨hok, ?_⟩
  have e0 : s.sync.now = s.now := by rw [xs_eq hs]; exact counted_now s
  have e1 : s.sync.fuse = s.counted.fuse := by rw [xs_eq hs]
  have e2 : s.sync.dead = s.counted.dead := by rw [xs_eq hs]
  have e3 : s.sync.ch = s.counted.ch := by rw [xs_eq hs]
  have e4 : s.sync.old = fun _ => none := by rw [xs_eq hs]
  rw [e0, e1, e2, e3]
  refine h.congr (fun j _ => ?_) (fun j hj => ?_) (fun j hj => ?_)
  · unfold nowF; rw [e0]
  · unfold keptF nowF; rw [e0, e4, if_pos hj]; rfl
  · unfold waitF; rw [e4, if_pos hj]; rfl

set_option maxRecDepth 10000 in
set_option maxHeartbeats 1600000 in
theorem rsync_any {w : World} {bx bl bk bw cl ck cw : Nat} {s : DevS} (h : XDev w bx bl bk bw cl ck cw s) (hc : s.ch + 1 ≤ 1099511627776) :
    Calls Try.prog 38 #[.pointer (some ⟨bx, 0, none⟩)] w fun e w' => e = .returned (.int .i64 s.err) ∧ XDev w' bx bl bk bw cl ck cw s.sync ∧ Part (xS bx bl bk bw) w w' := by
  have HB1 := rburn_any h hc
  have hq := h.ok.most
  cases hs : s.stops
  · have he : s.err = 0 := by simp [DevS.err, hs]
    rw [he] at HB1 ⊢
    have hok := h.ok.sync hc
    have hfin : ∀ W, XG W bx bl bk bw cl ck cw s.now.length (nowF s) (fun j => if j < s.now.length then nowF s j else keptF s j) (fun j => if j < s.now.length then false else waitF s j) s.counted.fuse s.counted.dead (s.counted.ch : Int) → XDev W bx bl bk bw cl ck cw s.sync := fun W hx => sync_x hs hok hx
    have hst : ∀ w2, XDev w2 bx bl bk bw cl ck cw s.counted → XG w2 bx bl bk bw cl ck cw s.now.length (nowF s) (fun j => if j < 0 then nowF s j else keptF s j) (fun j => if j < 0 then false else waitF s j) s.counted.fuse s.counted.dead (s.counted.ch : Int) := by
      intro w2 h2
      have q := h2.g
      rw [counted_now, counted_nowF, counted_keptF, counted_waitF] at q
      simpa using q
    generalize s.counted.fuse = F1 at *
    generalize s.counted.dead = F2 at *
    generalize (s.counted.ch : Int) = F3 at *
    generalize s.counted = S1 at *
    generalize s.sync = S2 at *
    generalize nowF s = A1 at *
    generalize keptF s = A2 at *
    generalize waitF s = A3 at *
    generalize s.now.length = n at *
    clear h hok hc he hs
    go_enter Try.func38, Try.ntmps38
    go_wp2_with (first
      | (go_at_call 52; refine HB1.mono ?_; rintro e w2 ⟨rfl, h2, p2⟩; have q2 := hst w2 h2; have d0 := q2.db.cells.1))
    have p2' := p2.of_eq (T := xS bx bl bk bw) (fun k e => .inl e)
    clear HB1 hst h2 p2 d0
    go_loopw [15] (fun i wr => ∃ k : Nat, k ≤ n ∧ i = .int .i64 k ∧ XG wr bx bl bk bw cl ck cw n A1 (fun j => if j < k then A1 j else A2 j) (fun j => if j < k then false else A3 j) F1 F2 F3 ∧ Part (xS bx bl bk bw) w wr) (fun i _ => n - (RowKit.intOf i).toNat)
    case atStart => exact ⟨0, Nat.zero_le _, rfl, q2, p2'⟩
    case round =>
      obtain ⟨k, hk, rfl, q, pa⟩ := hrel
      clear q2 p2'
      by_cases hlt : k < n
      · obtain ⟨d0, d1, d2, _⟩ := q.db.cells
        obtain ⟨u1, hu1, hx1⟩ := q.l.cell k hlt
        obtain ⟨u2, hu2, _⟩ := q.k.cell k hlt
        have hu3 := q.w.cell k hlt
        have fz2 := q.k.free k
        have fz3 := q.w.free k
        obtain ⟨n1, n2, n3, n4, n5⟩ := q.nes
        have n6 := q.ne
        have hlt2 : (k : Int) < (n : Int) := by omega
        obtain ⟨p1, c1, rfl⟩ := hx1.1.shape
        generalize (A1 k).length = m1 at *
        have e0 : wr.drew.cell? ⟨bx, 0, none⟩ = some (.slice (some ⟨bl, 0, none⟩) n cl) := d0
        have e1 : wr.drew.cell? ⟨bx, 1, none⟩ = some (.slice (some ⟨bk, 0, none⟩) n ck) := d1
        have e2 : wr.drew.cell? ⟨bx, 2, none⟩ = some (.slice (some ⟨bw, 0, none⟩) n cw) := d2
        have e3 : wr.drew.cell? ⟨bl, k, none⟩ = some (.slice p1 m1 c1) := hu1
        have q3 := q.putK k (.slice p1 m1 c1) _ hx1
        have q4 := q3.putW k false
        have e6 := q3.w.cell k hlt
        have e7 := q3.w.free k
        obtain ⟨g0, g1, g2, _⟩ := (q3.later (Below.refl _ _).drew).db.cells
        have g3 : (wr.setCell ⟨bk, k, none⟩ (.slice p1 m1 c1)).drew.cell? ⟨bl, k, none⟩ = some (.slice p1 m1 c1) := (cell_put_ne wr bk bl k k (.slice p1 m1 c1) n6).trans hu1
        obtain ⟨j0, j1, j2, _⟩ := (q4.later (Below.refl _ _).drew).db.cells
        have j3 : ((wr.setCell ⟨bk, k, none⟩ (.slice p1 m1 c1)).setCell ⟨bw, k, none⟩ (.bool false)).drew.cell? ⟨bl, k, none⟩ = some (.slice p1 m1 c1) := (cell_put_ne (wr.setCell ⟨bk, k, none⟩ (.slice p1 m1 c1)) bw bl k k (.bool false) n4).trans g3
        have p4 : Part (xS bx bl bk bw) w ((wr.setCell ⟨bk, k, none⟩ (.slice p1 m1 c1)).setCell ⟨bw, k, none⟩ (.bool false)).drew := ((pa.setCell _ _ (.inr (.inr (.inl rfl)))).setCell _ _ (.inr (.inr (.inr rfl)))).drew
        have hnx : XG ((wr.setCell ⟨bk, k, none⟩ (.slice p1 m1 c1)).setCell ⟨bw, k, none⟩ (.bool false)).drew bx bl bk bw cl ck cw n A1 (fun j => if j < k + 1 then A1 j else A2 j) (fun j => if j < k + 1 then false else A3 j) F1 F2 F3 := by
          refine (q4.later (Below.refl _ _).drew).congr (fun j _ => rfl) (fun j _ => ?_) (fun j _ => ?_)
          · by_cases h1 : j = k
            · subst h1; simp
            · by_cases h2 : j < k
              · rw [if_neg h1, if_pos h2, if_pos (by omega)]
              · rw [if_neg h1, if_neg h2, if_neg (by omega)]
          · by_cases h1 : j = k
            · subst h1; simp
            · by_cases h2 : j < k
              · rw [if_neg h1, if_pos h2, if_pos (by omega)]
              · rw [if_neg h1, if_neg h2, if_neg (by omega)]
        clear q q3 q4 hx1 hu3 fz3 pa
        go_wp2
        go_region_held3 (fun W => W.cell? ⟨bx, 0, none⟩ = some (.slice (some ⟨bl, 0, none⟩) n cl) ∧ W.cell? ⟨bx, 1, none⟩ = some (.slice (some ⟨bk, 0, none⟩) n ck) ∧ W.cell? ⟨bx, 2, none⟩ = some (.slice (some ⟨bw, 0, none⟩) n cw) ∧ W.cell? ⟨bl, k, none⟩ = some (.slice p1 m1 c1)) (first | with_reducible exact ⟨e0, e1, e2, e3⟩ | with_reducible exact ⟨g0, g1, g2, g3⟩ | with_reducible exact ⟨j0, j1, j2, j3⟩ | fail) (fail)
        go_wp2
        go_roundw
        case rel => first | exact ⟨k + 1, by omega, by go_num, hnx, p4⟩ | ((repeat apply Exists.intro); exact ⟨⟨k + 1, by omega, by go_num, hnx, p4⟩, rfl⟩)
        case measure => simp [RowKit.intOf]; omega
      · obtain rfl : k = n := by omega
        have r := hfin wr q
        clear hfin q
        go_wp2
        go_ret
        exact ⟨rfl, r, pa⟩
  · have he : s.err = 70 := by simp [DevS.err, hs]
    rw [he] at HB1 ⊢
    have hw : s.sync = s.counted := by simp [DevS.sync, hs]
    rw [hw]
    clear h
    go_enter Try.func38, Try.ntmps38
    go_wp2_with (go_at_call 52; refine HB1.mono ?_; rintro e w2 ⟨rfl, h2, p2⟩)
    go_ret
    exact ⟨rfl, h2, p2.of_eq (fun k e => .inl e)⟩

end Go.Proofs.Ytmikhebbcmniaaa
