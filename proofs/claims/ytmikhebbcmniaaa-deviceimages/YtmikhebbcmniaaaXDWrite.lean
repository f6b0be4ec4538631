/- What this text proves: the walk of the document's device's Write over this program, where it is written. -/
import Derived.Test.YtmikhebbcmniaaaXDBase
namespace Go.Proofs.Ytmikhebbcmniaaa
open Go.RowKit

theorem HB.away {w w' : World} {v : Value} {l : List UInt8} {S : Nat → Prop} (h : HB w v l) (hp : Part S w w') (hv : ∀ a n c, v = .slice (some a) n c → ¬ S a.block) : HB w' v l := by
  obtain ⟨p, cap, e, h1, h2, h3, h4⟩ := h
  refine ⟨p, cap, e, h1, h2, h3, fun hne => ?_⟩
  obtain ⟨b, o, e1, e2⟩ := h4 hne
  refine ⟨b, o, e1, fun i x hx => ?_⟩
  have hc := e2 i x hx
  rw [World.cell?_of_block (w := w) (hp.2 b (World.block_lt_of_cell? w _ hc) (hv ⟨b, o, none⟩ l.length cap (by rw [e, e1])))]
  exact hc

theorem cell_put_ne (w : World) (b b' i j : Nat) (x : Value) (h : b' ≠ b) : (w.setCell ⟨b, i, none⟩ x).cell? ⟨b', j, none⟩ = w.cell? ⟨b', j, none⟩ := World.cell?_setCell_other w _ _ x (by intro e; cases e; exact h rfl)

theorem Part.of_eq {S T : Nat → Prop} {w w' : World} (h : Part S w w') (hT : ∀ k, S k → T k) : Part T w w' := h.mono (fun k _ s => hT k s)

set_option maxRecDepth 10000 in
set_option maxHeartbeats 1600000 in
theorem rwrite_any {w : World} {bx bl bk bw cl ck cw : Nat} {s : DevS} (h : XDev w bx bl bk bw cl ck cw s) (i : Nat) (p : Option Addr) (c : Nat) (l : List UInt8) (hv : HB w (.slice p 64 c) l) (hi : i < s.now.length) (hc : s.ch + 1 ≤ 1099511627776) (hb : ∀ a, p = some a → a.block ≠ bx) :
    Calls Try.prog 37 #[.pointer (some ⟨bx, 0, none⟩), .int .i64 (i : Int), .slice p 64 c] w fun e w' => e = .returned (.int .i64 s.err) ∧ XDev w' bx bl bk bw cl ck cw (s.write i l) ∧ Part (xS bx bl bk bw) w w' := by
  have hlen : l.length = 64 := hv.len.1.symm
  have HB1 := rburn_any h hc
  have c0 := h.g.db.cells.1
  have hq := h.ok.most
  have hi0 : ¬ (i : Int) < 0 := by omega
  have hi1 : (i : Int) < (s.now.length : Int) := by omega
  cases hs : s.stops
  · have he : s.err = 0 := by simp [DevS.err, hs]
    rw [he] at HB1 ⊢
    have hok := h.ok.write hc i l hi hlen
    have hu8 := i_u8
    have hfar : ∀ w2, XDev w2 bx bl bk bw cl ck cw s.counted → Part (fun k => k = bx) w w2 → w2.cell? ⟨bx, 0, none⟩ = some (.slice (some ⟨bl, 0, none⟩) s.now.length cl) ∧ w2.cell? ⟨bx, 2, none⟩ = some (.slice (some ⟨bw, 0, none⟩) s.now.length cw) ∧ HB w2 (.slice p 64 c) l ∧ (∃ u, w2.cell? ⟨bl, i, none⟩ = some u) ∧ (∃ u, w2.cell? ⟨bw, i, none⟩ = some u) ∧ bl < w2.heap.size ∧ bw < w2.heap.size ∧ bx < w2.heap.size := by
      intro w2 h2 p2
      have q := h2.g
      rw [counted_now] at q
      obtain ⟨d0, d1, d2, _⟩ := q.db.cells
      obtain ⟨u, hu, _⟩ := q.l.cell i hi
      exact ⟨d0, d2, hv.away p2 (fun a n c e => by cases e; exact hb a rfl), ⟨u, hu⟩, ⟨_, q.w.cell i hi⟩, q.l.lt, q.w.lt, q.db.lt⟩
    have hfin : ∀ w2 w3 x, XDev w2 bx bl bk bw cl ck cw s.counted → Part (fun k => k = bx) w w2 → Below w2.heap.size w2 w3 → HBT w3 x l →
        XDev ((w3.setCell ⟨bl, i, none⟩ x).setCell ⟨bw, i, none⟩ (.bool true)) bx bl bk bw cl ck cw (s.write i l) ∧ Part (xS bx bl bk bw) w ((w3.setCell ⟨bl, i, none⟩ x).setCell ⟨bw, i, none⟩ (.bool true)) := by
      intro w2 w3 x h2 p2 b3 hx
      have q := h2.g.later b3
      rw [counted_now, counted_nowF, counted_keptF, counted_waitF] at q
      refine ⟨write_x hs i l hi hok ((q.putL i x l hx).putW i true), ?_⟩
      have p3 : Part (xS bx bl bk bw) w w3 := (p2.of_eq (T := xS bx bl bk bw) (fun k e => .inl e)).trans (Part.of_below (S := xS bx bl bk bw) b3) (fun k _ e => e)
      exact (p3.setCell _ _ (.inr (.inl rfl))).setCell _ _ (.inr (.inr (.inr rfl)))
    generalize s.counted = S1 at *
    generalize s.write i l = S2 at *
    generalize s.now.length = n at *
    clear h hok
    go_enter Try.func37, Try.ntmps37
    go_wp2_with (first
      | (go_at_call 52; refine HB1.mono ?_; rintro e w2 ⟨rfl, h2, p2⟩))
    obtain ⟨d0, d2, hv2, ⟨u1, hu1⟩, ⟨u2, hu2⟩, lt1, lt2, lt3⟩ := hfar w2 h2 p2
    have hfi := fun w3 x => hfin w2 w3 x h2 p2
    clear hfar hfin HB1 c0 hv
    have bA := (Below.refl w2.heap.size w2).drew.alloc (by simp) (.cells #[] 5)
    have a0 := cell_later bA d0
    have a2 := cell_later bA d2
    have oA : (w2.drew.alloc (.cells #[] 5)).ownsRow w2.heap.size 5 1 (.slice (some ⟨w2.heap.size, 0, none⟩) 0 0) 0 (bcs []) := World.ownsRow_made w2.drew #[] 0 (Nat.le_refl _) (Nat.zero_le _) rfl
    have hvA := hv2.later bA
    have hnes := h2.g.nes
    have n1 : bx ≠ bl := hnes.1
    have n2 : bx ≠ bw := hnes.2.2.1
    have n3 : bl ≠ bw := hnes.2.2.2.1
    have hro : ∀ v' w3, w3.ownsRow w2.heap.size 5 1 v' (0 + 64) (bcs [] ++ bcs l) → (w2.drew.alloc (.cells #[] 5)).grownBy w3 (some w2.heap.size) →
        Below w2.heap.size w2 w3 ∧ HBT w3 v' l ∧ w3.cell? ⟨bx, 0, none⟩ = some (.slice (some ⟨bl, 0, none⟩) n cl) ∧ w3.cell? ⟨bx, 2, none⟩ = some (.slice (some ⟨bw, 0, none⟩) n cw) ∧ w3.cell? ⟨bl, i, none⟩ = some u1 ∧ w3.cell? ⟨bw, i, none⟩ = some u2 ∧ w3.frozen? ⟨bl, i, none⟩ = false ∧ w3.frozen? ⟨bw, i, none⟩ = false := by
      intro v' w3 ow gr
      have b3 : Below w2.heap.size w2 w3 := bA.grown gr (by simp) (fun k e => by cases e; exact Nat.le_refl _)
      have q3 := h2.g.later b3
      exact ⟨b3, HBT.of_owns (n := 64) (by simpa [bcs] using ow), cell_later b3 d0, cell_later b3 d2, cell_later b3 hu1, cell_later b3 hu2, q3.l.free i, q3.w.free i⟩
    have e0 : w2.drew.cell? ⟨bx, 0, none⟩ = some (.slice (some ⟨bl, 0, none⟩) n cl) := d0
    have e2 : w2.drew.cell? ⟨bx, 2, none⟩ = some (.slice (some ⟨bw, 0, none⟩) n cw) := d2
    have a0' : (w2.alloc (.cells #[] 5)).drew.cell? ⟨bx, 0, none⟩ = some (.slice (some ⟨bl, 0, none⟩) n cl) := a0
    have a2' : (w2.alloc (.cells #[] 5)).drew.cell? ⟨bx, 2, none⟩ = some (.slice (some ⟨bw, 0, none⟩) n cw) := a2
    clear h2 p2 hnes hv2
    go_region_held3 (fun W => W.cell? ⟨bx, 0, none⟩ = some (.slice (some ⟨bl, 0, none⟩) n cl) ∧ W.cell? ⟨bx, 2, none⟩ = some (.slice (some ⟨bw, 0, none⟩) n cw)) (first | with_reducible exact ⟨e0, e2⟩ | with_reducible exact ⟨a0', a2'⟩ | with_reducible exact ⟨d0, d2⟩ | with_reducible exact ⟨a0, a2⟩ | with_reducible exact ⟨g0, g2⟩ | with_reducible exact ⟨j0, j2⟩ | with_reducible exact ⟨k0, k2⟩ | fail) (first
      | (refine step_append_any (by rfl) _ _ _ (by rfl) w2.heap.size 5 Try.underlying31 hu8 _ 0 (bcs []) (by rfl) oA p 64 c l (by rfl) hvA (by omega) (by simp) ?_; intro v' w3 ow gr; obtain ⟨p1, c1, rfl⟩ := owns_shape ow; obtain ⟨b3, hx3, g0, g2, g4, g5, fz1, fz2⟩ := hro _ w3 ow gr; have j0 := (cell_put_ne w3 bl bx i 0 (.slice p1 (0 + 64) c1) n1).trans g0; have j2 := (cell_put_ne w3 bl bx i 2 (.slice p1 (0 + 64) c1) n1).trans g2; have k0 := (cell_put_ne (w3.setCell ⟨bl, i, none⟩ (.slice p1 (0 + 64) c1)) bw bx i 0 (.bool true) n2).trans j0; have k2 := (cell_put_ne (w3.setCell ⟨bl, i, none⟩ (.slice p1 (0 + 64) c1)) bw bx i 2 (.bool true) n2).trans j2; have k5 := (cell_put_ne w3 bl bw i i (.slice p1 (0 + 64) c1) n3.symm).trans g5))
    obtain ⟨r1, r2⟩ := hfi w3 _ b3 hx3
    clear hro hfi ow gr oA hvA bA
    go_wp2
    go_ret
    exact ⟨rfl, r1, r2⟩
  · have he : s.err = 70 := by simp [DevS.err, hs]
    rw [he] at HB1 ⊢
    have hw : s.write i l = s.counted := by simp [DevS.write, hs]
    rw [hw]
    clear h
    go_enter Try.func37, Try.ntmps37
    go_wp2_with (go_at_call 52; refine HB1.mono ?_; rintro e w2 ⟨rfl, h2, p2⟩)
    go_ret
    exact ⟨rfl, h2, p2.of_eq (fun k e => .inl e)⟩

end Go.Proofs.Ytmikhebbcmniaaa
