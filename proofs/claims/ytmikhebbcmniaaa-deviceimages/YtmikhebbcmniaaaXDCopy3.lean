/- What this text proves: the walks of the document's device's Copy and Read over this program. -/
import Derived.Test.YtmikhebbcmniaaaXDCopy2
import Derived.Test.YtmikhebbcmniaaaXDImage
namespace Go.Proofs.Ytmikhebbcmniaaa
open Go.RowKit

/-- The cells of a row of rows. -/
theorem RR.list {w : World} {g n : Nat} {sig : Nat → List UInt8} (h : RR w g n sig) : ∃ us : List Value, us.length = n ∧ (∀ (j : Nat) u, us[j]? = some u → w.cell? ⟨g, j, none⟩ = some u ∧ HBT w u (sig j)) ∧ ∀ u ∈ us, u.oneCell' = true := by
  obtain ⟨cs, h1, h2, h3⟩ := h
  have hlen : (cs.toList.take n).length = n := by simp; omega
  have hall : ∀ (j : Nat) u, (cs.toList.take n)[j]? = some u → w.cell? ⟨g, j, none⟩ = some u ∧ HBT w u (sig j) := by
    intro j u hu
    have hj : j < n := by have := (List.getElem?_eq_some_iff.1 hu).1; omega
    rw [List.getElem?_take, if_pos hj] at hu
    have hu' : cs[j]? = some u := by simpa using hu
    obtain ⟨u', q1, q2⟩ := h3 j hj
    rw [hu'] at q1
    cases q1
    exact ⟨by rw [cell_of_row w g j _ _ _ h1]; exact hu', q2⟩
  refine ⟨cs.toList.take n, hlen, hall, fun u hu => ?_⟩
  obtain ⟨j, hj⟩ := List.getElem?_of_mem hu
  obtain ⟨p, c, rfl⟩ := (hall j u hj).2.1.shape
  rfl
theorem RW.list {w : World} {g n : Nat} {wt : Nat → Bool} (h : RW w g n wt) : ∃ us : List Value, us.length = n ∧ (∀ (j : Nat) u, us[j]? = some u → w.cell? ⟨g, j, none⟩ = some u ∧ u = .bool (wt j)) ∧ ∀ u ∈ us, u.oneCell' = true := by
  obtain ⟨cs, h1, h2, h3⟩ := h
  have hlen : (cs.toList.take n).length = n := by simp; omega
  have hall : ∀ (j : Nat) u, (cs.toList.take n)[j]? = some u → w.cell? ⟨g, j, none⟩ = some u ∧ u = .bool (wt j) := by
    intro j u hu
    have hj : j < n := by have := (List.getElem?_eq_some_iff.1 hu).1; omega
    rw [List.getElem?_take, if_pos hj] at hu
    have hu' : cs[j]? = some u := by simpa using hu
    have q := h3 j hj
    rw [hu'] at q
    cases q
    exact ⟨by rw [cell_of_row w g j _ _ _ h1]; exact hu', rfl⟩
  refine ⟨cs.toList.take n, hlen, hall, fun u hu => ?_⟩
  obtain ⟨j, hj⟩ := List.getElem?_of_mem hu
  rw [(hall j u hj).2]
  rfl
theorem owns_rr {w W : World} {B g n c : Nat} {sig : Nat → List UInt8} {us : List Value} (ho : W.ownsRow B 31 1 (.slice (some ⟨g, 0, none⟩) n c) n us) (hu : ∀ (j : Nat) u, us[j]? = some u → HBT w u (sig j)) (t : Sty 5 w W) : RR W g n sig ∧ n ≤ c ∧ c ≤ maxLen ∧ B ≤ g := by
  obtain ⟨h1, h2⟩ := ho
  rw [Nat.mul_one] at h1
  rcases h2 with ⟨h0, _⟩ | ⟨g', cap, cur, he, hb, hg, hle, hm, hs, ht⟩
  · cases h0
  · simp only [Value.slice.injEq, Option.some.injEq, Addr.mk.injEq, and_true, true_and] at he
    obtain ⟨rfl, rfl⟩ := he
    refine ⟨⟨cur, hg, by omega, fun j hj => ?_⟩, hle, hm, hb⟩
    obtain ⟨x, hx⟩ : ∃ x, us[j]? = some x := ⟨_, List.getElem?_eq_getElem (by omega)⟩
    refine ⟨x, ?_, (hu j x hx).sty t⟩
    rw [← ht, List.getElem?_take, if_pos (by omega)] at hx
    simpa using hx
theorem owns_rwt {W : World} {B g n c : Nat} {wt : Nat → Bool} {us : List Value} (ho : W.ownsRow B 4 1 (.slice (some ⟨g, 0, none⟩) n c) n us) (hu : ∀ (j : Nat) u, us[j]? = some u → u = .bool (wt j)) : RW W g n wt ∧ B ≤ g := by
  obtain ⟨h1, h2⟩ := ho
  rw [Nat.mul_one] at h1
  rcases h2 with ⟨h0, _⟩ | ⟨g', cap, cur, he, hb, hg, hle, hm, hs, ht⟩
  · cases h0
  · simp only [Value.slice.injEq, Option.some.injEq, Addr.mk.injEq, and_true, true_and] at he
    obtain ⟨rfl, rfl⟩ := he
    refine ⟨⟨cur, hg, by omega, fun j hj => ?_⟩, hb⟩
    obtain ⟨x, hx⟩ : ∃ x, us[j]? = some x := ⟨_, List.getElem?_eq_getElem (by omega)⟩
    have hx2 := hx
    rw [← ht, List.getElem?_take, if_pos (by omega)] at hx
    rw [hu j x hx2] at hx
    simpa using hx

theorem addr_add0 (b j : Nat) : (⟨b, 0, none⟩ : Addr).add j = ⟨b, j, none⟩ := by unfold Addr.add; split <;> simp_all

set_option maxRecDepth 100000 in
set_option maxHeartbeats 1600000 in
theorem rcopy_any {w : World} {bx bl bk bw cl ck cw : Nat} {s : DevS} (h : XDev w bx bl bk bw cl ck cw s) : Calls Try.prog 20 #[.pointer (some ⟨bx, 0, none⟩)] w fun e w' => ∃ gz g1 g2 g3 c1 c2 c3, e = .returned (.pointer (some ⟨gz, 0, none⟩)) ∧ XDev w' gz g1 g2 g3 c1 c2 c3 s ∧ w.heap.size ≤ gz ∧ w.heap.size ≤ g1 ∧ w.heap.size ≤ g2 ∧ w.heap.size ≤ g3 ∧ Below w.heap.size w w' := by
  obtain ⟨d0, d1, d2, d3, d4, d5⟩ := h.g.db.cells
  have bA := (Below.refl w.heap.size w).alloc (Nat.le_refl _) (.cells #[.slice (some ⟨bl, 0, none⟩) s.now.length cl, .slice (some ⟨bk, 0, none⟩) s.now.length ck, .slice (some ⟨bw, 0, none⟩) s.now.length cw, .int .i64 s.fuse, .bool s.dead, .int .i64 (s.ch : Int)] 74)
  have gA := heap_alloc_new w (.cells #[.slice (some ⟨bl, 0, none⟩) s.now.length cl, .slice (some ⟨bk, 0, none⟩) s.now.length ck, .slice (some ⟨bw, 0, none⟩) s.now.length cw, .int .i64 s.fuse, .bool s.dead, .int .i64 (s.ch : Int)] 74)
  have hgz : w.heap.size < (w.alloc (.cells #[.slice (some ⟨bl, 0, none⟩) s.now.length cl, .slice (some ⟨bk, 0, none⟩) s.now.length ck, .slice (some ⟨bw, 0, none⟩) s.now.length cw, .int .i64 s.fuse, .bool s.dead, .int .i64 (s.ch : Int)] 74)).heap.size := by simp
  have hA := h.g.later bA
  generalize hWA : w.alloc (.cells #[.slice (some ⟨bl, 0, none⟩) s.now.length cl, .slice (some ⟨bk, 0, none⟩) s.now.length ck, .slice (some ⟨bw, 0, none⟩) s.now.length cw, .int .i64 s.fuse, .bool s.dead, .int .i64 (s.ch : Int)] 74) = WA at *
  obtain ⟨us, u1, u2, u3⟩ := hA.l.list
  obtain ⟨ks, k1, k2, k3⟩ := hA.k.list
  obtain ⟨bs, b1, b2, b3⟩ := hA.w.list
  have hu : us.length = s.now.length ∧ ∀ W, Below WA.heap.size WA W → ∀ (j : Nat) u, us[j]? = some u → W.cell? ((⟨bl, 0, none⟩ : Addr).add j) = some u := ⟨u1, fun W b j u hj => by rw [addr_add0]; exact cell_later b (u2 j u hj).1⟩
  have hk : ks.length = s.now.length ∧ ∀ W, Below WA.heap.size WA W → ∀ (j : Nat) u, ks[j]? = some u → W.cell? ((⟨bk, 0, none⟩ : Addr).add j) = some u := ⟨k1, fun W b j u hj => by rw [addr_add0]; exact cell_later b (k2 j u hj).1⟩
  have hb : bs.length = s.now.length ∧ ∀ W, Below WA.heap.size WA W → ∀ (j : Nat) u, bs[j]? = some u → W.cell? ((⟨bw, 0, none⟩ : Addr).add j) = some u := ⟨b1, fun W b j u hj => by rw [addr_add0]; exact cell_later b (b2 j u hj).1⟩
  have hfin : ∀ g1 g2 g3 c1 c2 c3 W, W.ownsRow WA.heap.size 31 1 (.slice (some ⟨g1, 0, none⟩) s.now.length c1) s.now.length us → W.ownsRow WA.heap.size 31 1 (.slice (some ⟨g2, 0, none⟩) s.now.length c2) s.now.length ks → W.ownsRow WA.heap.size 4 1 (.slice (some ⟨g3, 0, none⟩) s.now.length c3) s.now.length bs → g1 ≠ g2 →
      W.heap[w.heap.size]? = some (.cells #[.slice (some ⟨g1, 0, none⟩) s.now.length c1, .slice (some ⟨g2, 0, none⟩) s.now.length c2, .slice (some ⟨g3, 0, none⟩) s.now.length c3, .int .i64 s.fuse, .bool s.dead, .int .i64 (s.ch : Int)] 74 (0, 0)) → Below w.heap.size WA W → Sty 5 WA W → XDev W w.heap.size g1 g2 g3 c1 c2 c3 s ∧ w.heap.size ≤ g1 ∧ w.heap.size ≤ g2 ∧ w.heap.size ≤ g3 ∧ Below w.heap.size w W := by
    intro g1 g2 g3 c1 c2 c3 W o1 o2 o3 ne X bW t
    obtain ⟨r1, e1, e2, e3⟩ := owns_rr o1 (fun j u hj => (u2 j u hj).2) t
    obtain ⟨r2, _, _, e4⟩ := owns_rr o2 (fun j u hj => (k2 j u hj).2) t
    obtain ⟨r3, e5⟩ := owns_rwt o3 (fun j u hj => (b2 j u hj).2)
    exact ⟨⟨h.ok, X, r1, r2, r3, ne, e1, e2⟩, by omega, by omega, by omega, bA.trans bW⟩
  have hn1 := h.ok.pos
  have hn2 := h.ok.most
  have hxb := hA.db
  clear hA h u2 k2 b2 bA
  generalize s.now.length = n at *
  generalize s.fuse = F1 at *
  generalize s.dead = F2 at *
  generalize (s.ch : Int) = F3 at *
  go_enter Try.func20, Try.ntmps20
  go_wp2
  refine of2 WA bx w.heap.size bl bk bw cl ck cw n F1 F2 F3 us ks bs _ _ _ _ _ _ _ _ _ _ _ _ _ _ _ _ _ _ _ _ _ _ _ _ _ _ _ _ hxb gA hgz hn1 hn2 hu u3 hk k3 hb b3 ?_
  clear hu hk hb u3 k3 b3 gA hxb
  intro _ _ _ _ _ _ _ _ _ _ _ _ _ _ _ _ _ _ _ _ _ g1 g2 g3 c1 c2 c3 W o1 o2 o3 ne X bW t
  obtain ⟨r1, r2, r3, r4, r5⟩ := hfin g1 g2 g3 c1 c2 c3 W o1 o2 o3 ne X bW t
  clear hfin o1 o2 o3 X bW t
  go_wp2
  go_ret
  exact ⟨_, g1, g2, g3, c1, c2, c3, rfl, r1, Nat.le_refl _, r2, r3, r4, r5⟩

end Go.Proofs.Ytmikhebbcmniaaa
