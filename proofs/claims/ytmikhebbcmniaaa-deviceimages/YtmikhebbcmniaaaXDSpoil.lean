/- What this text proves: the walk of annalsplain.Spoil over this program: rows of 64 bytes in blocks of the call's own; nothing else changes. -/
import Derived.Test.YtmikhebbcmniaaaXDImage
namespace Go.Proofs.Ytmikhebbcmniaaa
open Go.RowKit

/-- Block b holds 64 bytes. -/
def ByB (w : World) (b : Nat) : Prop := ∃ (cs : Array Value) (T : TypeId), w.heap[b]? = some (.cells cs T (0, 0)) ∧ cs.size = 64 ∧ ∀ i, i < 64 → ∃ z : Int, cs[i]? = some (.int .u8 z)

theorem ByB.put {w : World} {b : Nat} (h : ByB w b) (b' i : Nat) (z : Int) : ByB (w.setCell ⟨b', i, none⟩ (.int .u8 z)) b := by
  obtain ⟨cs, T, h1, h2, h3⟩ := h
  by_cases hb : b = b'
  · subst hb
    refine ⟨cs.setIfInBounds i (.int .u8 z), T, heap_setCell_same w b i _ _ _ h1, by simpa using h2, fun j hj => ?_⟩
    by_cases hji : i = j
    · subst hji
      exact ⟨z, by rw [Array.getElem?_setIfInBounds_self_of_lt (by omega)]⟩
    · rw [Array.getElem?_setIfInBounds_ne hji]
      exact h3 j hj
  · exact ⟨cs, T, by rw [heap_setCell_other w ⟨b', i, none⟩ b _ hb]; exact h1, h2, h3⟩
theorem ByB.cell {w : World} {b : Nat} (h : ByB w b) (i : Nat) (hi : i < 64) : ∃ z : Int, w.cell? ⟨b, i, none⟩ = some (.int .u8 z) := by
  obtain ⟨cs, T, h1, h2, h3⟩ := h
  obtain ⟨z, hz⟩ := h3 i hi
  exact ⟨z, by rw [cell_of_row w b i _ _ _ h1]; exact hz⟩
theorem ByB.free {w : World} {b : Nat} (h : ByB w b) (i : Nat) : w.frozen? ⟨b, i, none⟩ = false := by
  obtain ⟨cs, T, h1, _⟩ := h
  simp [World.frozen?, h1]

/-- n rows of 64 bytes in blocks from base on, at block g. -/
def RowsB (w : World) (base g n : Nat) : Prop := ∀ j, j < n → ∃ b, w.cell? ⟨g, j, none⟩ = some (.slice (some ⟨b, 0, none⟩) 64 64) ∧ base ≤ b ∧ b ≠ g ∧ ByB w b
theorem RowsB.put {w : World} {base g n b : Nat} (h : RowsB w base g n) (hb : b ≠ g) (i : Nat) (z : Int) : RowsB (w.setCell ⟨b, i, none⟩ (.int .u8 z)) base g n := by
  intro j hj
  obtain ⟨b', e1, e2, e3, e4⟩ := h j hj
  exact ⟨b', by rw [cell_put_ne w b g i j _ (Ne.symm hb)]; exact e1, e2, e3, e4.put b i z⟩

set_option maxHeartbeats 1600000 in
theorem spoil_any {w : World} (base g n c : Nat) (hn : n ≤ 16384) (h : RowsB w base g n) : Calls Try.prog 15 #[.slice (some ⟨g, 0, none⟩) n c] w fun e w' => e = .returned (.tuple #[]) ∧ Below base w w' := by
  go_enter Try.func15, Try.ntmps15
  go_wp2
  go_loopw [7] (fun i wr => ∃ k : Nat, k ≤ n ∧ i = .int .i64 k ∧ RowsB wr base g n ∧ Below base w wr) (fun i _ => n - (RowKit.intOf i).toNat)
  case atStart => exact ⟨0, Nat.zero_le _, rfl, h, Below.refl _ _⟩
  case round =>
    obtain ⟨k, hk, rfl, hr, hbe⟩ := hrel
    by_cases hlt : k < n
    · have hlt2 : (k : Int) < (n : Int) := by omega
      obtain ⟨b, e1, e2, e3, e4⟩ := hr k hlt
      go_wp2
      generalize wr = wo at *
      go_loopw [13] (fun i wr => ∃ q : Nat, q ≤ 64 ∧ i = .int .i64 q ∧ RowsB wr base g n ∧ ByB wr b ∧ Below base w wr) (fun i _ => 64 - (RowKit.intOf i).toNat)
      case atStart => exact ⟨0, Nat.zero_le _, rfl, hr, e4, hbe⟩
      case round =>
        obtain ⟨q, hq, rfl, hr2, hb2, hbe2⟩ := hrel
        by_cases hq2 : q < 64
        · have hq3 : (q : Int) < 64 := by omega
          obtain ⟨z, hz⟩ := hb2.cell q hq2
          have fz := hb2.free q
          have r1 := fun y => hr2.put e3 q y
          have r2 := fun y => hb2.put b q y
          have r3 : ∀ y : Int, Below base w (wr.setCell ⟨b, q, none⟩ (.int .u8 y)) := fun y => hbe2.setCell e2 _
          clear hr hbe e1 e4 hr2 hb2 hbe2 h
          go_wp2
          go_roundw
          case rel => first | exact ⟨q + 1, by omega, by go_num, r1 _, r2 _, r3 _⟩ | ((repeat apply Exists.intro); exact ⟨⟨q + 1, by omega, by go_num, r1 _, r2 _, r3 _⟩, rfl⟩)
          case measure => simp [RowKit.intOf]; omega
        · obtain rfl : q = 64 := by omega
          clear hr hbe e1 e4 h
          go_wp2
          go_roundw
          case rel => first | exact ⟨k + 1, by omega, by go_num, hr2, hbe2⟩ | ((repeat apply Exists.intro); exact ⟨⟨k + 1, by omega, by go_num, hr2, hbe2⟩, rfl⟩)
          case measure => simp [RowKit.intOf]; omega
    · go_wp2
      go_end0
      exact ⟨rfl, hbe⟩

end Go.Proofs.Ytmikhebbcmniaaa
